/- frame: all that the program's functions tell of a frame. -/
import Derived.Test.YtfliniknaonieaaFrameW
namespace Go.Proofs.Ytfliniknaonieaa
set_option linter.unusedSimpArgs false
set_option linter.unusedVariables false
set_option linter.unusedSectionVars false
open Go.RowKit

theorem fsays : FSays Fr where
  apart h k ap := h.apart k ap
  below h := h.below
  new W H w hW hH := new_any W H w hW hH
  newBad W H w hW hH hb := newBad_any W H w hW hH hb
  size h _ := by
    obtain ⟨A, cap, h⟩ := h
    exact size_any h
  at_ x y c hc h hs hx hy := at_any x y c hc h hs hx hy
  fill r c n hn h hs hr _ := (fill_any r c n hn h hs.2.1 hs.2.2.1 hs.2.2.2.1 (by have := hs.2.2.2.2; omega) hr).mono fun _ _ ⟨h1, h2, h3⟩ => ⟨h1, h2, _, h3, fun _ hk => .inl hk⟩
  dots v l c n hn h hs hv ho hl hll _ := (dots_any v l c n hn h hs hv ho hl hll).mono fun _ _ ⟨h1, h2, h3⟩ => ⟨h1, h2, _, h3, fun _ hk => .inl hk⟩
  shift d h hs hd := shift_any d h hs hd
  line y h hs hy := line_any y h hs hy
  lay y v l c hc h hs hy hr _ hll := lay_any y v l c hc h hs hy hr hll
  writes h _ := by
    obtain ⟨A, cap, h⟩ := h
    exact writes_any h
  clone h hs := clone_any h hs
  same c hc h h2 hs hs2 := frSame_any c hc h h2 hs hs2
  sameNone _ _ := sameNone_any _ _
  noneSame w := noneSame_any w
end Go.Proofs.Ytfliniknaonieaa
