/- frame: all that the program's functions tell: of a frame, and of none. -/
import Derived.Test.YtmhgpgaikcimnaaFrameW
import Derived.Test.YtmhgpgaikcimnaaFrameN
namespace Go.Proofs.Ytmhgpgaikcimnaa
set_option linter.unusedSimpArgs false
set_option linter.unusedVariables false
set_option linter.unusedSectionVars false
open Go.RowKit

theorem fsays : FSays Fr where
  apart h k ap := h.apart k ap
  below h := h.below
  new W H w hW hH := new_any W H w hW hH
  newBad W H w hW hH hb := newBad_any W H w hW hH hb
  size h _ := by
    obtain ⟨A, cap, h⟩ := h
    exact size_any h
  at_ x y c hc h hs hx hy := at_any x y c hc h hs hx hy
  fill r c n hn h hs hr _ := (fill_any r c n hn h hs.2.1 hs.2.2.1 hs.2.2.2.1 (by have := hs.2.2.2.2; omega) hr).mono fun _ _ ⟨h1, h2, h3⟩ => ⟨h1, h2, _, h3, fun _ hk => .inl hk⟩
  dots v l c n hn h hs hv ho hl hll _ := (dots_any v l c n hn h hs hv ho hl hll).mono fun _ _ ⟨h1, h2, h3⟩ => ⟨h1, h2, _, h3, fun _ hk => .inl hk⟩
  shift d h hs hd := shift_any d h hs hd
  line y h hs hy := line_any y h hs hy
  lay y v l c hc h hs hy hr _ hll := lay_any y v l c hc h hs hy hr hll
  writes h _ := by
    obtain ⟨A, cap, h⟩ := h
    exact writes_any h
  clone h hs := clone_any h hs
  same c hc h h2 hs hs2 := frSame_any c hc h h2 hs hs2
  sameNone _ _ := sameNone_any _ _
  noneSame w := noneSame_any w

/-! ### no frame -/
theorem nSize_any (w : World) : Calls Try.prog 21 #[.pointer none] w fun e w' => e = .returned (.tuple #[.int .i64 0, .int .i64 0]) ∧ AnyLater w w' := by
  go_enter Try.func21, Try.ntmps21
  go_wp2_with fail
  exact bodyPost_ret (v := .tuple #[.int .i64 0, .int .i64 0]) (by simp [results, Try.results21, go_sem]) rfl ⟨rfl, by repeat' (first | with_reducible assumption | with_reducible exact AnyLater.refl _ | with_reducible apply AnyLater.setCell | with_reducible apply AnyLater.later | with_reducible apply AnyLater.drewN | with_reducible apply AnyLater.drew | with_reducible apply AnyLater.alloc | ((try simp only [World.size_alloc, World.size_setCell, World.size_drew]); (try dsimp only); omega))⟩
theorem nAt_any (w : World) (x y : Int) : Calls Try.prog 14 #[.pointer none, .int .i64 x, .int .i64 y] w fun e w' => e = .returned (.int .u32 0) ∧ AnyLater w w' := by
  go_enter Try.func14, Try.ntmps14
  go_wp2_with fail
  go_ret
  exact ⟨rfl, by repeat' (first | with_reducible assumption | with_reducible exact AnyLater.refl _ | with_reducible apply AnyLater.setCell | with_reducible apply AnyLater.later | with_reducible apply AnyLater.drewN | with_reducible apply AnyLater.drew | with_reducible apply AnyLater.alloc | ((try simp only [World.size_alloc, World.size_setCell, World.size_drew]); (try dsimp only); omega))⟩
theorem nFill_any (w : World) (r : Rt) (c : Int) : Calls Try.prog 22 #[.pointer none, rtV r, .int .u32 c] w fun e w' => e = .returned (.int .i64 0) ∧ AnyLater w w' := by
  unfold rtV
  go_enter Try.func22, Try.ntmps22
  go_wp2_with fail
  go_ret
  refine ⟨rfl, ?_⟩
  repeat' (first | with_reducible assumption | with_reducible exact AnyLater.refl _ | with_reducible apply AnyLater.setCell | with_reducible apply AnyLater.later | with_reducible apply AnyLater.drewN | with_reducible apply AnyLater.drew | with_reducible apply AnyLater.alloc | ((try simp only [World.size_alloc, World.size_setCell, World.size_drew]); (try dsimp only); omega))
theorem nShift_any (w : World) (d : Int) : Calls Try.prog 18 #[.pointer none, .int .i64 d] w fun e w' => e = .returned (.tuple #[]) ∧ AnyLater w w' := by
  go_enter Try.func18, Try.ntmps18
  go_wp2_with fail
  exact bodyPost_ret (v := .tuple #[]) (by simp [results, Try.results18, go_sem]) rfl ⟨rfl, AnyLater.refl _⟩
theorem nLine_any (w : World) (y : Int) : Calls Try.prog 17 #[.pointer none, .int .i64 y] w fun e w' => ∃ v, e = .returned v ∧ AnyLater w w' ∧ RU w' v [] := by
  go_enter Try.func17, Try.ntmps17
  go_wp2_with fail
  go_ret
  exact ⟨_, rfl, AnyLater.refl _, none, 0, rfl, Nat.le_refl _, fun h => by simp at h⟩
theorem nLay_any (w : World) (y : Int) (v : Value) : Calls Try.prog 24 #[.pointer none, .int .i64 y, v] w fun e w' => e = .returned (.bool false) ∧ AnyLater w w' := by
  go_enter Try.func24, Try.ntmps24
  go_wp2_with fail
  go_ret
  exact ⟨rfl, AnyLater.refl _⟩
theorem nWrites_any (w : World) : Calls Try.prog 12 #[.pointer none] w fun e w' => e = .returned (.int .i64 0) ∧ AnyLater w w' := by
  go_enter Try.func12, Try.ntmps12
  go_wp2_with fail
  go_ret
  exact ⟨rfl, AnyLater.refl _⟩
theorem nClone_any (w : World) : Calls Try.prog 19 #[.pointer none] w fun e w' => e = .returned (.pointer none) ∧ AnyLater w w' := by
  go_enter Try.func19, Try.ntmps19
  go_wp2_with fail
  go_ret
  exact ⟨rfl, AnyLater.refl _⟩
set_option maxRecDepth 100000 in
set_option maxHeartbeats 6400000 in
theorem nDots_any (w : World) (v : Value) (l : List Rt) (c : Int) (hv : RRt w v l) (hll : l.length ≤ 100) : Calls Try.prog 23 #[.pointer none, v, .int .u32 c] w fun e w' => e = .returned (.int .i64 0) ∧ AnyLater w w' := by
  obtain ⟨b, cap, rfl, hb, hc⟩ := hv
  have HV := Lib.hid hc
  obtain ⟨L, hL⟩ : ∃ L, l.length = L := ⟨_, rfl⟩
  have HL := Lib.hid hL
  rw [hL] at hll ⊢
  clear hc hL
  go_enter Try.func23, Try.ntmps23
  go_wp2_with fail
  go_loopg [7, 12] L (fun k nv iv wr => ∃ j : Nat, k = L - j ∧ j ≤ L ∧ iv = .int .i64 j ∧ nv = .int .i64 0 ∧ AnyLater w wr)
  case atStart => exact ⟨0, by omega, by omega, rfl, rfl, AnyLater.refl _⟩
  case round =>
    obtain ⟨j, hk, hj, rfl, rfl, hA⟩ := hrel
    have HA := Lib.hid hA
    by_cases hlt : j < L
    · have lj : j < l.length := by rw [HL.out]; exact hlt
      obtain ⟨v0, v1, v2, v3⟩ := HV.out j lj
      have hblk := hA.below.block b hb
      rw [← cell_block hblk] at v0 v1 v2 v3
      have lb : b < wr.heap.size := Nat.lt_of_lt_of_le hb hA.below.size
      have HFi : Hid (∀ w', AnyLater wr w' → Calls Try.prog 22 #[.pointer none, .agg #[.int .i64 l[j].x, .int .i64 l[j].y, .int .i64 l[j].a, .int .i64 l[j].b], .int .u32 c] w' fun e w'' => e = .returned (.int .i64 0) ∧ AnyLater wr w'') := Lib.hid (fun w' ha => (nFill_any w' l[j] c).mono fun _ _ ⟨h1, h2⟩ => ⟨h1, ha.trans h2⟩)
      clear hA hblk
      generalize l[j] = r at *
      obtain ⟨rx, ry, ra, rb⟩ := r
      simp only at v0 v1 v2 v3 HFi
      go_wp2_with fail
      refine (HFi.out _ (by repeat' (first | with_reducible assumption | with_reducible exact AnyLater.refl _ | with_reducible apply AnyLater.setCell | with_reducible apply AnyLater.later | with_reducible apply AnyLater.drewN | with_reducible apply AnyLater.drew | with_reducible apply AnyLater.alloc | ((try simp only [World.size_alloc, World.size_setCell, World.size_drew]); (try dsimp only); omega)))).mono ?_
      rintro e w3 ⟨rfl, k3⟩
      have HK3 := Lib.hid (HA.out.trans k3)
      clear k3 v0 v1 v2 v3
      go_wp2_with fail
      go_roundg (L - (j + 1))
      case measure => omega
      case rel => exact ⟨j + 1, rfl, by omega, by go_num, rfl, HK3.out⟩
    · obtain rfl : j = L := by omega
      clear hA
      go_wp2_with fail
      go_ret
      exact ⟨rfl, HA.out⟩
theorem nsays : NSays where
  size w := nSize_any w
  at_ w x y _ _ := nAt_any w x y
  fill w r c _ _ := nFill_any w r c
  dots w v l c hv _ hll _ := nDots_any w v l c hv hll
  shift w d _ := nShift_any w d
  line w y _ := nLine_any w y
  lay w y _ := nLay_any w y _
  writes w := nWrites_any w
  clone w := nClone_any w
end Go.Proofs.Ytmhgpgaikcimnaa
