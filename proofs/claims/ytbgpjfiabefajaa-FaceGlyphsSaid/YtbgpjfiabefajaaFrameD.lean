/- frame: the document's own Fill, by contract. -/
import Derived.Test.YtbgpjfiabefajaaFrameC
namespace Go.Proofs.Ytbgpjfiabefajaa
set_option linter.unusedSimpArgs false
set_option linter.unusedVariables false
set_option linter.unusedSectionVars false
open Go.RowKit

def rtV (r : Rt) : Value := .agg #[.int .i64 r.x, .int .i64 r.y, .int .i64 r.a, .int .i64 r.b]
theorem cntA_max {r : Rt} {w y : Nat} (hw : w ≤ 5000) (hy : y ≤ 5000) : 0 ≤ cntA r w y ∧ cntA r w y ≤ 25000000 := by
  have h := cntA_in r w y
  have h2 : (y : Int) * (w : Int) ≤ 5000 * 5000 := Int.mul_le_mul (by omega) (by omega) (by omega) (by omega)
  omega
set_option maxRecDepth 100000 in
set_option maxHeartbeats 6400000 in
theorem xfill_any (w : World) (p : Nat) (m : FM) (S : Nat → Prop) (r : Rt) (c n : Int) (hx : RX w p m S) (hr : r.I64) (hw : m.w ≤ 5000) (hh : m.rows.length ≤ 5000) (hn : 0 ≤ m.n ∧ m.n ≤ 1000000000000) (hcnt : cntA r m.w m.rows.length = n) :
    Calls Try.prog 31 #[.pointer (some ⟨p, 0, none⟩), rtV r, .int .u32 c] w fun e w' => e = .returned (.int .i64 n) ∧ Keeps S w w' ∧ RX w' p (fillM r c m) S := by
  obtain ⟨v, rs, h⟩ := hx
  obtain ⟨W, rows, n0⟩ := m
  obtain ⟨A, cap, rfl⟩ := h.len
  simp only at hw hh hn hcnt h
  obtain ⟨H, hH⟩ : ∃ H, rows.length = H := ⟨_, rfl⟩
  rw [hH] at h hh hcnt
  have HX := Lib.hid h
  have HR := Lib.hid hr
  have HC := Lib.hid hcnt
  have HB := Lib.hid (fun (y : Nat) (hy : y ≤ 5000) => cntA_max (r := r) hw hy)
  have HO := Lib.hid h.ok
  have HH := Lib.hid hH
  have HL : Hid (∀ y x, (fillP r c rows y x).length = H) := Lib.hid (fun y x => by rw [fillP_len, hH])
  have hp := HX.out.below p HX.out.here
  have HN : Hid ((w.alloc (.cells #[.int .i64 r.x, .int .i64 r.y, .int .i64 r.a, .int .i64 r.b] 32)).heap[w.heap.size]? = some (.cells #[.int .i64 r.x, .int .i64 r.y, .int .i64 r.a, .int .i64 r.b] 32)) := Lib.hid (heap_new rfl)
  have a0 := Lib.hid ((AnyLater.refl w).alloc (.cells #[.int .i64 r.x, .int .i64 r.y, .int .i64 r.a, .int .i64 r.b] 32))
  have hNS : Hid (∀ k, S k → w.heap.size ≠ k) := Lib.hid (fun k hk e => by have := HX.out.below k hk; omega)
  unfold rtV
  clear h hr hcnt hH
  go_enter Try.func31, Try.ntmps31
  go_wp2_with fail
  go_loopg [7, 8] H (fun k cn yv wr => ∃ y : Nat, k = H - y ∧ y ≤ H ∧ yv = .int .i64 y ∧ cn = .int .i64 (cntA r W y) ∧ Keeps S w wr ∧ wr.heap[w.heap.size]? = some (.cells #[.int .i64 r.x, .int .i64 r.y, .int .i64 r.a, .int .i64 r.b] 32) ∧ RXr wr p ⟨W, fillP r c rows y 0, n0⟩ S (.slice A H cap) rs)
  case atStart =>
    refine ⟨0, by omega, by omega, rfl, rfl, Keeps.of a0.out, HN.out, ?_⟩
    rw [fillP_zero]
    exact HX.out.any a0.out
  case round =>
    obtain ⟨y, hk, hy, rfl, rfl, hKe, sB, hX⟩ := hrel
    have r_p := own_row hX.top
    have f_p := own_free hX.top
    have HXr := Lib.hid hX
    have HK := Lib.hid (And.intro hKe sB)
    obtain ⟨bc1, bc2⟩ := HB.out y (by omega)
    by_cases hlt : y < H
    · have cN := Lib.hid (cntR_in r y)
      clear hX hKe sB
      go_wp2_with fail
      go_loopg [7, 9] W (fun k cn xv wr => ∃ x : Nat, k = W - x ∧ x ≤ W ∧ xv = .int .i64 x ∧ cn = .int .i64 (cntA r W y + cntR r y x) ∧ Keeps S w wr ∧ wr.heap[w.heap.size]? = some (.cells #[.int .i64 r.x, .int .i64 r.y, .int .i64 r.a, .int .i64 r.b] 32) ∧ RXr wr p ⟨W, fillP r c rows y x, n0⟩ S (.slice A H cap) rs)
      case atStart => exact ⟨0, by omega, by omega, rfl, by simp [cntR], HK.out.1, HK.out.2, HXr.out⟩
      case round =>
        obtain ⟨x, hk2, hx2, rfl, rfl, hKe, sB, hX⟩ := hrel
        clear r_p f_p
        have r_p := own_row hX.top
        have f_p := own_free hX.top
        have r_b := own_row sB
        have cx := cN.out x
        by_cases hlx : x < W
        · rcases hb : r.has x y with _ | _
          · have HX2 := Lib.hid (And.intro hKe (And.intro sB hX))
            have HS := Lib.hid (fillP_skip r c rows y x hb)
            have HCn : Hid (cntR r y (x + 1) = cntR r y x) := Lib.hid (by rw [cntR, hb]; simp)
            have HI := Lib.hid (fun w => in_any r x y w false hb HR.out (by unfold I64; omega) (by unfold I64; omega))
            clear hKe sB hX hb
            go_wp2_with fail
            refine (HI.out wr).mono ?_
            rintro e w2 ⟨rfl, b_w2⟩
            have HB2 := Lib.hid b_w2
            clear b_w2 r_p f_p r_b
            go_wp2_with fail
            go_roundg (W - (x + 1))
            case measure => omega
            case rel =>
              refine ⟨x + 1, rfl, by omega, by go_num, by rw [HCn.out], HX2.out.1.trans (Keeps.of HB2.out), any_own HB2.out HX2.out.2.1, ?_⟩
              rw [HS.out]
              exact HX2.out.2.2.any HB2.out
          · have HX2 := Lib.hid (And.intro hKe (And.intro sB hX))
            have HS := Lib.hid (fillP_set r c rows y x (by rw [HH.out]; exact hlt) hb)
            have HCn : Hid (cntR r y (x + 1) = cntR r y x + 1) := Lib.hid (by rw [cntR, hb]; simp)
            have HI := Lib.hid (fun w => in_any r x y w true hb HR.out (by unfold I64; omega) (by unfold I64; omega))
            clear hKe sB hX hb
            go_wp2_with fail
            refine (HI.out wr).mono ?_
            rintro e w2 ⟨rfl, b_w2⟩
            clear r_p f_p r_b
            have h2 := HX2.out.2.2.any b_w2
            have HK2 := Lib.hid (And.intro (HX2.out.1.trans (Keeps.of b_w2)) (any_own b_w2 HX2.out.2.1))
            obtain ⟨q, cap2, cur, hv2, sq, hq, hcur⟩ := h2.outer (by show 0 < (fillP r c rows y x).length; rw [HL.out]; omega)
            have hv3 : Value.slice A H cap = .slice (some ⟨q, 0, none⟩) H cap2 := hv2.trans (by show Value.slice _ (fillP r c rows y x).length _ = _; rw [HL.out])
            clear hv2
            obtain ⟨rfl, rfl⟩ : A = some ⟨q, 0, none⟩ ∧ cap = cap2 := by cases hv3; exact ⟨rfl, rfl⟩
            clear hv3
            have ly : y < rs.length := by rw [h2.rows.len]; show y < (fillP r c rows y x).length; rw [HL.out]; omega
            have ly' : y < (fillP r c rows y x).length := by rw [HL.out]; omega
            obtain ⟨sg, hwc, hwl, cells, hg, hcells⟩ := h2.rows.each y ly ly'
            have hcy := hcur y ly
            obtain ⟨z, hcx⟩ : ∃ z, cells[x]? = some (Value.int .u32 z) := ⟨_, hcells x (by rw [hwl]; exact hlx)⟩
            have r_p := own_row h2.top
            have r_q := own_row hq
            have r_g := own_row hg
            have f_g := own_free hg
            have HSt := Lib.hid (h2.store (x := x) ly ly' c)
            have HSg := Lib.hid sg
            have HNg := Lib.hid (hNS.out _ sg)
            clear h2 hcells hcur hwl hq hg sg sq b_w2
            obtain ⟨e, he⟩ : ∃ e, rs[y] = e := ⟨_, rfl⟩
            obtain ⟨g, cg⟩ := e
            rw [he] at hcy r_g f_g HSt HSg HNg hwc
            unfold rowV at hcy
            simp only at hcy r_g f_g HSt HSg HNg hwc r_p
            go_wp2_with fail
            go_roundg (W - (x + 1))
            case measure => omega
            case rel =>
              refine ⟨x + 1, rfl, by omega, by go_num, by rw [HCn.out]; congr 1; omega, HK2.out.1.setCell HSg.out _, heap_far HNg.out HK2.out.2, ?_⟩
              rw [HS.out]
              exact HSt.out
        · obtain rfl : x = W := by omega
          have HX2 := Lib.hid (And.intro hKe (And.intro sB hX))
          have HE2 := Lib.hid (fillP_end r c rows x y HO.out.wide)
          clear hKe sB hX
          go_wp2_with fail
          go_roundg (H - (y + 1))
          case measure => omega
          case rel =>
            refine ⟨y + 1, rfl, by omega, by go_num, rfl, HX2.out.1, HX2.out.2.1, ?_⟩
            rw [← HE2.out]
            exact HX2.out.2.2
    · obtain rfl : y = H := by omega
      have HM : Hid (fillM r c ⟨W, rows, n0⟩ = ⟨W, fillP r c rows y 0, n0 + cntA r W y⟩) := Lib.hid (by
        unfold fillM
        simp only [HH.out]
        rw [← fillP_all, HH.out])
      clear hX hKe sB
      go_wp2_with fail
      go_ret
      refine ⟨ret_int HC.out, HK.out.1.setCell HXr.out.here _, .slice A y cap, rs, ?_⟩
      rw [HM.out]
      exact HXr.out.count _
end Go.Proofs.Ytbgpjfiabefajaa
