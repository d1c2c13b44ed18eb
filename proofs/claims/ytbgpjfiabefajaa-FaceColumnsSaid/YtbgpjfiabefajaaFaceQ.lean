/- face: rows of bytes that the program owns; letter and accented, by contract. -/
import Derived.Test.YtbgpjfiabefajaaFaceP
namespace Go.Proofs.Ytbgpjfiabefajaa
set_option linter.unusedSimpArgs false
set_option linter.unusedVariables false
set_option linter.unusedSectionVars false
open Go.RowKit

/-- a row of bytes -/
def B8 (l : List Int) : Array Value := (l.map fun c => Value.int .u8 c).toArray
theorem B8_get (l : List Int) (k : Nat) (h : k < l.length) : (B8 l)[k]? = some (.int .u8 (l.getD k 0)) := by
  unfold B8
  rw [List.getElem?_toArray, List.getElem?_map, List.getElem?_eq_getElem h, List.getD_eq_getElem?_getD, List.getElem?_eq_getElem h]
  rfl
theorem B8_set (l : List Int) (k : Nat) (v : Int) : (B8 l).setIfInBounds k (.int .u8 v) = B8 (l.set k v) := by
  unfold B8
  rw [List.setIfInBounds_toArray, List.map_set]
theorem made8_get (W x : Nat) (h : x < W) : (madeCells #[Value.int .u8 0] W)[x]? = some (.int .u8 0) := by
  unfold madeCells
  simp [h, Nat.mod_one]
theorem B8_made : madeCells #[.int .u8 0] 5 = B8 [0, 0, 0, 0, 0] := by
  apply Array.ext_getElem?
  intro j
  by_cases h : j < 5
  · rw [made8_get _ _ h, B8_get _ _ (show j < 5 from h)]
    have : j = 0 ∨ j = 1 ∨ j = 2 ∨ j = 3 ∨ j = 4 := by omega
    rcases this with rfl | rfl | rfl | rfl | rfl <;> rfl
  · rw [Array.getElem?_eq_none (by simp [madeCells]; omega), Array.getElem?_eq_none (by simp [B8]; omega)]
theorem B8_RY {w : World} {q : Nat} {l : List Int} (h : w.heap[q]? = some (.cells (B8 l) 5)) : RY w (.slice (some ⟨q, 0, none⟩) l.length l.length) l :=
  ⟨some ⟨q, 0, none⟩, l.length, rfl, Nat.le_refl _, fun _ => ⟨q, 0, rfl, own_lt h, fun j hj => by
    rw [own_row h, Nat.zero_add, B8_get l j hj, List.getD_eq_getElem?_getD, List.getElem?_eq_getElem hj]
    rfl⟩⟩
/-! ### letter -/
def letL (r : Int) (i : Nat) : List Int := [if 0 < i then fcolZ r 0 else 0, if 1 < i then fcolZ r 1 else 0, if 2 < i then fcolZ r 2 else 0, if 3 < i then fcolZ r 3 else 0, if 4 < i then fcolZ r 4 else 0]
theorem letL_len (r : Int) (i : Nat) : (letL r i).length = 5 := rfl
theorem letL_zero (r : Int) : letL r 0 = [0, 0, 0, 0, 0] := rfl
theorem letL_set (r : Int) {i : Nat} (h : i < 5) : (letL r i).set i (fcolZ r i) = letL r (i + 1) := by
  have : i = 0 ∨ i = 1 ∨ i = 2 ∨ i = 3 ∨ i = 4 := by omega
  rcases this with rfl | rfl | rfl | rfl | rfl <;> rfl
theorem hex_or {a b : Int} (ha : 0 ≤ a ∧ a ≤ 15) (hb : 0 ≤ b ∧ b ≤ 15) : bits .or .u8 (a * 16) b = 16 * a + b := by
  obtain ⟨n, rfl⟩ := Int.eq_ofNat_of_zero_le ha.1
  obtain ⟨m, rfl⟩ := Int.eq_ofNat_of_zero_le hb.1
  have h : ∀ n m : Fin 16, bits .or .u8 (((n.1 : Nat) : Int) * 16) ((m.1 : Nat) : Int) = 16 * ((n.1 : Nat) : Int) + ((m.1 : Nat) : Int) := by decide +kernel
  exact h ⟨n, by omega⟩ ⟨m, by omega⟩
theorem info_b8 : (Try.prog.info? 5).map (fun i => (i.zero, i.size, i.bytes)) = some (some (.int .u8 0), 1, 1) := by kernel_rfl
theorem run_made5 (w : World) : (Instr.makeSlice 60 (.int .i64 5) (.int .i64 5)).run Try.prog w = .ok (.slice (some ⟨w.heap.size, 0, none⟩) 5 5) (w.alloc (.cells (B8 [0, 0, 0, 0, 0]) 5)) := by
  have h := run_make_row' (P := Try.prog) 60 5 (.int .u8 0) 1 Try.underlying60 info_b8 rfl .i64 .i64 5 (by omega) (by omega) w
  rw [B8_made] at h
  exact h
set_option maxRecDepth 1000000 in
set_option maxHeartbeats 3200000 in
theorem letter_any (r : Int) (w : World) (hr : 32 ≤ r ∧ r ≤ 126) : Calls Try.prog 73 #[.int .i32 r] w fun e w' => ∃ q, e = .returned (.slice (some ⟨q, 0, none⟩) 5 5) ∧ AnyLater w w' ∧ w.heap.size ≤ q ∧ w'.heap[q]? = some (.cells (B8 (letL r 5)) 5) := by
  obtain ⟨r1, r2⟩ := hr
  have HF := Lib.hid (fun i (h : (0 : Int) ≤ i ∧ i < 950) w => run_font (t := 9) (by kernel_rfl) w .i64 i h.1 h.2)
  have hm0 := run_made5 w
  rw [← letL_zero r] at hm0
  obtain ⟨w1, hw1⟩ : ∃ w1, w.alloc (.cells (B8 (letL r 0)) 5) = w1 := ⟨_, rfl⟩
  have a_w1 : AnyLater w w1 := by rw [← hw1]; exact (AnyLater.refl w).alloc _
  have s0_w1 : w1.heap[w.heap.size]? = some (.cells (B8 (letL r 0)) 5) := by rw [← hw1]; exact heap_new rfl
  rw [hw1] at hm0
  have HS := Lib.hid (And.intro s0_w1 a_w1)
  clear hw1 a_w1 s0_w1
  have hq := Nat.le_refl w.heap.size
  generalize hqq : w.heap.size = qq at hm0 HS hq ⊢
  go_enter Try.func73, Try.ntmps73
  go_wp2_with fail
  go_loopg [14] 5 (fun kk iv wr => ∃ i : Nat, kk = 5 - i ∧ i ≤ 5 ∧ iv = .int .i64 i ∧ AnyLater w wr ∧ wr.heap[qq]? = some (.cells (B8 (letL r i)) 5))
  case atStart => exact ⟨0, by omega, by omega, rfl, HS.out.2, HS.out.1⟩
  case round =>
    obtain ⟨i, hk, hi, rfl, a_wr, s0_wr⟩ := hrel
    have HA := Lib.hid a_wr
    have HS0 := Lib.hid s0_wr
    by_cases hlt : i < 5
    · have F1 := HF.out ((r - 32) * 5 * 2 + 2 * i) ⟨by omega, by omega⟩
      have F2 := HF.out ((r - 32) * 5 * 2 + 2 * i + 1) ⟨by omega, by omega⟩
      have g1 := font_in (i := (r - 32) * 5 * 2 + 2 * i) (by omega) (by omega)
      have g2 := font_in (i := (r - 32) * 5 * 2 + 2 * i + 1) (by omega) (by omega)
      have hz : fcolZ r i = 16 * digZ (fontZ ((r - 32) * 5 * 2 + 2 * i)) + digZ (fontZ ((r - 32) * 5 * 2 + 2 * i + 1)) := by
        unfold fcolZ
        rw [show 10 * (r - 32) = (r - 32) * 5 * 2 by omega]
      have HON : Hid ((B8 (letL r i)).setIfInBounds i (.int .u8 (fcolZ r i)) = B8 (letL r (i + 1))) := Lib.hid (by rw [B8_set, letL_set r hlt])
      generalize fontZ ((r - 32) * 5 * 2 + 2 * i) = x1 at *
      generalize fontZ ((r - 32) * 5 * 2 + 2 * i + 1) = x2 at *
      have D1 := Lib.hid (fun w => same_later (fcDigit_any x1 w _ rfl g1))
      have D2 := Lib.hid (fun w => same_later (fcDigit_any x2 w _ rfl g2))
      have e1 := digZ_in g1
      have e2 := digZ_in g2
      generalize digZ x1 = d1 at *
      generalize digZ x2 = d2 at *
      have hor := hex_or e1 e2
      rw [← hz] at hor
      generalize fcolZ r i = z at *
      clear g1 g2 hz
      go_wp2_with fail
      apply wp_region_free (17) [⟨7, 24, .int .u8 d1, false, fun v _ => v = .int .u8 d1⟩, ⟨15, 32, .int .u8 d2, false, fun v _ => v = .int .u8 d2⟩] [] rfl (by kernel_rfl) (by kernel_rfl) (by kernel_rfl) (by simp) (by kernel_rfl)
      case hstab =>
        intro c hc
        simp only [List.mem_cons, List.not_mem_nil, or_false] at hc
        rcases hc with rfl | rfl
        · intro v x y hxy hv; exact hv
        · intro v x y hxy hv; exact hv
      case hfix =>
        intro c hc
        simp only [List.mem_cons, List.not_mem_nil, or_false] at hc
        rcases hc with rfl | rfl
        · exact .inr fun u x h => h
        · exact .inr fun u x h => h
      case hlex =>
        intro U hU
        simp only [List.map_cons, List.map_nil, CA.act, actFrom, actOp, List.lookup, Nat.reduceBEq, Nat.reduceLeDiff, Nat.reduceAdd, if_false, if_true]
        repeat (go_big_quiet_step (first | fail))
        exact wpQuiet_nil rfl
      case hstep =>
        intro j hj o ho
        have hj2 : j = 0 ∨ j = 1 := by simp at hj; omega
        rcases hj2 with rfl | rfl
        · cases ho
          refine ⟨rfl, fun g x hx hp => ?_⟩
          clear hp
          simp only [fillAll, Act.put, List.setIfInBounds_toArray, List.set_cons_zero, List.set_cons_succ]
          refine chain_go ?_ (free_fix (D1.out x))
          simp [go_sem, execOp]
        · cases ho
          refine ⟨rfl, fun g x hx hp => ?_⟩
          clear hp
          simp only [fillAll, Act.put, List.setIfInBounds_toArray, List.set_cons_zero, List.set_cons_succ]
          refine chain_go ?_ (free_fix (D2.out x))
          simp [go_sem, execOp]
      case htail =>
        intro g u hst hne
        have b_w2 : AnyLater wr (later u) := ⟨u, rfl⟩
        generalize later u = w2 at *
        clear u
        clear hst hne
        simp only [fillAll, Act.put, List.setIfInBounds_toArray, List.set_cons_zero, List.set_cons_succ, List.drop_succ_cons, List.drop_zero, List.drop_nil]
        have z_w2 := b_w2.below.size
        have a_w2 := a_wr.trans b_w2
        have s0_w2 := any_own b_w2 HS0.out
        have f0_w2 := own_free s0_w2
        have l0_w2 := own_lt s0_w2
        have cc : w2.cell? ⟨qq, i, none⟩ = some (.int .u8 ((letL r i).getD i 0)) := by rw [own_row s0_w2, B8_get _ _ (show i < 5 from hlt)]
        have HS2 := Lib.hid s0_w2
        clear s0_w2
        go_wp2_with fail
        go_roundg (5 - (i + 1))
        case measure => omega
        case rel => exact ⟨i + 1, rfl, by omega, by go_num, a_w2.setCell (by dsimp only; omega) _, by rw [← HON.out]; exact heap_at HS2.out rfl⟩
    · obtain rfl : i = 5 := by omega
      clear a_wr s0_wr
      go_wp2_with fail
      go_ret
      exact ⟨qq, rfl, HA.out, hq, HS0.out⟩
/-! ### accented -/
def xor8 (x : Int) : Int := if 128 ≤ x then x - 128 else x + 128
theorem xor8_fin : ∀ n : Fin 256, bits .xor .u8 ((n.1 : Nat) : Int) 128 = xor8 ((n.1 : Nat) : Int) := by decide +kernel
theorem xor8_is {x : Int} (h : 0 ≤ x ∧ x ≤ 255) : bits .xor .u8 x 128 = xor8 x := by
  obtain ⟨n, rfl⟩ := Int.eq_ofNat_of_zero_le h.1
  exact xor8_fin ⟨n, by omega⟩
theorem cols_latin {r : Int} (h : 160 ≤ r ∧ r ≤ 255) {i : Nat} (hi : r % 5 = i) (hi5 : i < 5) : (letL (latZ (r - 160)) 5).set i (xor8 (fcolZ (latZ (r - 160)) i)) = colsZ r := by
  have n1 : ¬ (32 ≤ r ∧ r ≤ 126) := by omega
  unfold colsZ colZ
  simp only [if_neg n1, if_pos h, hi]
  unfold letL xor8
  have : i = 0 ∨ i = 1 ∨ i = 2 ∨ i = 3 ∨ i = 4 := by omega
  rcases this with rfl | rfl | rfl | rfl | rfl <;> simp
theorem letL_getD (r : Int) {i : Nat} (h : i < 5) : (letL r 5).getD i 0 = fcolZ r i := by
  have : i = 0 ∨ i = 1 ∨ i = 2 ∨ i = 3 ∨ i = 4 := by omega
  rcases this with rfl | rfl | rfl | rfl | rfl <;> rfl
set_option maxRecDepth 1000000 in
set_option maxHeartbeats 3200000 in
theorem accented_any (r : Int) (w : World) (hr : 160 ≤ r ∧ r ≤ 255) : Calls Try.prog 74 #[.int .i32 r] w fun e w' => ∃ q, e = .returned (.slice (some ⟨q, 0, none⟩) 5 5) ∧ AnyLater w w' ∧ w'.heap[q]? = some (.cells (B8 (colsZ r)) 5) := by
  have HR := Lib.hid hr
  obtain ⟨r1, r2⟩ := hr
  have F1 := fun w => run_latin (t := 9) (by kernel_rfl) w .i32 (r - 160) (by omega) (by omega)
  have g1 := latin_in (i := r - 160) (by omega) (by omega)
  obtain ⟨i, hi⟩ : ∃ i : Nat, r % 5 = (i : Int) := ⟨(r % 5).toNat, by omega⟩
  have hi5 : i < 5 := by omega
  have hcol := cols_latin HR.out hi hi5
  generalize latZ (r - 160) = y at *
  have HL := Lib.hid (fun w => letter_any y w g1)
  have hx := fcolZ_in (n := y) (i := i) g1 ⟨by omega, by omega⟩
  have hxor := xor8_is hx
  have HON : Hid ((B8 (letL y 5)).setIfInBounds i (.int .u8 (xor8 (fcolZ y i))) = B8 (colsZ r)) := Lib.hid (by rw [B8_set, hcol])
  have HGD : Hid ((B8 (letL y 5))[i]? = some (.int .u8 (fcolZ y i))) := Lib.hid (by rw [B8_get _ _ (show i < 5 from hi5), letL_getD y hi5])
  generalize xor8 (fcolZ y i) = z at *
  generalize fcolZ y i = x at *
  clear hcol
  go_enter Try.func74, Try.ntmps74
  go_wp2_with fail
  refine (HL.out _).mono ?_
  rintro e w1 ⟨q, rfl, b1, hq, s0_w1⟩
  have cc : w1.cell? ⟨q, i, none⟩ = some (.int .u8 x) := by rw [own_row s0_w1, HGD.out]
  have f0_w1 := own_free s0_w1
  have l0_w1 := own_lt s0_w1
  have HS := Lib.hid s0_w1
  have HA := Lib.hid b1
  clear s0_w1 b1
  go_wp2_with fail
  go_ret
  exact ⟨q, rfl, HA.out.setCell (by dsimp only; omega) _, by rw [← HON.out]; exact heap_at HS.out rfl⟩
end Go.Proofs.Ytbgpjfiabefajaa
