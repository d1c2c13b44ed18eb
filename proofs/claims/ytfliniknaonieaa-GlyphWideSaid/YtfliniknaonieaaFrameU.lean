/- frame: the program's Shift and Lay, by contract. -/
import Derived.Test.YtfliniknaonieaaFrameT
namespace Go.Proofs.Ytfliniknaonieaa
set_option linter.unusedSimpArgs false
set_option linter.unusedVariables false
set_option linter.unusedSectionVars false
open Go.RowKit

section
variable {w : World} {a : Nat} {m : FM} {S : Nat → Prop}
set_option maxRecDepth 100000 in
set_option maxHeartbeats 6400000 in
theorem shift_any (d : Int) (h : Fr w a m S) (hs : Small m) (hd : I64 d) : Calls Try.prog 16 #[ptr a, .int .i64 d] w fun e w' => e = .returned (.tuple #[]) ∧ Keeps S w w' ∧ ∃ S', Fr w' a (shiftM d m) S' ∧ Grown w S S' := by
  have HF := Lib.hid h
  obtain ⟨A, cap, h⟩ := h
  obtain ⟨s1, s2, s3, s4, s5⟩ := hs
  obtain ⟨hd1, hd2⟩ := hd
  have HA := Lib.hid h
  have s0_w := h.top
  have r_w := own_row s0_w
  have f_w := own_free s0_w
  have hSS : Hid (Grown w S S) := Lib.hid (fun k hk => .inl hk)
  by_cases hb : (m.rows.length : Int) ≤ d ∨ d ≤ -(m.rows.length : Int)
  · have HM := Lib.hid (shift_none hb)
    clear h s0_w
    unfold ptr
    by_cases h1 : (m.rows.length : Int) ≤ d
    · clear hb
      go_enter Try.func16, Try.ntmps16
      go_wp2_with fail
      exact bodyPost_ret (v := .tuple #[]) (by simp [results, Try.results16, go_sem]) rfl ⟨rfl, Keeps.refl _ _, S, by rw [HM.out]; exact HF.out, hSS.out⟩
    · have h2 : d ≤ -(m.rows.length : Int) := by omega
      clear hb
      go_enter Try.func16, Try.ntmps16
      go_wp2_with fail
      exact bodyPost_ret (v := .tuple #[]) (by simp [results, Try.results16, go_sem]) rfl ⟨rfl, Keeps.refl _ _, S, by rw [HM.out]; exact HF.out, hSS.out⟩
  · have c1 : ¬ (m.rows.length : Int) ≤ d := by omega
    have c2 : ¬ d ≤ -(m.rows.length : Int) := by omega
    have hNm : m.w * m.rows.length ≤ 4096 * 4096 := Nat.mul_le_mul s2 s3
    clear hb
    by_cases hp : 0 < d
    · obtain ⟨e, rfl⟩ : ∃ e : Nat, (e : Int) = d := ⟨d.toNat, by omega⟩
      have he : e < m.rows.length := by omega
      have hrow := idx_row (W := m.w) he
      obtain ⟨w2, k1, k2, k3⟩ := copy_down (h.any ((AnyLater.refl w).drew)) he
      have hcut := fun w => cutFrom_run A (m.w * m.rows.length) cap (e * m.w) w (by omega)
      obtain ⟨A3, hA3⟩ : ∃ A3, (if cap = e * m.w then A else A.map (fun x => x.add (e * m.w))) = A3 := ⟨_, rfl⟩
      rw [hA3] at k1 hcut
      have e1 : (e : Int) * (m.w : Int) = ((e * m.w : Nat) : Int) := by simp
      have s2_w : w2.heap[a]? = some (.cells #[.int .i64 (m.w : Int), .int .i64 (m.rows.length : Int), .slice A (m.w * m.rows.length) cap, .int .i64 m.n] 67) := by
        have := k3.top
        simpa [shiftM, shiftR_len] using this
      have HK := Lib.hid (And.intro k1 (And.intro k2 (And.intro k3 s2_w)))
      have hl0 : e * m.w ≤ 4096 * 4096 := by omega
      clear k1 k2 k3 s2_w h hA3 hrow
      generalize m.w * m.rows.length = N at *
      generalize e * m.w = l at *
      unfold ptr
      go_enter Try.func16, Try.ntmps16
      go_wp2_with fail
      apply wp_region_acts 16 [(15, .int .i64 ((N - l : Nat) : Int))] (fun w' => w'.heap[a]? = some (.cells #[.int .i64 (m.w : Int), .int .i64 (m.rows.length : Int), .slice A N cap, .int .i64 m.n] 67)) (stL [fun w' => w' = w.drew, fun w' => w' = w2]) (by kernel_rfl) (by kernel_rfl) (by kernel_rfl) (heap_drew s0_w) rfl
      case hlex =>
        intro U hU
        have q0 := own_row hU
        simp only [actFrom, actOp, List.lookup, Nat.reduceBEq, Nat.reduceLeDiff, Nat.reduceAdd, if_false, if_true]
        repeat (go_big_quiet_step (fail))
        exact wpQuiet_nil rfl
      case hact =>
        intro j hj o ho
        obtain rfl : j = 0 := by simp at hj; omega
        cases ho
        refine ⟨rfl, fun w' hC hS => ?_⟩
        obtain rfl : w' = w.drew := hS
        obtain ⟨k1, k2, k3, k4⟩ := HK.out
        refine act_value (w' := w2) ?_ ⟨k4, rfl⟩
        simp [go_sem, execOp, k1]
      case htail =>
        intro w' hC hS
        obtain rfl : w' = w2 := hS
        simp only [List.drop_succ_cons, List.drop_zero, List.drop_nil]
        go_wp2_with fail
        go_end0
        obtain ⟨k1, k2, k3, k4⟩ := HK.out
        exact ⟨rfl, (Keeps.of (AnyLater.refl w).drew).trans k2, S, ⟨A, cap, k3⟩, hSS.out⟩
    · obtain ⟨e, rfl⟩ : ∃ e : Nat, d = -(e : Int) := ⟨(-d).toNat, by omega⟩
      have he : e < m.rows.length := by omega
      have hrow := idx_row (W := m.w) he
      obtain ⟨w2, k1, k2, k3⟩ := copy_up (h.any ((AnyLater.refl w).drew)) he
      have hcut := fun w => cutFrom_run A (m.w * m.rows.length) cap (e * m.w) w (by omega)
      obtain ⟨A3, hA3⟩ : ∃ A3, (if cap = e * m.w then A else A.map (fun x => x.add (e * m.w))) = A3 := ⟨_, rfl⟩
      rw [hA3] at k1 hcut
      have e1 : (e : Int) * (m.w : Int) = ((e * m.w : Nat) : Int) := by simp
      have s2_w : w2.heap[a]? = some (.cells #[.int .i64 (m.w : Int), .int .i64 (m.rows.length : Int), .slice A (m.w * m.rows.length) cap, .int .i64 m.n] 67) := by
        have := k3.top
        simpa [shiftM, shiftR_len] using this
      have HK := Lib.hid (And.intro k1 (And.intro k2 (And.intro k3 s2_w)))
      have hl0 : e * m.w ≤ 4096 * 4096 := by omega
      clear k1 k2 k3 s2_w h hA3 hrow
      generalize m.w * m.rows.length = N at *
      generalize e * m.w = l at *
      unfold ptr
      go_enter Try.func16, Try.ntmps16
      go_wp2_with fail
      apply wp_region_acts 17 [(16, .int .i64 ((N - l : Nat) : Int))] (fun w' => w'.heap[a]? = some (.cells #[.int .i64 (m.w : Int), .int .i64 (m.rows.length : Int), .slice A N cap, .int .i64 m.n] 67)) (stL [fun w' => w' = w.drew, fun w' => w' = w2]) (by kernel_rfl) (by kernel_rfl) (by kernel_rfl) (heap_drew s0_w) rfl
      case hlex =>
        intro U hU
        have q0 := own_row hU
        simp only [actFrom, actOp, List.lookup, Nat.reduceBEq, Nat.reduceLeDiff, Nat.reduceAdd, if_false, if_true]
        repeat (go_big_quiet_step (fail))
        exact wpQuiet_nil rfl
      case hact =>
        intro j hj o ho
        obtain rfl : j = 0 := by simp at hj; omega
        cases ho
        refine ⟨rfl, fun w' hC hS => ?_⟩
        obtain rfl : w' = w.drew := hS
        obtain ⟨k1, k2, k3, k4⟩ := HK.out
        refine act_value (w' := w2) ?_ ⟨k4, rfl⟩
        simp [go_sem, execOp, k1]
      case htail =>
        intro w' hC hS
        obtain rfl : w' = w2 := hS
        simp only [List.drop_succ_cons, List.drop_zero, List.drop_nil]
        go_wp2_with fail
        go_end0
        obtain ⟨k1, k2, k3, k4⟩ := HK.out
        exact ⟨rfl, (Keeps.of (AnyLater.refl w).drew).trans k2, S, ⟨A, cap, k3⟩, hSS.out⟩

/-! ### Lay -/
theorem px_set {rows : Pix} {y : Nat} {l : List Int} {i j : Nat} (hi : i < rows.length) : px (rows.set y l) i j = if y = i then l.getD j 0 else px rows i j := by
  unfold px
  rw [List.getD_eq_getElem?_getD (l := rows.set y l), List.getElem?_eq_getElem (by rw [List.length_set]; exact hi), List.getElem_set]
  split
  · rfl
  · rw [List.getD_eq_getElem?_getD (l := rows), List.getElem?_eq_getElem hi]
theorem copy_row {A : Option Addr} {cap y : Nat} {v : Value} {l : List Int} (h : FrA w a m S A cap) (hy : y < m.rows.length) (hr : RU w v l) (hl : l.length = m.w) :
    ∃ w2, (∀ ty, (Builtin.copy_ #[34, 34] ty #[rowS A cap m.w y, v]).run Try.prog w = .ok (.int .i64 (m.w : Int)) w2) ∧ Keeps S w w2 ∧ FrA w2 a ⟨m.w, m.rows.set y l, m.n⟩ S A cap := by
  have hok : (⟨m.w, m.rows.set y l, m.n⟩ : FM).Ok := ⟨fun i hi => by
    have hi' : i < m.rows.length := by simpa using hi
    simp only [List.getElem_set]
    split
    · exact hl
    · exact h.ok.wide i hi'⟩
  have hrow := idx_row (W := m.w) hy
  have hroom := h.room
  rcases Nat.eq_zero_or_pos m.w with h0 | h0
  · obtain ⟨A2, c2, rfl, _⟩ := hr
    refine ⟨w, fun ty => ?_, Keeps.refl _ _, ?_⟩
    · unfold rowS
      rw [run_copy_none (P := Try.prog) w 34 34 ty 33 _ _ _ _ _ _ Try.underlying34 pix_size (by simp [h0])]
      simp [h0, goInt]
    · refine ⟨h.here, ?_, hok, ?_, fun h1 => ?_, h.below⟩
      · show _ = some (Obj.cells #[.int .i64 m.w, .int .i64 ((m.rows.set y l).length : Int), .slice A (m.w * (m.rows.set y l).length) cap, .int .i64 m.n] 67)
        rw [List.length_set]
        exact h.top
      · show m.w * (m.rows.set y l).length ≤ cap
        rw [List.length_set]
        exact h.room
      · have h1 : 0 < m.w * (m.rows.set y l).length := h1
        rw [h0, Nat.zero_mul] at h1
        omega
  · obtain ⟨q, cells, rfl, sq, hq, hp⟩ := h.pix (mul_pos_lt hy h0)
    have hsz := hp.size
    have hmin : Nat.min l.length m.w = m.w := by rw [hl]; exact Nat.min_self _
    obtain ⟨cells2, k1, k2⟩ := run_copyP w q (y * m.w) m.w (cap - y * m.w) cells v l hq hr (by rw [hmin]; omega)
    rw [hmin] at k1 k2
    refine ⟨w.setRow q cells2, fun ty => ?_, keeps_setRow w q cells2 sq, h.setPix sq hq (List.length_set ..) hok (fun i j hi hj => ?_)⟩
    · rw [rowS_some (by omega)]
      exact k1 ty
    · rw [k2, px_set hi]
      by_cases e : y = i
      · subst e
        rw [if_pos rfl, if_pos (by omega)]
        have e1 : y * m.w + j - y * m.w = j := by omega
        rw [e1, List.getElem?_eq_getElem (by omega)]
        simp [show j < l.length by omega]
      · have hne : ¬ (y * m.w ≤ i * m.w + j ∧ i * m.w + j < y * m.w + m.w) := by
          rintro ⟨h1, h2⟩
          obtain ⟨x, hx⟩ : ∃ x, i * m.w + j = y * m.w + x := ⟨i * m.w + j - y * m.w, by omega⟩
          exact e (idx_inj hj (by omega) hx).1.symm
        rw [if_neg hne, if_neg e, hp i j hi hj]
set_option maxRecDepth 100000 in
set_option maxHeartbeats 6400000 in
theorem lay_any (y : Int) (v : Value) (l : List Int) (c : Bool) (hc : layB y l m = c) (h : Fr w a m S) (hs : Small m) (hy : I64 y) (hr : RU w v l) (hll : l.length ≤ 5000) : Calls Try.prog 40 #[ptr a, .int .i64 y, v] w fun e w' => e = .returned (.bool c) ∧ Keeps S w w' ∧ ∃ S', Fr w' a (layM y l m) S' ∧ Grown w S S' := by
  have HF := Lib.hid h
  obtain ⟨A, cap, h⟩ := h
  obtain ⟨s1, s2, s3, s4, s5⟩ := hs
  have HA := Lib.hid h
  have s0_w := h.top
  have r0_w := own_row s0_w
  have l0_w := own_lt s0_w
  have HR := Lib.hid hr
  obtain ⟨A2, cap2, rfl, _⟩ := hr
  have hSS : Hid (Grown w S S) := Lib.hid (fun k hk => .inl hk)
  by_cases hb : 0 ≤ y ∧ y < (m.rows.length : Int)
  · have HH := Lib.hid (hasRow_any h y true (decide_eq_true hb) hy)
    by_cases hw : l.length = m.w
    · obtain ⟨j, rfl⟩ : ∃ j : Nat, (j : Int) = y := ⟨y.toNat, by omega⟩
      have hj : j < m.rows.length := by omega
      have hlB : layB (j : Int) l m = true := decide_eq_true ⟨hb.1, hb.2, hw⟩
      have hcc : c = true := by rw [← hc, hlB]
      subst hcc
      have HLM : Hid (layM (j : Int) l m = ⟨m.w, m.rows.set j l, m.n + m.w⟩) := Lib.hid (by unfold layM; rw [if_pos hlB]; rfl)
      have HCo := Lib.hid (fun w' (ha : AnyLater w w') => copy_row (HA.out.any ha) hj (HR.out.later ha) hw)
      have HRow := Lib.hid (fun w' (ha : AnyLater w w') => row_any (HA.out.any ha) j hj s2 s3)
      have eR : ∃ A3 c3, rowS A cap m.w j = .slice A3 m.w c3 := ⟨_, _, rfl⟩
      obtain ⟨A3, c3, eR⟩ := eR
      rw [eR] at HRow
      have HCo2 : Hid (∀ w', AnyLater w w' → ∃ w2, (∀ ty, (Builtin.copy_ #[34, 34] ty #[.slice A3 m.w c3, .slice A2 m.w cap2]).run Try.prog w' = .ok (.int .i64 (m.w : Int)) w2) ∧ Keeps S w' w2 ∧ FrA w2 a ⟨m.w, m.rows.set j l, m.n⟩ S A cap) := Lib.hid (fun w' ha => by
        have := HCo.out w' ha
        rw [eR, hw] at this
        exact this)
      rw [hw]
      have hNm : m.w * m.rows.length ≤ 4096 * 4096 := Nat.mul_le_mul s2 s3
      clear h hc hlB eR HCo hw hb
      unfold ptr
      have HTop : Hid (∀ w2, FrA w2 a ⟨m.w, m.rows.set j l, m.n⟩ S A cap → w2.heap[a]? = some (.cells #[.int .i64 (m.w : Int), .int .i64 (m.rows.length : Int), .slice A (m.w * m.rows.length) cap, .int .i64 m.n] 67)) := Lib.hid (fun w2 h => by
        have := h.top
        simpa using this)
      generalize m.w * m.rows.length = N at *
      go_enter Try.func40, Try.ntmps40
      go_wp2_with fail
      refine HH.out.mono ?_
      rintro e w1 ⟨rfl, b1⟩
      have s1_w := any_own b1 s0_w
      clear r0_w
      have r1_w := own_row s1_w
      go_wp2_with fail
      apply wp_region_acts 12 [(6, .slice A3 m.w c3), (8, .int .i64 (m.w : Int))] (fun w' => w'.heap[a]? = some (.cells #[.int .i64 (m.w : Int), .int .i64 (m.rows.length : Int), .slice A N cap, .int .i64 m.n] 67)) (stL [fun w' => w' = w1.drew, fun w' => AnyLater w w', fun w' => Keeps S w w' ∧ FrA w' a ⟨m.w, m.rows.set j l, m.n⟩ S A cap]) (by kernel_rfl) (by kernel_rfl) (by kernel_rfl) (heap_drew s1_w) rfl
      case hlex =>
        intro U hU
        have q0 := own_row hU
        simp only [actFrom, actOp, List.lookup, Nat.reduceBEq, Nat.reduceLeDiff, Nat.reduceAdd, if_false, if_true]
        repeat (go_big_quiet_step (fail))
        exact wpQuiet_nil rfl
      case hact =>
        intro i hi o ho
        have hi3 : i = 0 ∨ i = 1 := by simp at hi; omega
        rcases hi3 with rfl | rfl
        · cases ho
          refine ⟨rfl, fun w' hC hS => ?_⟩
          obtain rfl : w' = w1.drew := hS
          refine act_call (f := 45) (args := #[ptr a, .int .i64 j]) (by simp [go_sem, execOp, ptr]) ?_
          refine (HRow.out _ b1.drew).mono ?_
          rintro e w2 ⟨rfl, b2⟩
          exact ⟨rfl, any_own b2 hC, b1.drew.trans b2⟩
        · cases ho
          refine ⟨rfl, fun w' hC hS => ?_⟩
          obtain ⟨w2, k1, k2, k3⟩ := HCo2.out w' hS
          refine act_value (w' := w2) ?_ ⟨HTop.out w2 k3, (Keeps.of hS).trans k2, k3⟩
          simp [go_sem, execOp, k1]
      case htail =>
        intro w2 hC hS
        have HS := Lib.hid hS
        have r2_w := own_row hC
        have f2_w := own_free hC
        clear hS r1_w
        simp only [List.drop_succ_cons, List.drop_zero, List.drop_nil]
        go_wp2_with fail
        go_ret
        refine ⟨rfl, HS.out.1.setCell HA.out.here _, S, ⟨A, cap, ?_⟩, hSS.out⟩
        rw [HLM.out]
        exact HS.out.2.setN _
    · have hlB : layB y l m = false := decide_eq_false (fun q => hw q.2.2)
      have hcc : c = false := by rw [← hc, hlB]
      subst hcc
      have HLM : Hid (layM y l m = m) := Lib.hid (by unfold layM; rw [if_neg (by rw [hlB]; decide)])
      have hne : ((l.length : Int) != (m.w : Int)) = true := by simp; omega
      clear h hc hlB hw hb
      unfold ptr
      go_enter Try.func40, Try.ntmps40
      go_wp2_with fail
      refine HH.out.mono ?_
      rintro e w1 ⟨rfl, b1⟩
      have s1_w := any_own b1 s0_w
      clear r0_w
      have r1_w := own_row s1_w
      go_wp2_with fail
      go_ret
      exact ⟨rfl, Keeps.of b1, S, by rw [HLM.out]; exact HF.out.any b1, hSS.out⟩
  · have HH := Lib.hid (hasRow_any h y false (decide_eq_false hb) hy)
    have hlB : layB y l m = false := decide_eq_false (fun q => hb ⟨q.1, q.2.1⟩)
    have hcc : c = false := by rw [← hc, hlB]
    subst hcc
    have HLM : Hid (layM y l m = m) := Lib.hid (by unfold layM; rw [if_neg (by rw [hlB]; decide)])
    clear h hc hlB hb
    unfold ptr
    go_enter Try.func40, Try.ntmps40
    go_wp2_with fail
    refine HH.out.mono ?_
    rintro e w1 ⟨rfl, b1⟩
    go_wp2_with fail
    go_ret
    exact ⟨rfl, Keeps.of b1, S, by rw [HLM.out]; exact HF.out.any b1, hSS.out⟩
end
end Go.Proofs.Ytfliniknaonieaa
