/- utf: rows of numbers in memory: read, cut, appended to, made a string. -/
import Derived.Test.YtimplngemjdodaaDoorNums
import Derived.Test.YtimplngemjdodaaDoorUtfA
import Derived.Test.YtimplngemjdodaaDoorRows
import Derived.Laws.BytesArg
import Derived.Deep.Upon
namespace Go.Proofs.YtimplngemjdodaaDoor
set_option linter.unusedSimpArgs false
set_option linter.unusedVariables false
set_option linter.unusedSectionVars false
open Go.RowKit

abbrev RU8 := RN .u8
set_option maxRecDepth 100000 in
/-- v[n:], whatever the world -/
theorem RN.cut {w : World} {v : Value} {l : List Int} (h : RU8 w v l) (n : Nat) (hn : n ≤ l.length) : ∃ u, RU8 w u (l.drop n) ∧ ∀ w', (Instr.sliceAt 22 v (some (.int .i64 (n : Int))) none none).run Tryd.prog w' = .ok u w' := by
  obtain ⟨A, cap, rfl, h2, h3⟩ := h
  refine ⟨_, RN.drop ⟨A, cap, rfl, h2, h3⟩ n hn, fun w' => ?_⟩
  rw [run_sliceAt_slice w' _ _ _ _ _ Tryd.underlying22, run_slice_l w' _ A l.length cap Tryd.underlying22 .i64 (n : Int) (by omega) (by omega)]
  have hz : ∀ w, (Go.sizeOf (Tryd.prog.elem 22)).run Tryd.prog w = .ok 1 w := fun w => by simp [go_sem]
  rw [hz]
  simp [Result.andThen, sliced]
set_option maxRecDepth 100000 in
/-- v[:n], whatever the world -/
theorem RN.upto {w : World} {v : Value} {l : List Int} (h : RU8 w v l) (n : Nat) (hn : n ≤ l.length) : ∃ A cap, RU8 w (.slice A n cap) (l.take n) ∧ ∀ w', (Instr.sliceAt 22 v none (some (.int .i64 (n : Int))) none).run Tryd.prog w' = .ok (.slice A n cap) w' := by
  obtain ⟨A, cap, rfl, h2, h3⟩ := h
  have hz : ∀ w, (Go.sizeOf (Tryd.prog.elem 22)).run Tryd.prog w = .ok 1 w := fun w => by simp [go_sem]
  have key : ∀ w', (Instr.sliceAt 22 (.slice A l.length cap) none (some (.int .i64 (n : Int))) none).run Tryd.prog w' = .ok (.slice (if cap = 0 then A else A.map (fun x => x.add 0)) n cap) w' := fun w' => by
    rw [run_sliceAt_slice w' _ _ _ _ _ Tryd.underlying22, run_slice_h w' _ A l.length cap Tryd.underlying22 .i64 (n : Int) (by omega) (by omega)]
    rw [hz]
    simp [Result.andThen, sliced]
  have eA : (if cap = 0 then A else A.map (fun x => x.add 0)) = A := by
    split
    · rfl
    · cases A with
      | none => rfl
      | some a => simp [Addr.add]
  rw [eA] at key
  exact ⟨A, cap, RN.take ⟨A, cap, rfl, h2, h3⟩ n hn, key⟩
/-- string(v) -/
theorem RN.str {w : World} {v : Value} {l : List Int} (h : RU8 w v l) : (convert 22 9 v).run Tryd.prog w = .ok (.string (strOfNums l)) w := by
  obtain ⟨A, cap, rfl, h2, h3⟩ := h
  cases A with
  | none =>
    have h0 : l = [] := by
      cases l with
      | nil => rfl
      | cons x t => obtain ⟨b, off, e, _⟩ := h3 (by simp); cases e
    subst h0
    exact run_convert_bytes_nil w 22 5 Tryd.underlying22 Tryd.underlying5 _ _ 9 Tryd.underlying9
  | some a =>
    by_cases h0 : 0 < l.length
    · obtain ⟨b, off, e, hb, hc⟩ := h3 h0
      cases e
      exact run_convert_bytes_arg w 22 5 Tryd.underlying22 Tryd.underlying5 b off l.length cap l rfl (fun i hi => by rw [hc i hi]; simp [List.getD_eq_getElem?_getD, hi]) 9 Tryd.underlying9
    · obtain rfl := List.eq_nil_of_length_eq_zero (Nat.eq_zero_of_not_pos h0)
      have hl : (loadCells a 0).run Tryd.prog w = .ok (([] : List Int).map (Value.int .u8)).toArray w := by
        have := run_loadCells_list (P := Tryd.prog) w a [] (fun j v hj => by simp at hj)
        simpa using this
      rw [run_convert_bytes_string w 22 9 5 (some a) _ cap Tryd.underlying22 Tryd.underlying5 Tryd.underlying9]
      exact run_bytesToString w a 0 cap [] hl
theorem ofNat_inj {x y : Int} (h1 : 0 ≤ x ∧ x ≤ 255) (h2 : 0 ≤ y ∧ y ≤ 255) (h : UInt8.ofNat x.toNat = UInt8.ofNat y.toNat) : x = y := by
  have := congrArg UInt8.toNat h
  simp only [UInt8.toNat_ofNat'] at this
  omega
theorem map_u8_inj : ∀ {a b : List Int}, Bytes a → Bytes b → (a.map fun n => UInt8.ofNat n.toNat) = (b.map fun n => UInt8.ofNat n.toNat) → a = b
  | [], [], _, _, _ => rfl
  | [], y :: b, _, _, h => by simp at h
  | x :: a, [], _, _, h => by simp at h
  | x :: a, y :: b, ha, hb, h => by
    simp only [List.map_cons, List.cons.injEq] at h
    rw [ofNat_inj (ha x (by simp)) (hb y (by simp)) h.1, map_u8_inj (fun c hc => ha c (by simp [hc])) (fun c hc => hb c (by simp [hc])) h.2]
/-- strings of bytes are the same if the bytes are -/
theorem str_eq {a b : List Int} (ha : Bytes a) (hb : Bytes b) : ((strOfNums a).toList == (strOfNums b).toList) = decide (a = b) := by
  rw [ByteArray.toList_eq, ByteArray.toList_eq, strOfNums_data, strOfNums_data, Bool.eq_iff_iff, beq_iff_eq, decide_eq_true_eq]
  exact ⟨map_u8_inj ha hb, fun h => by rw [h]⟩

theorem info_u8 : (Tryd.prog.info? 5).map (fun i => (i.zero, i.size, i.bytes)) = some (some (.int .u8 0), 1, 1) := by kernel_rfl
/-- append([]byte{}, v...): a row of the call's own -/
theorem copy8 {w : World} {v : Value} {l : List Int} (hr : RU8 w v l) (hl : l.length ≤ 90000) :
    ∃ u w2, (Builtin.append_ #[22, 22] 22 #[.slice (some ⟨w.heap.size, 0, none⟩) 0 0, v]).run Tryd.prog (w.alloc (.cells #[] 5)) = .ok u w2 ∧ AnyLater w w2 ∧ ON .u8 5 w2 w.heap.size u l := by
  have a1 : AnyLater w (w.alloc (.cells #[] 5)) := (AnyLater.refl w).alloc _
  have ho : ON .u8 5 (w.alloc (.cells #[] 5)) w.heap.size (.slice (some ⟨w.heap.size, 0, none⟩) 0 0) [] := ON.empty (Nat.le_refl _) (heap_new rfl)
  obtain ⟨u, w2, k1, k2, k3⟩ := appN (s := 22) Tryd.underlying22 info_u8 (by decide) ho (hr.later a1) a1.below.size (by simp; omega)
  exact ⟨u, w2, k1, ON.grown ho (Nat.le_refl _) a1 k3, k2⟩
end Go.Proofs.YtimplngemjdodaaDoor
