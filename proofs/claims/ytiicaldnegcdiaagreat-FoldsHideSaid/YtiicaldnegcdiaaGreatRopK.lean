/- rope: calc's Clamp and Span; what lies between two places of a tree, handed out piece by piece: by contract. -/
import Derived.Test.YtiicaldnegcdiaaGreatRopI
namespace Go.Proofs.YtiicaldnegcdiaaGreat
set_option linter.unusedSimpArgs false
set_option linter.unusedVariables false
set_option linter.unusedSectionVars false
open Go.RowKit

/-! ### calc -/
theorem ret_z {a b : Int} (h : a = b) : Ending.returned (.int .i64 a) = .returned (.int .i64 b) := by rw [h]
def midZ (n low high : Int) : Int := if n < low ∨ high < low then low else if high < n then high else n
theorem rclamp_any (n low high : Int) (w : World) (c : Int) (hc : midZ n low high = c) :
    Calls Tryz.prog 46 #[.int .i64 n, .int .i64 low, .int .i64 high] w fun e w' => e = .returned (.int .i64 c) ∧ w = w' := by
  subst hc
  by_cases h1 : n < low
  · have Q : Hid (low = midZ n low high) := Lib.hid (by unfold midZ; rw [if_pos (.inl h1)])
    go_enter Tryz.func46, Tryz.ntmps46
    go_wp2
    go_ret
    exact ⟨ret_z Q.out, rfl⟩
  · by_cases h2 : high < low
    · have Q : Hid (low = midZ n low high) := Lib.hid (by unfold midZ; rw [if_pos (.inr h2)])
      go_enter Tryz.func46, Tryz.ntmps46
      go_wp2
      go_ret
      exact ⟨ret_z Q.out, rfl⟩
    · by_cases h3 : high < n
      · have Q : Hid (high = midZ n low high) := Lib.hid (by unfold midZ; rw [if_neg (by omega), if_pos h3])
        go_enter Tryz.func46, Tryz.ntmps46
        go_wp2
        go_ret
        exact ⟨ret_z (by rw [← Q.out]; omega), rfl⟩
      · have Q : Hid (n = midZ n low high) := Lib.hid (by unfold midZ; rw [if_neg (by omega), if_neg h3])
        go_enter Tryz.func46, Tryz.ntmps46
        go_wp2
        go_ret
        exact ⟨ret_z (by rw [← Q.out]; omega), rfl⟩
def In3 (a n all : Int) : Prop := 0 ≤ a ∧ a ≤ all ∧ 0 ≤ n ∧ n ≤ all - a
/-! ### from a place on, ahead of another one -/
def cutZ (l : List Int) (f t : Int) : List Int := (l.take t.toNat).drop f.toNat
theorem cutZ_append (a b : List Int) (f t : Int) : cutZ (a ++ b) f t = cutZ a f t ++ cutZ b (f - a.length) (t - a.length) := by
  unfold cutZ
  rw [List.take_append, List.drop_append, List.length_take]
  congr 1
  rcases Nat.le_total a.length t.toNat with h | h
  · rw [Nat.min_eq_right h]
    congr 1
    · omega
    · congr 1; omega
  · have e1 : t.toNat - a.length = 0 := by omega
    have e2 : (t - (a.length : Int)).toNat = 0 := by omega
    rw [e1, e2]; simp
theorem cutZ_none {l : List Int} {f t : Int} (h : t ≤ f ∨ (l.length : Int) ≤ f ∨ t ≤ 0) : cutZ l f t = [] := by
  unfold cutZ
  apply List.drop_of_length_le
  rw [List.length_take]
  omega
theorem cutZ_length_le (l : List Int) (f t : Int) : (cutZ l f t).length ≤ l.length := by
  unfold cutZ
  rw [List.length_drop, List.length_take]; omega
theorem cutZ_some {l : List Int} {f t : Int} {i j : Nat} (hi : (i : Int) = midZ f 0 l.length) (hj : (j : Int) = midZ t 0 l.length) (hij : i < j) : cutZ l f t = (l.drop i).take (j - i) := by
  unfold cutZ
  unfold midZ at hi hj
  have e1 : l.take t.toNat = l.take j := by
    split at hj
    · omega
    · split at hj
      · rw [List.take_of_length_le (by omega), List.take_of_length_le (by omega)]
      · congr 1; omega
  have e2 : f.toNat = i := by
    split at hi
    · omega
    · split at hi
      · split at hj <;> (try split at hj) <;> omega
      · omega
  rw [e1, e2, List.drop_take]
set_option maxRecDepth 100000 in
theorem RN.mid {w : World} {v : Value} {l : List Int} (h : RN .u8 w v l) (lo hi : Nat) (h1 : lo < hi) (h2 : hi ≤ l.length) : ∃ A cap, RN .u8 w (.slice A (hi - lo) cap) ((l.drop lo).take (hi - lo)) ∧
    ∀ w', (Instr.sliceAt 22 v (some (.int .i64 (lo : Int))) (some (.int .i64 (hi : Int))) none).run Tryz.prog w' = .ok (.slice A (hi - lo) cap) w' := by
  obtain ⟨A, cap, rfl, h3, h4⟩ := h
  obtain ⟨b, off, rfl, hb, hc⟩ := h4 (by omega)
  have hl : ((l.drop lo).take (hi - lo)).length = hi - lo := by rw [List.length_take, List.length_drop]; omega
  refine ⟨some ⟨b, off + lo, none⟩, cap - lo, ⟨_, _, by rw [hl], by rw [hl]; omega, fun _ => ⟨b, off + lo, rfl, hb, fun j hj => ?_⟩⟩, fun w' => ?_⟩
  · rw [hl] at hj
    rw [Nat.add_assoc, hc (lo + j) (by omega), List.getElem_take, List.getElem_drop]
  · rw [run_sliceAt_slice w' _ _ _ _ _ Tryz.underlying22, run_slice_lh w' _ (some ⟨b, off, none⟩) l.length cap Tryz.underlying22 .i64 .i64 (lo : Int) (hi : Int) (by omega) (by omega) (by omega)]
    have hz : ∀ w, (Go.sizeOf (Tryz.prog.elem 22)).run Tryz.prog w = .ok 1 w := fun w => by simp [go_sem]
    rw [hz]
    simp only [Result.andThen, sliced, Int.toNat_natCast, Nat.mul_one]
    rw [if_neg (by omega), Option.map_some, addr_add]

/-! ### what is handed out -/
/-- the variable at X holds a row of the call's own, which reads as these bytes -/
def OutS (W : World) (X : Nat) (w : World) (L : List Int) : Prop := AnyLater W w ∧ ∃ ov, w.heap[X]? = some (.cells #[ov] 22) ∧ ON .u8 5 w W.heap.size ov L
/-- append(v, u...) onto a row of bytes of the call's own -/
theorem app8 {w : World} {B : Nat} {v u : Value} {l m : List Int} (ho : ON .u8 5 w B v l) (hm : RN .u8 w u m) (hB : B ≤ w.heap.size) (hlen : l.length + m.length ≤ 100000) :
    ∃ v' w', (Builtin.append_ #[22, 22] 22 #[v, u]).run Tryz.prog w = .ok v' w' ∧ ON .u8 5 w' B v' (l ++ m) ∧ w.grownBy w' v.ownBlock := appN (s := 22) Tryz.underlying22 info_u8 (by decide) ho hm hB hlen
theorem OutS.len {W w : World} {X : Nat} {L : List Int} (h : OutS W X w L) : AnyLater W w := h.1
/-- a later world in which nothing of the call's own was touched -/
theorem OutS.later {W w w' : World} {X : Nat} {L : List Int} (h : OutS W X w L) (ha : AnyLater w w') : OutS W X w' L := by
  obtain ⟨hW, ov, hx, ho⟩ := h
  exact ⟨hW.trans ha, ov, any_own ha hx, ho.later ha⟩
theorem midZ_cast (x : Int) (s n : Nat) : ∃ i : Nat, midZ x s ((s + n : Nat) : Int) = ((s + i : Nat) : Int) ∧ i ≤ n ∧ (i : Int) = midZ (x - s) 0 n := by
  refine ⟨(midZ (x - s) 0 n).toNat, ?_, ?_, ?_⟩
  all_goals
    unfold midZ
    split
    · (try split) <;> omega
    · (try split) <;> (try split) <;> omega
end Go.Proofs.YtiicaldnegcdiaaGreat
