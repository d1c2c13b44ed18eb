/- band: Of, the good bands of rows that are told one by one. -/
import Derived.Test.YtcgbfdjdpjdncaaBandB
namespace Go.Proofs.Ytcgbfdjdpjdncaa
set_option linter.unusedSimpArgs false
set_option linter.unusedVariables false
set_option linter.unusedSectionVars false
open Go.RowKit

/-- a row of bools that a call made itself -/
def OBool (w : World) (B : Nat) (v : Value) (l : List Bool) : Prop := w.ownsRow B 4 1 v l.length (l.map Value.bool)
theorem OBool.later {w w' : World} {B : Nat} {v : Value} {l : List Bool} (h : OBool w B v l) (ha : AnyLater w w') : OBool w' B v l := owns_later ha h
/-- stores into a row of the call's own -/
theorem owns_store {w : World} {B : Nat} {e : TypeId} {size n cap g i : Nat} {xs : List Value} {x : Value} (o : w.ownsRow B e size (.slice (some ⟨g, 0, none⟩) n cap) n xs) (hi : i < xs.length) : (w.setCell ⟨g, i, none⟩ x).ownsRow B e size (.slice (some ⟨g, 0, none⟩) n cap) n (xs.set i x) := by
  refine ⟨by rw [List.length_set]; exact o.1, ?_⟩
  rcases o.2 with ⟨h1, _⟩ | ⟨g', cap', cur, h1, h2, h3, h4, h5, h6, h7⟩
  · cases h1
  · obtain ⟨rfl, rfl⟩ : g' = g ∧ cap' = cap := by cases h1; exact ⟨rfl, rfl⟩
    refine .inr ⟨g', cap', cur.setIfInBounds i x, rfl, h2, heap_at h3 rfl, h4, h5, by simpa using h6, ?_⟩
    rw [Array.toList_setIfInBounds, List.take_set, h7]
theorem flatB_set1 : ∀ (l : Bands) (j : Nat) (t : Int), (flatB l).set (j * 2 + 1) (.int .i64 t) = flatB (l.modify j fun b => (b.1, t))
  | [], j, t => by simp [flatB_nil]
  | b :: l, 0, t => rfl
  | b :: l, j + 1, t => by
    rw [flatB_cons, show (j + 1) * 2 + 1 = j * 2 + 1 + 1 + 1 by omega, List.set_cons_succ, List.set_cons_succ, flatB_set1 l j t, List.modify_succ_cons, flatB_cons]
/-- the good bands of the first rows grow -/
theorem ofR_succ (has : Nat → Bool) (n : Nat) : ofR has (n + 1) = if has n then (if 0 < n && has (n - 1) then (match ofR has n with | (f, _) :: r => (f, (n : Int) + 1 - 100) :: r | [] => []) else ((n : Int) - 100, (n : Int) + 1 - 100) :: ofR has n) else ofR has n := rfl
theorem modify_last {α : Type} (f : α → α) (x : α) : ∀ a : List α, (a ++ [x]).modify a.length f = a ++ [f x]
  | [] => rfl
  | b :: a => by rw [List.cons_append, List.length_cons, List.modify_succ_cons, modify_last f x a, List.cons_append]
theorem ofL_skip {has : Nat → Bool} {n : Nat} (h : has n = false) : ofL has (n + 1) = ofL has n := by
  unfold ofL; rw [ofR_succ, if_neg (by rw [h]; simp)]
theorem ofL_new {has : Nat → Bool} {n : Nat} (h : has n = true) (hp : ¬ (0 < n ∧ has (n - 1) = true)) : ofL has (n + 1) = ofL has n ++ [((n : Int) - 100, (n : Int) + 1 - 100)] := by
  unfold ofL
  rw [ofR_succ, if_pos h, if_neg (by simpa using hp), List.reverse_cons]
theorem ofL_more {has : Nat → Bool} {n : Nat} (h : has n = true) (hp : 0 < n ∧ has (n - 1) = true) (hn : n ≤ 1000000) : ∃ m, (ofL has n).length = m + 1 ∧ ofL has (n + 1) = (ofL has n).modify m fun b => (b.1, (n : Int) + 1 - 100) := by
  obtain ⟨f, r, hR⟩ := (ofR_inv has n hn).last.1 hp
  unfold ofL
  rw [ofR_succ, if_pos h, if_pos (by simpa using hp), hR]
  refine ⟨r.length, by simp, ?_⟩
  simp only [List.reverse_cons]
  have := modify_last (fun b : Int × Int => (b.1, (n : Int) + 1 - 100)) (f, (n : Int) - 100) r.reverse
  rw [List.length_reverse] at this
  exact this.symm
theorem ofL_length (has : Nat → Bool) : ∀ n, (ofL has n).length ≤ n
  | 0 => Nat.le_refl 0
  | n + 1 => by
    have ih := ofL_length has n
    unfold ofL at ih ⊢
    rw [List.length_reverse] at ih ⊢
    rw [ofR_succ]
    cases hR : ofR has n with
    | nil => split <;> (try split) <;> simp
    | cons b r =>
      rw [hR] at ih
      split <;> (try split) <;> simp at ih ⊢ <;> omega
/-- the row's block -/
theorem own_block {w : World} {B : Nat} {e : TypeId} {size m : Nat} {v : Value} {n : Nat} {xs : List Value} (o : w.ownsRow B e size v n xs) (hn : n = m + 1) :
    ∃ g cap cur, v = .slice (some ⟨g, 0, none⟩) (m + 1) cap ∧ B ≤ g ∧ w.heap[g]? = some (.cells cur e) ∧ n * size ≤ cur.size := by
  rcases o.2 with ⟨_, h0⟩ | ⟨g, cap, cur, rfl, h2, h3, h4, h5, h6, h7⟩
  · omega
  · exact ⟨g, cap, cur, by rw [hn], h2, h3, by rw [h6]; exact Nat.mul_le_mul_right _ h4⟩
set_option maxRecDepth 100000 in
set_option maxHeartbeats 3200000 in
theorem of_some (g n cap : Nat) (has : Nat → Bool) (w : World) (hn : n ≤ 100000) (hg : g < w.heap.size) (hc : ∀ (j : Nat), j < n → w.cell? ⟨g, j, none⟩ = some (.bool (has j))) :
    Calls Try.prog 14 #[.slice (some ⟨g, 0, none⟩) n cap] w (RowB w (ofL has n)) := by
  obtain ⟨i0, hi0, hz0, hz1, hz2⟩ := info_parts info_band
  have HC := Lib.hid hc
  clear hc
  go_enter Try.func14, Try.ntmps14
  go_wp2_with fail
  go_loopg [3, 4] n (fun k v i wr => ∃ j : Nat, k = n - j ∧ j ≤ n ∧ i = .int .i64 j ∧ AnyLater w wr ∧ OB wr w.heap.size v (ofL has j))
  case atStart => exact ⟨0, by omega, by omega, rfl, (AnyLater.refl w).alloc _, own_band0 w⟩
  case round =>
    obtain ⟨j, hk, hj, rfl, ha, ho⟩ := hrel
    have HA := Lib.hid (And.intro ha ho)
    by_cases hlt : j < n
    · have c0 : wr.cell? ⟨g, j, none⟩ = some (.bool (has j)) := (ha.below.cell hg).trans (HC.out j hlt)
      cases hb : has j with
      | false =>
        rw [hb] at c0
        have HS := Lib.hid (ofL_skip (has := has) (n := j) hb)
        clear hb ha ho
        go_wp2_with fail
        go_roundg (n - (j + 1))
        case measure => omega
        case rel => exact ⟨j + 1, rfl, hlt, by go_num, HA.out.1, by rw [HS.out]; exact HA.out.2⟩
      | true =>
        rw [hb] at c0
        by_cases hp : 0 < j ∧ has (j - 1) = true
        · obtain ⟨m, hm, hS⟩ := ofL_more hb hp (by omega)
          have HS := Lib.hid (And.intro hm hS)
          obtain ⟨gb, cb, cur, rfl, hB, hblk, hsz⟩ := own_block ho hm
          cases j with
          | zero => exact absurd hp.1 (by omega)
          | succ i =>
            have c1 : wr.cell? ⟨g, i, none⟩ = some (.bool true) := by
              rw [ha.below.cell hg, HC.out i (by omega)]
              have := hp.2
              rw [show i + 1 - 1 = i by omega] at this
              rw [this]
            have hx : m * 2 + 1 < cur.size := by rw [hm] at hsz; omega
            have d0 : wr.cell? ⟨gb, m * 2 + 1, none⟩ = some cur[m * 2 + 1] := by rw [own_row hblk]; simp [hx]
            have f0 := own_free hblk (m * 2 + 1)
            have lm : m < 100001 := by have := ofL_length has (i + 1); omega
            have HW := Lib.hid (ha.setCell (p := ⟨gb, m * 2 + 1, none⟩) hB (.int .i64 (((i + 1 : Nat) : Int) + 1 - 100)))
            have HO : Hid (OB (wr.setCell ⟨gb, m * 2 + 1, none⟩ (.int .i64 (((i + 1 : Nat) : Int) + 1 - 100))) w.heap.size (.slice (some ⟨gb, 0, none⟩) (m + 1) cb) (ofL has (i + 1 + 1))) := Lib.hid (by
              have o2 := owns_store (x := .int .i64 (((i + 1 : Nat) : Int) + 1 - 100)) (i := m * 2 + 1) (by unfold OB at ho; rw [hm] at ho; exact ho) (by rw [flatB_length]; omega)
              unfold OB
              rw [hS, List.length_modify, hm, ← flatB_set1]
              exact o2)
            clear hb hp hm hS hsz hblk ho ha
            go_wp2_with fail
            go_roundg (n - (i + 1 + 1))
            case measure => omega
            case rel =>
              refine ⟨i + 1 + 1, rfl, by omega, by go_num, ?_⟩
              exact ⟨HW.out, HO.out⟩
        · have HS := Lib.hid (ofL_new hb hp)
          have lm := ofL_length has j
          cases j with
          | zero =>
            have HO := Lib.hid (owns_later ((AnyLater.refl wr).alloc (.cells #[.int .i64 (-100), .int .i64 (-99)] 38)) ho)
            have HN1 := Lib.hid (World.news_of_block (w := wr.alloc (.cells #[.int .i64 (-100), .int .i64 (-99)] 38)) (cs := #[.int .i64 (-100), .int .i64 (-99)]) (t := 38) (fr := (0, 0)) (heap_new rfl))
            have HB : Hid ((ofL has 0).length + 1 ≤ maxLen ∧ ((ofL has 0).length + 1) * 16 ≤ 140737488355328 ∧ w.heap.size ≤ (wr.alloc (.cells #[.int .i64 (-100), .int .i64 (-99)] 38)).heap.size) := Lib.hid ⟨by unfold maxLen; omega, by omega, (ha.alloc _).below.size⟩
            have HE : Hid ([Value.int .i64 (-100), .int .i64 (-99)] = flatB [(((0 : Nat) : Int) - 100, ((0 : Nat) : Int) + 1 - 100)]) := Lib.hid (by rw [flatB_cons, flatB_nil]; congr 2 <;> (congr 1; omega))
            clear hb hp ho ha
            go_wp2_with (at_builtin; refine wpList_append_own _ rfl _ _ 22 rfl w.heap.size 38 i0 (.agg #[.int .i64 0, .int .i64 0]) 2 16 Try.underlying22 hi0 hz0 hz1 hz2 rfl (by decide) _ (ofL has 0).length (flatB (ofL has 0)) rfl HO.out ⟨wr.heap.size, 0, none⟩ 1 1 [.int .i64 (-100), .int .i64 (-99)] rfl rfl HN1.out (by simp [Value.oneCell']) HB.out.1 HB.out.2.1 HB.out.2.2 ?_; intro v' w2 hown1 hgrow hnil; have S : Hid (AnyLater w w2 ∧ OB w2 w.heap.size v' (ofL has (0 + 1))) := Lib.hid ⟨grown_later (HA.out.1.alloc _) hgrow (owns_base HA.out.2), by rw [HS.out]; unfold OB; rw [List.length_append, flatB_append, ← HE.out]; exact hown1⟩; clear hown1 hgrow hnil)
            go_roundg (n - (0 + 1))
            case measure => omega
            case rel => exact ⟨0 + 1, rfl, by omega, by go_num, S.out⟩
          | succ i =>
            have hb1 : has i = false := by
              cases h : has i with
              | false => rfl
              | true => exact absurd ⟨by omega, by rw [show i + 1 - 1 = i by omega]; exact h⟩ hp
            have c1 : wr.cell? ⟨g, i, none⟩ = some (.bool false) := by rw [ha.below.cell hg, HC.out i (by omega), hb1]
            have HO := Lib.hid (owns_later ((AnyLater.refl wr).alloc (.cells #[.int .i64 ((i : Int) + 1 + -100), .int .i64 ((i : Int) + 1 + 1 + -100)] 38)) ho)
            have HN1 := Lib.hid (World.news_of_block (w := wr.alloc (.cells #[.int .i64 ((i : Int) + 1 + -100), .int .i64 ((i : Int) + 1 + 1 + -100)] 38)) (cs := #[.int .i64 ((i : Int) + 1 + -100), .int .i64 ((i : Int) + 1 + 1 + -100)]) (t := 38) (fr := (0, 0)) (heap_new rfl))
            have HB : Hid ((ofL has (i + 1)).length + 1 ≤ maxLen ∧ ((ofL has (i + 1)).length + 1) * 16 ≤ 140737488355328 ∧ w.heap.size ≤ (wr.alloc (.cells #[.int .i64 ((i : Int) + 1 + -100), .int .i64 ((i : Int) + 1 + 1 + -100)] 38)).heap.size) := Lib.hid ⟨by unfold maxLen; omega, by omega, (ha.alloc _).below.size⟩
            have HE : Hid ([Value.int .i64 ((i : Int) + 1 + -100), .int .i64 ((i : Int) + 1 + 1 + -100)] = flatB [((((i + 1) : Nat) : Int) - 100, (((i + 1) : Nat) : Int) + 1 - 100)]) := Lib.hid (by rw [flatB_cons, flatB_nil]; congr 2 <;> (congr 1; omega))
            clear hb hb1 hp ho ha
            go_wp2_with (at_builtin; refine wpList_append_own _ rfl _ _ 22 rfl w.heap.size 38 i0 (.agg #[.int .i64 0, .int .i64 0]) 2 16 Try.underlying22 hi0 hz0 hz1 hz2 rfl (by decide) _ (ofL has (i + 1)).length (flatB (ofL has (i + 1))) rfl HO.out ⟨wr.heap.size, 0, none⟩ 1 1 [.int .i64 ((i : Int) + 1 + -100), .int .i64 ((i : Int) + 1 + 1 + -100)] rfl rfl HN1.out (by simp [Value.oneCell']) HB.out.1 HB.out.2.1 HB.out.2.2 ?_; intro v' w2 hown1 hgrow hnil; have S : Hid (AnyLater w w2 ∧ OB w2 w.heap.size v' (ofL has ((i + 1) + 1))) := Lib.hid ⟨grown_later (HA.out.1.alloc _) hgrow (owns_base HA.out.2), by rw [HS.out]; unfold OB; rw [List.length_append, flatB_append, ← HE.out]; exact hown1⟩; clear hown1 hgrow hnil)
            go_roundg (n - (i + 1 + 1))
            case measure => omega
            case rel => exact ⟨i + 1 + 1, rfl, by omega, by go_num, S.out⟩
    · obtain rfl : j = n := by omega
      clear ha ho
      go_wp2_with fail
      go_ret
      exact ⟨_, rfl, HA.out⟩
end Go.Proofs.Ytcgbfdjdpjdncaa
