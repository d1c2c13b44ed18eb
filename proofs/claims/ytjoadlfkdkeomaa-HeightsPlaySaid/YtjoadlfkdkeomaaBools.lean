/- Rows of truths in memory: read, cut, appended to, written in place. No condition. -/
import Derived.Test.YtjoadlfkdkeomaaOwn
import Derived.Test.YtjoadlfkdkeomaaNums
import Derived.Test.YtjoadlfkdkeomaaRows
import Derived.Test.YtjoadlfkdkeomaaStays
import Derived.Deep.Upon
import Derived.Deep.OwnRows
namespace Go.Proofs.Ytjoadlfkdkeomaa
set_option linter.unusedSimpArgs false
set_option linter.unusedVariables false
set_option linter.unusedSectionVars false
open Go.RowKit

/-- a slice that reads as these truths -/
def RB (w : World) (v : Value) (l : List Bool) : Prop := ∃ (A : Option Addr) (cap : Nat), v = .slice A l.length cap ∧ l.length ≤ cap ∧ (0 < l.length → ∃ b off, A = some ⟨b, off, none⟩ ∧ b < w.heap.size ∧ ∀ (j : Nat) (h : j < l.length), w.cell? ⟨b, off + j, none⟩ = some (.bool l[j]))
theorem RB.later {w w' : World} {v : Value} {l : List Bool} (h : RB w v l) (ha : AnyLater w w') : RB w' v l := by
  obtain ⟨A, cap, h1, h2, h3⟩ := h
  refine ⟨A, cap, h1, h2, fun h0 => ?_⟩
  obtain ⟨b, off, e, hb, hc⟩ := h3 h0
  exact ⟨b, off, e, Nat.lt_of_lt_of_le hb ha.below.size, fun j hj => (ha.below.cell hb).trans (hc j hj)⟩
theorem RB.form {w : World} {v : Value} {l : List Bool} (h : RB w v l) : ∃ A cap, v = .slice A l.length cap ∧ l.length ≤ cap := by
  obtain ⟨A, cap, h1, h2, _⟩ := h
  exact ⟨A, cap, h1, h2⟩
/-- one truth of a slice, as the walk reads it -/
theorem RB.at {w : World} {A : Option Addr} {n cap : Nat} {l : List Bool} (h : RB w (.slice A n cap) l) (j : Nat) (hj : j < l.length) : ∃ b off, A = some ⟨b, off, none⟩ ∧ b < w.heap.size ∧ w.cell? ⟨b, off + j, none⟩ = some (.bool l[j]) := by
  obtain ⟨A', cap', e, h2, h3⟩ := h
  cases e
  obtain ⟨b, off, e, hb, hc⟩ := h3 (by omega)
  exact ⟨b, off, e, hb, hc j hj⟩
theorem RB.drop {w : World} {A : Option Addr} {cap : Nat} {l : List Bool} (h : RB w (.slice A l.length cap) l) (n : Nat) (hn : n ≤ l.length) : RB w (.slice (if cap = n then A else A.map (fun x => x.add n)) (l.length - n) (cap - n)) (l.drop n) := by
  obtain ⟨A', cap', e, h2, h3⟩ := h
  cases e
  refine ⟨_, _, by rw [List.length_drop], by rw [List.length_drop]; omega, fun h0 => ?_⟩
  rw [List.length_drop] at h0
  obtain ⟨b, off, rfl, hb, hc⟩ := h3 (by omega)
  rw [if_neg (by omega)]
  refine ⟨b, off + n, by rw [Option.map_some, addr_add], hb, fun j hj => ?_⟩
  rw [List.length_drop] at hj
  rw [Nat.add_assoc, hc (n + j) (by omega), List.getElem_drop]
theorem RB.take {w : World} {A : Option Addr} {cap : Nat} {l : List Bool} (h : RB w (.slice A l.length cap) l) (n : Nat) (hn : n ≤ l.length) : RB w (.slice A n cap) (l.take n) := by
  obtain ⟨A', cap', e, h2, h3⟩ := h
  cases e
  have hl : (l.take n).length = n := by rw [List.length_take]; omega
  refine ⟨A, cap, by rw [hl], by rw [hl]; omega, fun h0 => ?_⟩
  rw [hl] at h0
  obtain ⟨b, off, rfl, hb, hc⟩ := h3 (by omega)
  refine ⟨b, off, rfl, hb, fun j hj => ?_⟩
  rw [hl] at hj
  rw [hc j (by omega), List.getElem_take]

/-! ### rows that the call owns -/
abbrev OB (w : World) (B : Nat) (v : Value) (l : List Bool) : Prop := w.ownsRow B 4 1 v l.length (l.map Value.bool)
theorem OB.rb {w : World} {B : Nat} {v : Value} {l : List Bool} (h : OB w B v l) : RB w v l := by
  rcases h.2 with ⟨rfl, h0⟩ | ⟨g, cap, cur, rfl, h1, h2, h3, h4, h5, h6⟩
  · exact ⟨none, 0, by rw [h0], by omega, fun h => by omega⟩
  · refine ⟨_, cap, rfl, h3, fun h0 => ⟨g, 0, rfl, own_lt h2, fun j hj => ?_⟩⟩
    rw [own_row h2, Nat.zero_add]
    have : (cur.toList.take (l.length * 1))[j]? = (l.map Value.bool)[j]? := by rw [h6]
    rw [List.getElem?_take_of_lt (by omega), Array.getElem?_toList] at this
    rw [this]
    simp [hj]
theorem OB.form {w : World} {B : Nat} {v : Value} {l : List Bool} (h : OB w B v l) : ∃ A cap, v = .slice A l.length cap ∧ l.length ≤ cap := h.rb.form
theorem OB.empty {w : World} {g B : Nat} (hB : B ≤ g) (h : w.heap[g]? = some (.cells #[] 4)) : OB w B (.slice (some ⟨g, 0, none⟩) 0 0) [] := ⟨rfl, .inr ⟨g, 0, #[], rfl, hB, h, Nat.le_refl _, Nat.zero_le _, rfl, rfl⟩⟩
theorem OB.one {w : World} {g B : Nat} {x : Bool} (hB : B ≤ g) (h : w.heap[g]? = some (.cells #[.bool x] 4)) : OB w B (.slice (some ⟨g, 0, none⟩) 1 1) [x] := ⟨rfl, .inr ⟨g, 1, _, rfl, hB, h, Nat.le_refl _, by unfold maxLen; omega, rfl, rfl⟩⟩
theorem OB.later {w w' : World} {B : Nat} {v : Value} {l : List Bool} (ha : AnyLater w w') (h : OB w B v l) : OB w' B v l := owns_later ha h
theorem OB.wide {w : World} {B C : Nat} {v : Value} {l : List Bool} (hC : C ≤ B) (h : OB w B v l) : OB w C v l := by
  refine ⟨h.1, ?_⟩
  rcases h.2 with q | ⟨g, cap, cur, h0, h1, h2⟩
  · exact .inl q
  · exact .inr ⟨g, cap, cur, h0, by omega, h2⟩
theorem info_bool : (Try.prog.info? 4).map (fun i => (i.zero, i.size, i.bytes)) = some (some (.bool false), 1, 1) := by kernel_rfl
/-- append(v, u...) onto a row that the call owns -/
theorem appB {w : World} {B : Nat} {v u : Value} {l m : List Bool} (ho : OB w B v l) (hm : RB w u m) (hB : B ≤ w.heap.size) (hlen : l.length + m.length ≤ 100000) :
    ∃ v' w', (Builtin.append_ #[37, 37] 37 #[v, u]).run Try.prog w = .ok v' w' ∧ OB w' B v' (l ++ m) ∧ w.grownBy w' v.ownBlock := by
  obtain ⟨i0, hi0, hz0, hz1, hz2⟩ := info_parts info_bool
  obtain ⟨A, cap, rfl, h2, h3⟩ := hm
  cases A with
  | none =>
    have h0 : m = [] := by
      cases m with
      | nil => rfl
      | cons x t => obtain ⟨b, off, e, _⟩ := h3 (by simp); cases e
    subst h0
    obtain ⟨A2, c2, rfl, q2⟩ := ho.form
    have hsrc := Src.ofNil (P := Try.prog) w (size := i0.size) Try.underlying37 cap
    refine ⟨_, _, run_append_nothing (P := Try.prog) w 37 37 37 4 i0 Try.underlying37 hi0 A2 l.length c2 q2 _ hsrc, by rw [List.append_nil]; exact ho, ⟨rfl, rfl, rfl, Nat.le_refl _, fun _ _ _ => rfl⟩⟩
  | some ad =>
    by_cases h0 : 0 < m.length
    · obtain ⟨b, off, e, hb, hc⟩ := h3 h0
      cases e
      have hnews : ∀ j x, (m.map Value.bool)[j]? = some x → w.cell? ((⟨b, off, none⟩ : Addr).add j) = some x := by
        intro j x hx
        have hj : j < m.length := by
          rcases Nat.lt_or_ge j m.length with h | h
          · exact h
          · rw [List.getElem?_eq_none (by simpa using h)] at hx; cases hx
        rw [addr_add, hc j hj, ← hx]
        simp [hj]
      obtain ⟨v', w', k1, k2, k3, _⟩ := run_append_own (P := Try.prog) w B 37 37 4 i0 (.bool false) 1 1 Try.underlying37 hi0 hz0 hz1 hz2 rfl (by decide) v l.length (l.map Value.bool) ho ⟨b, off, none⟩ m.length cap (m.map Value.bool) (by simp) hnews (by intro x hx; obtain ⟨z, _, rfl⟩ := List.mem_map.1 hx; rfl) (by unfold maxLen; omega) (by omega) hB
      refine ⟨v', w', k1, ?_, k3⟩
      show w'.ownsRow B 4 1 v' (l ++ m).length ((l ++ m).map Value.bool)
      rw [List.length_append, List.map_append]
      exact k2
    · obtain rfl := List.eq_nil_of_length_eq_zero (Nat.eq_zero_of_not_pos h0)
      obtain ⟨v', w', k1, k2, k3, _⟩ := run_append_own (P := Try.prog) w B 37 37 4 i0 (.bool false) 1 1 Try.underlying37 hi0 hz0 hz1 hz2 rfl (by decide) v l.length (l.map Value.bool) ho ad 0 cap [] (by simp) (fun j x hx => by simp at hx) (by intro x hx; simp at hx) (by unfold maxLen; simp at hlen; omega) (by simp at hlen; omega) hB
      refine ⟨v', w', k1, ?_, k3⟩
      show w'.ownsRow B 4 1 v' (l ++ []).length ((l ++ []).map Value.bool)
      rw [List.append_nil]
      simpa using k2
theorem OB.grown {W w w2 : World} {B : Nat} {v : Value} {l : List Bool} (ho : OB w B v l) (hW : W.heap.size ≤ B) (h : AnyLater W w) (hg : w.grownBy w2 v.ownBlock) : AnyLater W w2 :=
  grown_later h hg (fun q hq => Nat.le_trans hW (owns_base ho q hq))
/-- append(v, x), v a row of truths of the call's own -/
theorem appB1 {w : World} {B : Nat} {v : Value} {l : List Bool} (x : Bool) (ho : OB w B v l) (hB : B ≤ w.heap.size) (hl : l.length ≤ 90000) :
    ∃ u w2, (Builtin.append_ #[37, 37] 37 #[v, .slice (some ⟨w.heap.size, 0, none⟩) 1 1]).run Try.prog (w.alloc (.cells #[.bool x] 4)) = .ok u w2 ∧ OB w2 B u (l ++ [x]) ∧ ∀ W, W.heap.size ≤ B → AnyLater W w → AnyLater W w2 := by
  have a1 : AnyLater w (w.alloc (.cells #[.bool x] 4)) := (AnyLater.refl w).alloc _
  have hm : RB (w.alloc (.cells #[.bool x] 4)) (.slice (some ⟨w.heap.size, 0, none⟩) 1 1) [x] := (OB.one (B := 0) (Nat.zero_le _) (heap_new rfl)).rb
  have ho2 := OB.later a1 ho
  obtain ⟨u, w2, k1, k2, k3⟩ := appB ho2 hm (Nat.le_trans hB a1.below.size) (by simp; omega)
  exact ⟨u, w2, k1, k2, fun W h1 h2 => OB.grown ho2 h1 (h2.trans a1) k3⟩
set_option maxRecDepth 100000 in
/-- v[n:] -/
theorem RB.cutB {w : World} {v : Value} {l : List Bool} (h : RB w v l) (n : Nat) (hn : n ≤ l.length) : ∃ u, RB w u (l.drop n) ∧ ∀ w', (Instr.sliceAt 37 v (some (.int .i64 (n : Int))) none none).run Try.prog w' = .ok u w' := by
  obtain ⟨A, cap, rfl, h2, h3⟩ := h
  refine ⟨_, RB.drop ⟨A, cap, rfl, h2, h3⟩ n hn, fun w' => ?_⟩
  rw [run_sliceAt_slice w' _ _ _ _ _ Try.underlying37, run_slice_l w' _ A l.length cap Try.underlying37 .i64 (n : Int) (by omega) (by omega)]
  have hz : ∀ w, (Go.sizeOf (Try.prog.elem 37)).run Try.prog w = .ok 1 w := fun w => by simp [go_sem]
  rw [hz]
  simp [Result.andThen, sliced]
set_option maxRecDepth 100000 in
/-- v[:n] -/
theorem RB.uptoB {w : World} {v : Value} {l : List Bool} (h : RB w v l) (n : Nat) (hn : n ≤ l.length) : ∃ A cap, RB w (.slice A n cap) (l.take n) ∧ ∀ w', (Instr.sliceAt 37 v none (some (.int .i64 (n : Int))) none).run Try.prog w' = .ok (.slice A n cap) w' := by
  obtain ⟨A, cap, rfl, h2, h3⟩ := h
  have hz : ∀ w, (Go.sizeOf (Try.prog.elem 37)).run Try.prog w = .ok 1 w := fun w => by simp [go_sem]
  have key : ∀ w', (Instr.sliceAt 37 (.slice A l.length cap) none (some (.int .i64 (n : Int))) none).run Try.prog w' = .ok (.slice (if cap = 0 then A else A.map (fun x => x.add 0)) n cap) w' := fun w' => by
    rw [run_sliceAt_slice w' _ _ _ _ _ Try.underlying37, run_slice_h w' _ A l.length cap Try.underlying37 .i64 (n : Int) (by omega) (by omega)]
    rw [hz]
    simp [Result.andThen, sliced]
  have eA : (if cap = 0 then A else A.map (fun x => x.add 0)) = A := by
    split
    · rfl
    · cases A with
      | none => rfl
      | some a => simp [Addr.add]
  rw [eA] at key
  exact ⟨A, cap, RB.take ⟨A, cap, rfl, h2, h3⟩ n hn, key⟩
/-- append([]bool{}, v...): a row of the call's own -/
theorem copyB {w : World} {v : Value} {l : List Bool} (hr : RB w v l) (hl : l.length ≤ 90000) :
    ∃ u w2, (Builtin.append_ #[37, 37] 37 #[.slice (some ⟨w.heap.size, 0, none⟩) 0 0, v]).run Try.prog (w.alloc (.cells #[] 4)) = .ok u w2 ∧ AnyLater w w2 ∧ OB w2 w.heap.size u l := by
  have a1 : AnyLater w (w.alloc (.cells #[] 4)) := (AnyLater.refl w).alloc _
  have ho : OB (w.alloc (.cells #[] 4)) w.heap.size (.slice (some ⟨w.heap.size, 0, none⟩) 0 0) [] := OB.empty (Nat.le_refl _) (heap_new rfl)
  obtain ⟨u, w2, k1, k2, k3⟩ := appB ho (hr.later a1) a1.below.size (by simp; omega)
  exact ⟨u, w2, k1, OB.grown ho (Nat.le_refl _) a1 k3, k2⟩
/-- make([]bool, n) -/
theorem makeB (n : Nat) (hn : n ≤ 90000) (w : World) : ∃ w2, (Instr.makeSlice 37 (.int .i64 (n : Int)) (.int .i64 (n : Int))).run Try.prog w = .ok (.slice (some ⟨w.heap.size, 0, none⟩) n n) w2 ∧ AnyLater w w2 ∧ OB w2 w.heap.size (.slice (some ⟨w.heap.size, 0, none⟩) n n) (List.replicate n false) := by
  have h := run_make_row' (P := Try.prog) 37 4 (.bool false) 1 Try.underlying37 info_bool rfl .i64 .i64 n (by omega) (by omega) w
  refine ⟨_, h, (AnyLater.refl w).alloc _, ?_⟩
  show World.ownsRow _ _ _ _ _ (List.replicate n false).length _
  rw [List.length_replicate]
  refine ⟨by simp, .inr ⟨w.heap.size, n, _, rfl, Nat.le_refl _, heap_new rfl, Nat.le_refl _, by unfold maxLen; omega, by rw [size_madeCells]; simp, ?_⟩⟩
  apply List.ext_getElem?
  intro q
  rcases Nat.lt_or_ge q n with hq | hq
  · rw [List.getElem?_take_of_lt (by omega)]
    simp [madeCells, hq, Nat.mod_one]
  · rw [List.getElem?_eq_none (by rw [List.length_take]; simp [madeCells]; omega), List.getElem?_eq_none (by simpa using hq)]
/-- a row that is owned, written out -/
theorem OB.at {w : World} {B : Nat} {v : Value} {l : List Bool} (h : OB w B v l) (h0 : 0 < l.length) : ∃ g cap cur, v = .slice (some ⟨g, 0, none⟩) l.length cap ∧ B ≤ g ∧ w.heap[g]? = some (.cells cur 4) ∧ l.length ≤ cap ∧ cap ≤ maxLen ∧ cur.size = cap ∧ cur.toList.take l.length = l.map Value.bool := by
  rcases h.2 with ⟨_, e⟩ | ⟨g, cap, cur, rfl, h1, h2, h3, h4, h5, h6⟩
  · omega
  · exact ⟨g, cap, cur, rfl, h1, h2, h3, h4, by omega, by rw [← h6, Nat.mul_one]⟩
/-- v[i] = x, in place -/
theorem OB.put {w : World} {B g cap : Nat} {cur : Array Value} {l : List Bool} {i : Nat} (x : Bool) (h1 : B ≤ g) (h2 : w.heap[g]? = some (.cells cur 4)) (h3 : l.length ≤ cap) (h4 : cap ≤ maxLen) (h5 : cur.size = cap) (h6 : cur.toList.take l.length = l.map Value.bool) (hi : i < l.length) : OB (w.setCell ⟨g, i, none⟩ (.bool x)) B (.slice (some ⟨g, 0, none⟩) l.length cap) (l.set i x) := by
  show World.ownsRow _ _ _ _ _ (l.set i x).length _
  rw [List.length_set]
  refine ⟨by simp, .inr ⟨g, cap, _, rfl, h1, heap_at h2 rfl, h3, h4, by simpa using h5, ?_⟩⟩
  rw [Nat.mul_one, Array.toList_setIfInBounds, List.take_set, h6, List.map_set]
end Go.Proofs.Ytjoadlfkdkeomaa
