/- What calls may change: all blocks stay but those of a set; cells of a row written in place; a row of numbers of 64 bits that the call owns, cut and written in place. No condition. -/
import Derived.Test.YtjoadlfkdkeomaaNums
import Derived.Deep.DeepAppendRoom
import Derived.Laws.IdiomCopy
import Derived.Lib.SliceRun
namespace Go.Proofs.Ytjoadlfkdkeomaa
set_option linter.unusedSimpArgs false
set_option linter.unusedVariables false
set_option linter.unusedSectionVars false
open Go.RowKit

/-- all blocks stay as they were, but for those of S; more may have been made -/
structure Stays (S : Nat → Prop) (w w' : World) : Prop where
  os : w'.os = w.os
  tape : w'.tape = w.tape
  output : w'.output = w.output
  size : w.heap.size ≤ w'.heap.size
  block : ∀ k, k < w.heap.size → ¬ S k → w'.heap[k]? = w.heap[k]?
theorem Stays.refl (S : Nat → Prop) (w : World) : Stays S w w := ⟨rfl, rfl, rfl, Nat.le_refl _, fun _ _ _ => rfl⟩
theorem Stays.trans {S : Nat → Prop} {a b c : World} (h : Stays S a b) (k : Stays S b c) : Stays S a c :=
  ⟨k.os.trans h.os, k.tape.trans h.tape, k.output.trans h.output, Nat.le_trans h.size k.size, fun i hi hn => (k.block i (Nat.lt_of_lt_of_le hi h.size) hn).trans (h.block i hi hn)⟩
theorem Stays.of {S : Nat → Prop} {w w' : World} (h : AnyLater w w') : Stays S w w' := ⟨h.below.os, h.below.tape, h.below.output, h.below.size, fun k hk _ => h.below.block k hk⟩
theorem Stays.any {S : Nat → Prop} {W w w' : World} (hW : AnyLater W w) (hS : ∀ k, S k → W.heap.size ≤ k) (h : Stays S w w') : AnyLater W w' :=
  .of ⟨h.os.trans hW.below.os, h.tape.trans hW.below.tape, h.output.trans hW.below.output, Nat.le_trans hW.below.size h.size,
    fun k hk => (h.block k (Nat.lt_of_lt_of_le hk hW.below.size) (fun hs => by have := hS k hs; omega)).trans (hW.below.block k hk)⟩
theorem Stays.more {S T : Nat → Prop} {a b c : World} (h : Stays S a b) (k : Stays T b c) (ht : ∀ q, T q → S q ∨ a.heap.size ≤ q) : Stays S a c :=
  ⟨k.os.trans h.os, k.tape.trans h.tape, k.output.trans h.output, Nat.le_trans h.size k.size, fun i hi hn => (k.block i (Nat.lt_of_lt_of_le hi h.size) (fun e => (ht i e).elim hn (fun q => by omega))).trans (h.block i hi hn)⟩
theorem Stays.later {S : Nat → Prop} {a b c : World} (h : Stays S a b) (k : AnyLater b c) : Stays S a c := h.trans (.of k)
/-- more may change: what is told of S' where S' is S or new -/
theorem Stays.wide {S S' : Nat → Prop} {w w' : World} (h : Stays S w w') (hs : ∀ k, k < w.heap.size → S k → S' k) : Stays S' w w' :=
  ⟨h.os, h.tape, h.output, h.size, fun k hk hn => h.block k hk (fun q => hn (hs k hk q))⟩
theorem Stays.setCell {S : Nat → Prop} {w w' : World} (h : Stays S w w') {b i : Nat} (hb : S b) (v : Value) : Stays S w (w'.setCell ⟨b, i, none⟩ v) :=
  ⟨h.os, h.tape, h.output, by rw [World.size_setCell]; exact h.size, fun k hk hn => (heap_far (fun e => hn (by rw [e]; exact hb)) (h.block k hk hn))⟩
theorem Stays.grown {S : Nat → Prop} {w w' : World} {row : Option Nat} (h : w.grownBy w' row) (hr : ∀ k, row = some k → S k) : Stays S w w' :=
  ⟨h.os, h.tape, h.output, h.size, fun k hk hn => h.block k hk (fun e => hn (hr k e.symm))⟩
theorem Stays.own {S : Nat → Prop} {w w' : World} {k : Nat} {o : Obj} (h : Stays S w w') (hk : w.heap[k]? = some o) (hn : ¬ S k) : w'.heap[k]? = some o := (h.block k (own_lt hk) hn).trans hk
theorem World.grownBy.later {w w1 w' : World} {row : Option Nat} (h : AnyLater w w1) (k : w1.grownBy w' row) : w.grownBy w' row :=
  ⟨k.os.trans h.below.os, k.tape.trans h.below.tape, k.output.trans h.below.output, Nat.le_trans h.below.size k.size, fun i hi hn => (k.block i (Nat.lt_of_lt_of_le hi h.below.size) hn).trans (h.below.block i hi)⟩

/-! ### cells written in place -/
theorem stays_setCells {g : Nat} {S : Nat → Prop} {w0 : World} (hg : S g) : ∀ (vs : List Value) (o : Nat) (w : World), Stays S w0 w → Stays S w0 (w.setCells g o vs)
  | [], _, _, h => h
  | v :: vs, o, w, h => stays_setCells hg vs (o + 1) _ (h.setCell hg v)
theorem heap_setCells {g : Nat} {e : TypeId} : ∀ (vs : List Value) (o : Nat) (w : World) (cur : Array Value), w.heap[g]? = some (.cells cur e) → ∃ cur', (w.setCells g o vs).heap[g]? = some (.cells cur' e) ∧ cur'.size = cur.size ∧ ∀ k, k < o → cur'[k]? = cur[k]?
  | [], _, _, cur, h => ⟨cur, h, rfl, fun _ _ => rfl⟩
  | v :: vs, o, w, cur, h => by
    obtain ⟨c', h1, h2, h3⟩ := heap_setCells vs (o + 1) (w.setCell ⟨g, o, none⟩ v) _ (heap_at h rfl)
    refine ⟨c', h1, by simpa using h2, fun k hk => ?_⟩
    rw [h3 k (by omega), Array.getElem?_setIfInBounds_ne (by omega)]

/-! ### rows of numbers that the call owns, in place -/
set_option maxRecDepth 100000 in
theorem size_int (w : World) : (Go.sizeOf (Try.prog.elem 55)).run Try.prog w = .ok 1 w := by simp [go_sem]
set_option maxRecDepth 100000 in
/-- v[:i] -/
theorem upto_same (A : Option Addr) (n cap i : Nat) (h2 : i ≤ cap) (w : World) : (Instr.sliceAt 55 (.slice A n cap) none (some (.int .i64 (i : Int))) none).run Try.prog w = .ok (.slice A i cap) w := by
  have eA : (if cap = 0 then A else A.map (fun x => x.add 0)) = A := by
    split
    · rfl
    · cases A with
      | none => rfl
      | some a => simp [Addr.add]
  rw [run_sliceAt_slice w _ _ _ _ _ Try.underlying55, run_slice_h w _ A n cap Try.underlying55 .i64 (i : Int) (by omega) (by omega)]
  rw [size_int]
  simp only [Result.andThen, sliced, Int.toNat_natCast, Nat.sub_zero, Nat.zero_mul]
  rw [eA]
set_option maxRecDepth 100000 in
/-- v[i:] -/
theorem from_same (g o n cap i : Nat) (h1 : i ≤ n) (h2 : n ≤ cap) (w : World) : (Instr.sliceAt 55 (.slice (some ⟨g, o, none⟩) n cap) (some (.int .i64 (i : Int))) none none).run Try.prog w = .ok (.slice (some ⟨g, if cap = i then o else o + i, none⟩) (n - i) (cap - i)) w := by
  rw [run_sliceAt_slice w _ _ _ _ _ Try.underlying55, run_slice_l w _ (some ⟨g, o, none⟩) n cap Try.underlying55 .i64 (i : Int) (by omega) (by omega)]
  rw [size_int]
  simp only [Result.andThen, sliced, Int.toNat_natCast, Nat.mul_one]
  split
  · rfl
  · rw [Option.map_some, addr_add]
set_option maxRecDepth 100000 in
/-- v[i:j] -/
theorem part_same (g o n cap i j : Nat) (h1 : i ≤ j) (h2 : j ≤ cap) (w : World) : (Instr.sliceAt 55 (.slice (some ⟨g, o, none⟩) n cap) (some (.int .i64 (i : Int))) (some (.int .i64 (j : Int))) none).run Try.prog w = .ok (.slice (some ⟨g, if cap = i then o else o + i, none⟩) (j - i) (cap - i)) w := by
  rw [run_sliceAt_slice w _ _ _ _ _ Try.underlying55, run_slice_lh w _ (some ⟨g, o, none⟩) n cap Try.underlying55 .i64 .i64 (i : Int) (j : Int) (by omega) (by omega) (by omega)]
  rw [size_int]
  simp only [Result.andThen, sliced, Int.toNat_natCast, Nat.mul_one]
  split
  · rfl
  · rw [Option.map_some, addr_add]
/-- a row that is owned, written out -/
theorem ON.at {w : World} {B : Nat} {v : Value} {l : List Int} (h : ON .i64 3 w B v l) (h0 : 0 < l.length) : ∃ g cap cur, v = .slice (some ⟨g, 0, none⟩) l.length cap ∧ B ≤ g ∧ w.heap[g]? = some (.cells cur 3) ∧ l.length ≤ cap ∧ cap ≤ maxLen ∧ cur.size = cap ∧ ∀ (j : Nat) (hj : j < l.length), cur[j]? = some (.int .i64 l[j]) := by
  rcases h.2 with ⟨_, e⟩ | ⟨g, cap, cur, rfl, h1, h2, h3, h4, h5, h6⟩
  · omega
  · refine ⟨g, cap, cur, rfl, h1, h2, h3, h4, by omega, fun j hj => ?_⟩
    have : (cur.toList.take (l.length * 1))[j]? = (l.map (Value.int .i64))[j]? := by rw [h6]
    rw [List.getElem?_take_of_lt (by omega), Array.getElem?_toList] at this
    rw [this]
    simp [hj]
theorem ON.of {w : World} {B g cap : Nat} {cur : Array Value} {l : List Int} (h1 : B ≤ g) (h2 : w.heap[g]? = some (.cells cur 3)) (h3 : l.length ≤ cap) (h4 : cap ≤ maxLen) (h5 : cur.size = cap) (h6 : ∀ (j : Nat) (hj : j < l.length), cur[j]? = some (.int .i64 l[j])) : ON .i64 3 w B (.slice (some ⟨g, 0, none⟩) l.length cap) l := by
  refine ⟨by simp, .inr ⟨g, cap, cur, rfl, h1, h2, h3, h4, by omega, ?_⟩⟩
  apply List.ext_getElem?
  intro j
  by_cases hj : j < l.length
  · rw [List.getElem?_take_of_lt (by omega), Array.getElem?_toList, h6 j hj]
    simp [hj]
  · rw [List.getElem?_eq_none (by rw [List.length_take]; omega), List.getElem?_eq_none (by simpa using hj)]
theorem ON.stays {S : Nat → Prop} {w w' : World} {B : Nat} {v : Value} {l : List Int} (h : ON .i64 3 w B v l) (hk : Stays S w w') (hn : ∀ k, v.ownBlock = some k → ¬ S k) : ON .i64 3 w' B v l := by
  refine ⟨h.1, ?_⟩
  rcases h.2 with q | ⟨g, cap, cur, rfl, h1, h2, h3⟩
  · exact .inl q
  · exact .inr ⟨g, cap, cur, rfl, h1, hk.own h2 (hn g rfl), h3⟩
/-- v[i] = x, in place -/
theorem ON.set {w : World} {B g : Nat} {n cap : Nat} {l : List Int} {i : Nat} (x : Int) (h : ON .i64 3 w B (.slice (some ⟨g, 0, none⟩) n cap) l) : ON .i64 3 (w.setCell ⟨g, i, none⟩ (.int .i64 x)) B (.slice (some ⟨g, 0, none⟩) n cap) (l.set i x) := by
  rcases h.2 with ⟨e, _⟩ | ⟨g', cap', cur, e, h1, h2, h3, h4, h5, h6⟩
  · cases e
  · cases e
    have hc : ∀ (j : Nat) (hj : j < l.length), cur[j]? = some (.int .i64 l[j]) := fun j hj => by
      have : (cur.toList.take (l.length * 1))[j]? = (l.map (Value.int .i64))[j]? := by rw [h6]
      rw [List.getElem?_take_of_lt (by omega), Array.getElem?_toList] at this
      rw [this]
      simp [hj]
    have := ON.of (l := l.set i x) (cap := cap) h1 (heap_at (i := i) (v := .int .i64 x) h2 rfl) (by rw [List.length_set]; exact h3) h4 (by simpa using h5) (fun j hj => by
      rw [List.length_set] at hj
      rw [List.getElem_set]
      by_cases e : i = j
      · subst e
        rw [if_pos rfl, Array.getElem?_setIfInBounds_self, if_pos (by omega)]
      · rw [if_neg e, Array.getElem?_setIfInBounds_ne e]
        exact hc j hj)
    simpa using this
end Go.Proofs.Ytjoadlfkdkeomaa
