/- what the proof stands on: Own MakeW -/
import Derived.Deep.AppendLies
import Derived.Test.YtamhnffokoejjaaGreatDoorKnab
import Derived.ArgAppend
import Derived.Test.YtamhnffokoejjaaGreatDoorKnae
namespace Go.Proofs.YtamhnffokoejjaaGreatDoor
set_option linter.unusedSimpArgs false
set_option linter.unusedVariables false
set_option linter.unusedSectionVars false
open Go.RowKit
theorem owns_later {w w' : World} {B : Nat} {e : TypeId} {size : Nat} {v : Value} {n : Nat} {xs : List Value} (h : AnyLater w w') (o : w.ownsRow B e size v n xs) : w'.ownsRow B e size v n xs := by
  refine ⟨o.1, ?_⟩
  rcases o.2 with k | ⟨g, cap, cur, h1, h2, h3, h4⟩
  · exact .inl k
  · exact .inr ⟨g, cap, cur, h1, h2, any_own h h3, h4⟩
theorem owns_set {w : World} {B : Nat} {e : TypeId} {size : Nat} {v : Value} {n : Nat} {xs : List Value} {F : Nat} {cs : Array Value} {t : TypeId} (hF : w.heap[F]? = some (.cells cs t)) (hne : t ≠ e) (x : Value) (i : Nat) (o : w.ownsRow B e size v n xs) : (w.setCell ⟨F, i, none⟩ x).ownsRow B e size v n xs := by
  refine ⟨o.1, ?_⟩
  rcases o.2 with k | ⟨g, cap, cur, h1, h2, h3, h4⟩
  · exact .inl k
  · refine .inr ⟨g, cap, cur, h1, h2, heap_far ?_ h3, h4⟩
    rintro rfl
    rw [hF] at h3
    cases h3
    exact hne rfl
theorem owns_ne {w : World} {B : Nat} {e : TypeId} {size : Nat} {v : Value} {n : Nat} {xs : List Value} {F : Nat} {cs : Array Value} {t : TypeId} (o : w.ownsRow B e size v n xs) (hF : w.heap[F]? = some (.cells cs t)) (hne : t ≠ e) : v.ownBlock ≠ some F := by
  rcases o.2 with ⟨rfl, _⟩ | ⟨g, cap, cur, rfl, _, h3, _⟩
  · intro h; cases h
  · intro h
    obtain rfl : g = F := by simpa [Value.ownBlock] using h
    rw [hF] at h3
    cases h3
    exact hne rfl
theorem owns_base {w : World} {B : Nat} {e : TypeId} {size : Nat} {v : Value} {n : Nat} {xs : List Value} (o : w.ownsRow B e size v n xs) : ∀ k, v.ownBlock = some k → B ≤ k := by
  rcases o.2 with ⟨rfl, _⟩ | ⟨g, cap, cur, rfl, h2, _⟩
  · intro k h; cases h
  · intro k h
    obtain rfl : g = k := by simpa [Value.ownBlock] using h
    exact h2
theorem grown_later {W w w2 : World} {row : Option Nat} (h : AnyLater W w) (hg : w.grownBy w2 row) (hrow : ∀ k, row = some k → W.heap.size ≤ k) : AnyLater W w2 :=
  .of ⟨hg.os.trans h.below.os, hg.tape.trans h.below.tape, hg.output.trans h.below.output, Nat.le_trans h.below.size hg.size,
    fun k hk => (hg.block k (Nat.lt_of_lt_of_le hk h.below.size) (fun e => by have := hrow k e.symm; omega)).trans (h.below.block k hk)⟩
theorem grown_block {w w2 : World} {row : Option Nat} {k : Nat} {o : Obj} (hg : w.grownBy w2 row) (h : w.heap[k]? = some o) (hne : row ≠ some k) : w2.heap[k]? = some o :=
  (hg.block k (own_lt h) (fun e => hne e.symm)).trans h
end Go.Proofs.YtamhnffokoejjaaGreatDoor
namespace Go.Proofs.YtamhnffokoejjaaGreatDoor
set_option linter.unusedSimpArgs false
set_option linter.unusedVariables false
set_option linter.unusedSectionVars false
open Go.RowKit
theorem Wild.free_make {P : Program} {F : Act} {o : Oper} {w w' : World} {v : Value} {is : Value → World → Prop} (h : (execOp F.eval o).run P w = .ok (.value v) w') (ha : AnyLater w w') (hi : is v w') : ChainStep P F o w fun u w' => AnyLater w w' ∧ is u w' ∧ (true = true → Wild.vblkOk u w w') := by
  unfold ChainStep
  rw [h]
  exact ⟨ha, hi, fun _ b hb => by cases hb⟩
end Go.Proofs.YtamhnffokoejjaaGreatDoor
