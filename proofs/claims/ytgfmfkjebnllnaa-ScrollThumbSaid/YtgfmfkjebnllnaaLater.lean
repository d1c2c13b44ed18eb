/- Worlds that come later: all that stood in W stands as it did, and more may have been made. The class of worlds for regions that draw their order and whose callees make memory of their own. No condition. -/
import Derived.Below
import Derived.BigQuiet
import Derived.WalkKit
import Derived.ProofKit
import Derived.OpenShut
import Derived.WalkLawsBesides
import Derived.IntWalk
import Derived.Lib.Hide
import Derived.Outline
import Derived.Deep.RegionHeld
namespace Go.Proofs.Ytgfmfkjebnllnaa
set_option linter.unusedSimpArgs false
set_option linter.unusedVariables false
set_option linter.unusedSectionVars false
open Go.RowKit

structure Later (W : World) where
  now : World
  below : Below W.heap.size W now
def later {W : World} (u : Later W) : World := u.now
instance later_some (W : World) : Nonempty (Later W) := ⟨⟨W, Below.refl _ _⟩⟩
/-- some later world -/
def AnyLater (W w : World) : Prop := ∃ u : Later W, w = later u

section
variable {W w w' : World}
theorem later_below (u : Later W) : Below W.heap.size W (later u) := u.below
theorem AnyLater.of (h : Below W.heap.size W w) : AnyLater W w := ⟨⟨w, h⟩, rfl⟩
theorem AnyLater.below (h : AnyLater W w) : Below W.heap.size W w := by obtain ⟨u, rfl⟩ := h; exact u.below
theorem AnyLater.refl (W : World) : AnyLater W W := .of (Below.refl _ _)
theorem AnyLater.trans {a b c : World} (h : AnyLater a b) (k : AnyLater b c) : AnyLater a c :=
  .of (h.below.trans (k.below.mono h.below.size))
theorem AnyLater.drew (h : AnyLater W w) : AnyLater W w.drew := .of h.below.drew
theorem AnyLater.drewN (h : AnyLater W w) (n : Nat) : AnyLater W (w.drewN n) := .of ⟨h.below.os, h.below.tape, h.below.output, h.below.size, h.below.block⟩
theorem AnyLater.alloc (h : AnyLater W w) (o : Obj) : AnyLater W (w.alloc o) := .of (h.below.alloc h.below.size o)
theorem AnyLater.setCell (h : AnyLater W w) {p : Addr} (hp : W.heap.size ≤ p.block) (v : Value) : AnyLater W (w.setCell p v) := .of (h.below.setCell hp v)
theorem AnyLater.later (h : AnyLater W w) (u : Later w) : AnyLater W (later u) := h.trans ⟨u, rfl⟩
theorem later_cell (u : Later W) (p : Addr) (h : (W.cell? p).isSome = true) : (later u).cell? p = W.cell? p := by
  obtain ⟨v, hv⟩ := Option.isSome_iff_exists.1 h
  exact u.below.cell (World.block_lt_of_cell? _ _ hv)
theorem later_frozen (u : Later W) (p : Addr) (h : (W.cell? p).isSome = true) : (later u).frozen? p = W.frozen? p := by
  obtain ⟨v, hv⟩ := Option.isSome_iff_exists.1 h
  exact u.below.frozen (World.block_lt_of_cell? _ _ hv)
theorem later_row (u : Later W) (k : Nat) (h : k < W.heap.size) (j : Nat) : (later u).cell? ⟨k, j, none⟩ = W.cell? ⟨k, j, none⟩ := u.below.cell h
theorem later_free (u : Later W) (k : Nat) (h : k < W.heap.size) (j : Nat) : (later u).frozen? ⟨k, j, none⟩ = W.frozen? ⟨k, j, none⟩ := u.below.frozen h
theorem later_size (u : Later W) : W.heap.size ≤ (later u).heap.size := u.below.size
/-- a callee's contract inside a class -/
theorem in_later {P : Program} {f : FuncId} {args : Array Value} {v : Value} {u : Later W}
    (c : Calls P f args (later u) fun e w' => e = .returned v ∧ AnyLater (later u) w') :
    Calls P f args (later u) fun e w' => e = .returned v ∧ ∃ u' : Later W, w' = later u' :=
  c.mono fun _ _ ⟨he, hw⟩ => ⟨he, AnyLater.trans ⟨u, rfl⟩ hw⟩
theorem in_later_same {P : Program} {f : FuncId} {args : Array Value} {v : Value} {u : Later W}
    (c : Calls P f args (later u) fun e w' => e = .returned v ∧ later u = w') :
    Calls P f args (later u) fun e w' => e = .returned v ∧ ∃ u' : Later W, w' = later u' :=
  c.mono fun _ _ ⟨he, hw⟩ => ⟨he, u, hw.symm⟩
/-- a contract that leaves the world alone leaves a later one -/
theorem same_later {P : Program} {f : FuncId} {args : Array Value} {v : Value}
    (c : Calls P f args w fun e w' => e = .returned v ∧ w = w') : Calls P f args w fun e w' => e = .returned v ∧ AnyLater w w' :=
  c.mono fun _ _ ⟨he, hw⟩ => ⟨he, hw ▸ AnyLater.refl _⟩
/-- a region that draws its order, walked once in the order of the text, in the class of the worlds later than W -/
theorem wp_region_later {P : Program} {id : Nat} {Q : Exit → Act → World → Prop} {a : Act} {l : List Oper} (W : World) (hm : P.follows .mixedOrders = true) (hB : Region.lexB .any l.toArray = true) (hC : AnyLater W w)
    (h : wpQuiet P l.toArray (fun w' => ∃ u : Later W, w' = later u) (fun a' => ∀ w', (∃ u : Later W, w' = later u) → Q .normal a' w') l a) : (Code.region id l.toArray true).wp P Q a w :=
  wp_region_quiet (C := fun w' => ∃ u : Later W, w' = later u) hm hB hC.drew (by simpa using h)
end
theorem ret_int {k : IntKind} {a b : Int} (h : a = b) : Ending.returned (.int k a) = .returned (.int k b) := by rw [h]
theorem ret_bool {a b : Bool} (h : a = b) : Ending.returned (.bool a) = .returned (.bool b) := by rw [h]
end Go.Proofs.Ytgfmfkjebnllnaa
