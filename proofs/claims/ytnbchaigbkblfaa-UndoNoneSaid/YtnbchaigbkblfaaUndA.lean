/- undo: what a stack is, as maths; the program's stack in memory. -/
import Derived.Test.YtnbchaigbkblfaaStays
namespace Go.Proofs.Ytnbchaigbkblfaa
set_option linter.unusedSimpArgs false
set_option linter.unusedVariables false
set_option linter.unusedSectionVars false
open Go.RowKit

/-! ### maths -/
/-- all that was and will be, and where one is -/
structure UM where
  l : List Int
  now : Nat
def UM.none : UM := ⟨[], 0⟩
def pushU (most : Nat) (m : UM) (n : Int) : UM :=
  if most < (m.l.take m.now ++ [n]).length then ⟨(m.l.take m.now ++ [n]).drop 1, (m.l.take m.now ++ [n]).length - 1⟩ else ⟨m.l.take m.now ++ [n], (m.l.take m.now ++ [n]).length⟩
/-- what Back tells, whether it goes, what is left -/
def backV (m : UM) (n : Int) : Int := if m.now = 0 then n else m.l.getD (m.now - 1) 0
def backB (m : UM) : Bool := decide (m.now ≠ 0)
def backU (m : UM) (n : Int) : UM := if m.now = 0 then m else ⟨m.l.set (m.now - 1) n, m.now - 1⟩
def againV (m : UM) (n : Int) : Int := if m.l.length ≤ m.now then n else m.l.getD m.now 0
def againB (m : UM) : Bool := decide (m.now < m.l.length)
def againU (m : UM) (n : Int) : UM := if m.l.length ≤ m.now then m else ⟨m.l.set m.now n, m.now + 1⟩
structure UOk (most : Nat) (m : UM) : Prop where
  le : m.now ≤ m.l.length
  len : m.l.length ≤ most
theorem UOk.none (most : Nat) : UOk most UM.none := ⟨Nat.le_refl _, Nat.zero_le _⟩
theorem push_len {m : UM} (h : m.now ≤ m.l.length) (n : Int) : (m.l.take m.now ++ [n]).length = m.now + 1 := by
  rw [List.length_append, List.length_take, List.length_singleton]; omega
theorem UOk.push {most : Nat} {m : UM} (h : UOk most m) (n : Int) : UOk most (pushU most m n) := by
  have hl := push_len h.le n
  have := h.le; have := h.len
  unfold pushU
  split
  · refine ⟨by simp, ?_⟩
    show ((m.l.take m.now ++ [n]).drop 1).length ≤ most
    rw [List.length_drop]; omega
  · exact ⟨Nat.le_refl _, by show (m.l.take m.now ++ [n]).length ≤ most; omega⟩
theorem UOk.back {most : Nat} {m : UM} (h : UOk most m) (n : Int) : UOk most (backU m n) := by
  unfold backU
  split
  · exact h
  · exact ⟨by show m.now - 1 ≤ (m.l.set _ n).length; rw [List.length_set]; have := h.le; omega, by show (m.l.set _ n).length ≤ most; rw [List.length_set]; exact h.len⟩
theorem UOk.again {most : Nat} {m : UM} (h : UOk most m) (n : Int) : UOk most (againU m n) := by
  unfold againU
  split
  · exact h
  · exact ⟨by show m.now + 1 ≤ (m.l.set _ n).length; rw [List.length_set]; have := h.le; omega, by show (m.l.set _ n).length ≤ most; rw [List.length_set]; exact h.len⟩

/-! ### the program's stack in memory -/
def sptr (a : Nat) : Value := .pointer (some ⟨a, 0, none⟩)
/-- the blocks that are the stack's own -/
def Fp (s : Nat) (v : Value) : Nat → Prop := fun k => k = s ∨ v.ownBlock = some k
structure IsS (w : World) (s : Nat) (v : Value) (most : Nat) (m : UM) : Prop where
  blk : w.heap[s]? = some (.cells #[v, .int .i64 (m.now : Int), .int .i64 (most : Int)] 44)
  row : ON .i64 3 w (s + 1) v m.l
  ok : UOk most m
  most : 1 ≤ most ∧ most ≤ 1024
theorem IsS.stays {S : Nat → Prop} {w w' : World} {s : Nat} {v : Value} {most : Nat} {m : UM} (h : IsS w s v most m) (hk : Stays S w w') (hn : ∀ k, Fp s v k → ¬ S k) : IsS w' s v most m :=
  ⟨hk.own h.blk (hn s (.inl rfl)), h.row.stays hk (fun k e => hn k (.inr e)), h.ok, h.most⟩
theorem IsS.later {w w' : World} {s : Nat} {v : Value} {most : Nat} {m : UM} (h : IsS w s v most m) (ha : AnyLater w w') : IsS w' s v most m :=
  h.stays (S := fun _ => False) (.of ha) (fun _ _ q => q)
theorem IsS.lt {w : World} {s : Nat} {v : Value} {most : Nat} {m : UM} (h : IsS w s v most m) : ∀ k, Fp s v k → k < w.heap.size := by
  intro k hk
  rcases hk with rfl | e
  · exact own_lt h.blk
  · rcases h.row.2 with ⟨rfl, _⟩ | ⟨g, cap, cur, rfl, _, h2, _⟩
    · cases e
    · obtain rfl : g = k := by simpa [Value.ownBlock] using e
      exact own_lt h2
/-- what a call that changes the stack leaves: the stack s, its row w or new, all else as it was -/
def TurnsS (w : World) (s : Nat) (v : Value) (most : Nat) (m : UM) (w' : World) : Prop :=
  ∃ v', IsS w' s v' most m ∧ Stays (Fp s v) w w' ∧ ∀ k, v'.ownBlock = some k → v.ownBlock = some k ∨ w.heap.size ≤ k
theorem TurnsS.same {w w' : World} {s : Nat} {v : Value} {most : Nat} {m : UM} (h : IsS w s v most m) (ha : AnyLater w w') : TurnsS w s v most m w' := ⟨v, h.later ha, .of ha, fun _ e => .inl e⟩
theorem ON.ne_struct {w : World} {s : Nat} {v : Value} {l : List Int} (h : ON .i64 3 w (s + 1) v l) : v.ownBlock ≠ some s := fun e => by
  have := owns_base h s e
  omega
end Go.Proofs.Ytnbchaigbkblfaa
