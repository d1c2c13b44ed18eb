/- what the proof stands on: RunC ScnZa -/
import Derived.Deep.DeepCutAuto
import Derived.BigQuiet
import Derived.Test.YtamhnffokoejjaaGreatDoorKnaq
import Derived.Test.YtamhnffokoejjaaGreatDoorKnaj
import Derived.Test.YtamhnffokoejjaaGreatDoorKnaa
namespace Go.Proofs.YtamhnffokoejjaaGreatDoor
set_option linter.unusedSimpArgs false
set_option linter.unusedVariables false
set_option linter.unusedSectionVars false
open Go.RowKit
theorem ORn.wide {w : World} {B C : Nat} {v : Value} {l : Runs} (hC : C ≤ B) (h : ORn w B v l) : ORn w C v l := by
  refine ⟨h.1, ?_⟩
  rcases h.2 with q | ⟨g, cap, cur, h0, h1, h2⟩
  · exact .inl q
  · exact .inr ⟨g, cap, cur, h0, by omega, h2⟩
theorem ORn.grown {W w w2 : World} {B : Nat} {v : Value} {l : Runs} (ho : ORn w B v l) (hW : W.heap.size ≤ B) (h : AnyLater W w) (hg : w.grownBy w2 v.ownBlock) : AnyLater W w2 :=
  grown_later h hg (fun q hq => Nat.le_trans hW (owns_base ho q hq))
theorem appRuns {w : World} {B : Nat} {v u : Value} {l m : Runs} (ho : ORn w B v l) (hm : RRn w u m) (hB : B ≤ w.heap.size) (hlen : l.length + m.length ≤ 100000) :
    ∃ v' w', (Builtin.append_ #[35, 35] 35 #[v, u]).run Tryz.prog w = .ok v' w' ∧ ORn w' B v' (l ++ m) ∧ w.grownBy w' v.ownBlock := by
  obtain ⟨i0, hi0, hz0, hz1, hz2⟩ := info_parts info_run
  obtain ⟨A, cap, rfl, h2, h3⟩ := hm
  cases A with
  | none =>
    have h0 : m = [] := by
      cases m with
      | nil => rfl
      | cons x t => obtain ⟨b, off, e, _⟩ := h3 (by simp); cases e
    subst h0
    obtain ⟨A2, c2, rfl, q2, _⟩ := ho.reads
    have hsrc := Src.ofNil (P := Tryz.prog) w (size := i0.size) Tryz.underlying35 cap
    refine ⟨_, _, run_append_nothing (P := Tryz.prog) w 35 35 35 76 i0 Tryz.underlying35 hi0 A2 l.length c2 q2 _ hsrc, by rw [List.append_nil]; exact ho, ⟨rfl, rfl, rfl, Nat.le_refl _, fun _ _ _ => rfl⟩⟩
  | some ad =>
    by_cases h0 : 0 < m.length
    · obtain ⟨b, off, e, hb, hc⟩ := h3 h0
      cases e
      have hnews := RRn.cells (AnyLater.refl w) (fun _ => hb) hc
      obtain ⟨v', w', k1, k2, k3, _⟩ := run_append_own (P := Tryz.prog) w B 35 35 76 i0 (.agg #[.int .i64 0, .int .i64 0]) 2 16 Tryz.underlying35 hi0 hz0 hz1 hz2 rfl (by decide) v l.length (flatN l) ho ⟨b, off, none⟩ m.length cap (flatN m) (by rw [flatN_length]) hnews (flatN_one m) (by unfold maxLen; omega) (by omega) hB
      refine ⟨v', w', k1, ?_, k3⟩
      show w'.ownsRow B 76 2 v' (l ++ m).length (flatN (l ++ m))
      rw [List.length_append, flatN_append]
      exact k2
    · obtain rfl := List.eq_nil_of_length_eq_zero (Nat.eq_zero_of_not_pos h0)
      obtain ⟨v', w', k1, k2, k3, _⟩ := run_append_own (P := Tryz.prog) w B 35 35 76 i0 (.agg #[.int .i64 0, .int .i64 0]) 2 16 Tryz.underlying35 hi0 hz0 hz1 hz2 rfl (by decide) v l.length (flatN l) ho ad 0 cap [] (by simp) (fun j x hx => by simp at hx) (by intro x hx; simp at hx) (by unfold maxLen; omega) (by simp at hlen; omega) hB
      refine ⟨v', w', k1, ?_, k3⟩
      show w'.ownsRow B 76 2 v' (l ++ []).length (flatN (l ++ []))
      rw [List.append_nil]
      simpa using k2
theorem ORn.one {w : World} {g B : Nat} {r : Int × Int} (hB : B ≤ g) (h : w.heap[g]? = some (.cells #[.int .i64 r.1, .int .i64 r.2] 76)) : ORn w B (.slice (some ⟨g, 0, none⟩) 1 1) [r] := ⟨rfl, .inr ⟨g, 1, _, rfl, hB, h, Nat.le_refl _, by unfold maxLen; omega, rfl, rfl⟩⟩
theorem appRun {w : World} {B : Nat} {v : Value} {l : Runs} (r : Int × Int) (ho : ORn w B v l) (hB : B ≤ w.heap.size) (hl : l.length ≤ 90000) :
    ∃ u w2, (Builtin.append_ #[35, 35] 35 #[v, .slice (some ⟨w.heap.size, 0, none⟩) 1 1]).run Tryz.prog (w.alloc (.cells #[.int .i64 r.1, .int .i64 r.2] 76)) = .ok u w2 ∧ ORn w2 B u (l ++ [r]) ∧ ∀ W, W.heap.size ≤ B → AnyLater W w → AnyLater W w2 := by
  have a1 : AnyLater w (w.alloc (.cells #[.int .i64 r.1, .int .i64 r.2] 76)) := (AnyLater.refl w).alloc _
  have hm : RRn (w.alloc (.cells #[.int .i64 r.1, .int .i64 r.2] 76)) (.slice (some ⟨w.heap.size, 0, none⟩) 1 1) [r] := (ORn.one (B := 0) (Nat.zero_le _) (heap_new rfl)).reads
  have ho2 := ho.later a1
  obtain ⟨u, w2, k1, k2, k3⟩ := appRuns ho2 hm (Nat.le_trans hB a1.below.size) (by simp; omega)
  exact ⟨u, w2, k1, k2, fun W h1 h2 => ORn.grown ho2 h1 (h2.trans a1) k3⟩
def NumsR (l : Runs) : Prop := ∀ r ∈ l, I64s r.1 ∧ I64s r.2
theorem fairR_split (n s : Int) (c : Bool) (hc : fairR (n, s) = c) : (decide (1 ≤ n) && decide (n ≤ 16777216) && goodS s) = c := by
  rw [← hc]; unfold fairR; simp [Bool.decide_and]
theorem styles_take {l : Runs} {j : Nat} (h : j < l.length) : stylesR (l.take (j + 1)) = stylesR (l.take j) ++ oneR l[j] := by
  rw [List.take_succ_eq_append_getElem h, stylesR_append]
  simp [stylesR]
theorem styles_le (l : Runs) (j : Nat) : (stylesR (l.take j)).length ≤ (stylesR l).length := by
  conv => rhs; rw [← List.take_append_drop j l, stylesR_append, List.length_append]
  omega
end Go.Proofs.YtamhnffokoejjaaGreatDoor
namespace Go.Proofs.YtamhnffokoejjaaGreatDoor
set_option linter.unusedSimpArgs false
set_option linter.unusedVariables false
set_option linter.unusedSectionVars false
open Go.RowKit
structure SAM where
  kind : Int
  a : Int
  n : Int
  t : Int
  vb : Value
  vl : Value
  vf : Value
  b : List Int
  l : Runs
  f : Qs
def sactL (A : SAM) : List Value := [.int .i64 A.kind, .int .i64 A.a, .int .i64 A.n, .int .i64 A.t, A.vb, A.vl, A.vf]
def sactV (A : SAM) : Value := .agg (sactL A).toArray
structure SAM.Ok (w : World) (A : SAM) : Prop where
  rb : RN .u8 w A.vb A.b
  bb : Bytes A.b
  rl : RRn w A.vl A.l
  nl : NumsR A.l
  rf : QR w A.vf A.f
  ia : I64s A.a
  in_ : I64s A.n
  it : I64s A.t
end Go.Proofs.YtamhnffokoejjaaGreatDoor
