/- fault: the law on which of any errors is the first. -/
import Derived.Test.YtfocpgnhbabeiaaDoorFaultQ
namespace Go.Proofs.YtfocpgnhbabeiaaDoor
set_option linter.unusedSimpArgs false
set_option linter.unusedVariables false
set_option linter.unusedSectionVars false
open Go.RowKit Go.Extern.Stop Go.Stop Go.Extern

theorem info_err : (Tryd.prog.info? 28).map (fun i => (i.zero, i.size, i.bytes)) = some (some .nilIface, 1, 16) := by kernel_rfl
/-- the errors that are made of codes: nil for OK, else a Fault of its place -/
def Errs (w : World) : Nat → List Int → List Value → Prop
  | _, [], xs => xs = []
  | i, y :: ys, xs => ∃ x rest, xs = x :: rest ∧ ((y = 0 ∧ x = .nilIface) ∨ (y ≠ 0 ∧ ∃ b : Nat, x = .iface 41 (.pointer (some ⟨b, 0, none⟩)) ∧ w.heap[b]? = some (.cells #[.int .i64 (i : Int), .iface 23 (.int .i64 y)] 45))) ∧ Errs w (i + 1) ys rest
theorem Errs.later {w w' : World} (h : AnyLater w w') : ∀ {i : Nat} {ys : List Int} {xs : List Value}, Errs w i ys xs → Errs w' i ys xs
  | _, [], _, k => k
  | _, _ :: _, _, ⟨x, rest, h1, h2, h3⟩ => ⟨x, rest, h1, h2.imp id fun ⟨n, b, e, s⟩ => ⟨n, b, e, any_own h s⟩, Errs.later h h3⟩
theorem Errs.snoc {w : World} {y : Int} {x : Value} : ∀ {i : Nat} {ys : List Int} {xs : List Value}, Errs w i ys xs → ((y = 0 ∧ x = .nilIface) ∨ (y ≠ 0 ∧ ∃ b : Nat, x = .iface 41 (.pointer (some ⟨b, 0, none⟩)) ∧ w.heap[b]? = some (.cells #[.int .i64 ((i + ys.length : Nat) : Int), .iface 23 (.int .i64 y)] 45))) → Errs w i (ys ++ [y]) (xs ++ [x])
  | i, [], _, h, k => by
    obtain rfl := h
    exact ⟨x, [], rfl, by simpa using k, rfl⟩
  | i, a :: ys, _, ⟨x0, rest, h1, h2, h3⟩, k => by
    subst h1
    exact ⟨x0, rest ++ [x], rfl, h2, Errs.snoc h3 (by rw [List.length_cons] at k; rwa [show i + 1 + ys.length = i + (ys.length + 1) by omega])⟩
theorem Errs.length {w : World} : ∀ {i : Nat} {ys : List Int} {xs : List Value}, Errs w i ys xs → xs.length = ys.length
  | _, [], _, h => by obtain rfl := h; rfl
  | _, _ :: _, _, ⟨x, rest, h1, _, h3⟩ => by subst h1; simp [Errs.length h3]
theorem Errs.values {w : World} : ∀ {i : Nat} {ys : List Int} {xs : List Value}, Errs w i ys xs → ∀ x ∈ xs, x = .nilIface ∨ ∃ t v, x = .iface t v
  | _, [], _, h, x, hx => by obtain rfl := h; cases hx
  | _, _ :: _, _, ⟨x0, rest, h1, h2, h3⟩, x, hx => by
    subst h1
    rcases List.mem_cons.1 hx with rfl | hx
    · rcases h2 with ⟨_, h⟩ | ⟨_, b, h, _⟩
      · exact .inl h
      · exact .inr ⟨_, _, h⟩
    · exact Errs.values h3 x hx
/-- the first code that is not OK, and its place -/
def fz : Nat → List Int → Int × Nat
  | _, [] => (0, 0)
  | i, y :: ys => if y = 0 then fz (i + 1) ys else (y, i)
theorem fz_zero : ∀ {i : Nat} {ys : List Int}, (fz i ys).1 = 0 → fz i ys = (0, 0)
  | _, [], _ => rfl
  | i, y :: ys, h => by
    unfold fz at h ⊢
    by_cases hy : y = 0
    · rw [if_pos hy] at h ⊢; exact fz_zero h
    · rw [if_neg hy] at h; exact absurd h hy
theorem fz_snoc (y : Int) : ∀ (i : Nat) (ys : List Int), fz i (ys ++ [y]) = if (fz i ys).1 = 0 then (if y = 0 then (0, 0) else (y, i + ys.length)) else fz i ys
  | i, [] => by simp [fz]
  | i, a :: ys => by
    by_cases ha : a = 0
    · simp only [List.cons_append, fz, ha, if_true]
      rw [fz_snoc y (i + 1) ys]
      simp only [List.length_cons, show i + 1 + ys.length = i + (ys.length + 1) by omega]
    · simp only [List.cons_append, fz, ha, if_false]
theorem fz_le : ∀ (i : Nat) (ys : List Int), (fz i ys).2 ≤ i + ys.length
  | i, [] => by simp [fz]
  | i, y :: ys => by
    unfold fz
    split
    · have := fz_le (i + 1) ys; simp only [List.length_cons]; omega
    · simp
theorem first_of {w : World} : ∀ {i : Nat} {ys : List Int} {xs : List Value}, Errs w i ys xs → ((fz i ys).1 = 0 ∧ firstOf xs = .nilIface) ∨ ((fz i ys).1 ≠ 0 ∧ ∃ b : Nat, firstOf xs = .iface 41 (.pointer (some ⟨b, 0, none⟩)) ∧ w.heap[b]? = some (.cells #[.int .i64 ((fz i ys).2 : Int), .iface 23 (.int .i64 (fz i ys).1)] 45))
  | _, [], _, h => by obtain rfl := h; exact .inl ⟨rfl, rfl⟩
  | i, y :: ys, _, ⟨x, rest, h1, h2, h3⟩ => by
    subst h1
    rcases h2 with ⟨hy, hx⟩ | ⟨hy, b, hx, hs⟩
    · subst hx
      have := first_of h3
      unfold fz
      rw [if_pos hy]
      exact this
    · subst hx
      unfold fz
      rw [if_neg hy]
      exact .inr ⟨hy, b, rfl, hs⟩
/-- First of a row of the call's own -/
theorem first_own (v : Value) (xs : List Value) (w : World) (B : Nat) (ho : w.ownsRow B 28 1 v xs.length xs) (hn : xs.length ≤ 20) (hx : ∀ x ∈ xs, x = .nilIface ∨ ∃ t v, x = .iface t v) :
    Calls Tryd.prog 19 #[v] w fun e w' => e = .returned (firstOf xs) ∧ w = w' := by
  cases hz : xs.length with
  | zero =>
    obtain rfl := List.eq_nil_of_length_eq_zero hz
    obtain ⟨a, cp, rfl⟩ := own_form ho
    simp only [List.length_nil] at *
    clear ho hx hz hn
    go_enter Tryd.func19, Tryd.ntmps19
    go_wp2_with fail
    refine wp_loop_rounds 1 ?_
    rw [rounds_succ]
    go_wp2_with fail
    go_ret
    exact ⟨rfl, rfl⟩
  | succ m =>
    rcases ho.2 with ⟨_, h0⟩ | ⟨g, cap, cur, rfl, h2, h3, h4, h5, h6, h7⟩
    · omega
    · refine first_any g _ cap xs w rfl hn hx (fun j hj => ?_)
      rw [own_row h3 j]
      have : (cur.toList.take (xs.length * 1))[j]? = some xs[j] := by rw [h7]; simp [hj]
      rw [List.getElem?_take_of_lt (by omega)] at this
      simpa using this
theorem own_err0 (w : World) : (w.alloc (.cells #[] 28)).ownsRow w.heap.size 28 1 (.slice (some ⟨w.heap.size, 0, none⟩) 0 0) 0 [] :=
  ⟨rfl, .inr ⟨w.heap.size, 0, #[], rfl, Nat.le_refl _, heap_new rfl, Nat.le_refl _, Nat.zero_le _, rfl, rfl⟩⟩
end Go.Proofs.YtfocpgnhbabeiaaDoor
