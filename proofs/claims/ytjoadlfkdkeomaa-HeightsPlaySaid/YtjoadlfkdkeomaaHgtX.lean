/- heights: the next line that is not hidden, and the last one ahead of a line: two ways to say which. -/
import Derived.Test.YtjoadlfkdkeomaaHgtV
import Derived.LoopN
import Derived.Deep.LoopGhost
import Derived.BigRegion
import Derived.RegionTactic
import Derived.Shelf.Abstract
import Derived.ChangeKeysEq
import Derived.Deep.DeepCutAuto
import Derived.Deep.CutBlock
namespace Go.Proofs.Ytjoadlfkdkeomaa
set_option linter.unusedSimpArgs false
set_option linter.unusedVariables false
set_option linter.unusedSectionVars false
open Go.RowKit
variable {B : Nat}

/-! ### acts -/
/-- an act -/
structure HAM where
  kind : Int
  i : Int
  n : Int
  x : Int
  y : Int
  v : Value
  l : Qs
  on : Bool
def hactV (A : HAM) : Value := .agg #[.int .i64 A.kind, .int .i64 A.i, .int .i64 A.n, .int .i64 A.x, .int .i64 A.y, A.v, .bool A.on]
/-- a slice of acts -/
def HAcS (w : World) (v : Value) (l : List HAM) : Prop := ∃ (A : Option Addr) (cap : Nat), v = .slice A l.length cap ∧ (∀ (j : Nat) (h : j < l.length), QR w l[j].v l[j].l) ∧
  (0 < l.length → ∃ b off, A = some ⟨b, off, none⟩ ∧ b < w.heap.size ∧ ∀ (j : Nat) (h : j < l.length), w.cell? ⟨b, off + j * 7, none⟩ = some (.int .i64 l[j].kind) ∧ w.cell? ⟨b, off + j * 7 + 1, none⟩ = some (.int .i64 l[j].i) ∧ w.cell? ⟨b, off + j * 7 + 2, none⟩ = some (.int .i64 l[j].n) ∧ w.cell? ⟨b, off + j * 7 + 3, none⟩ = some (.int .i64 l[j].x) ∧ w.cell? ⟨b, off + j * 7 + 4, none⟩ = some (.int .i64 l[j].y) ∧ w.cell? ⟨b, off + j * 7 + 5, none⟩ = some l[j].v ∧ w.cell? ⟨b, off + j * 7 + 6, none⟩ = some (.bool l[j].on))
/-- both, somewhere on the way -/
def HOn (w : World) (hg xg n : Nat) (W : World) : Prop := AnyLater w W ∧ ∃ K rL rH L H, HX w.heap.size W hg xg K rL rH L H L H ∧ L.length ≤ n
theorem HOn.later {w W W' : World} {hg xg n : Nat} (h : HOn w hg xg n W) (a : AnyLater W W') : HOn w hg xg n W' := by
  obtain ⟨h1, K, rL, rH, L, H, h2, h3⟩ := h
  exact ⟨h1.trans a, K, rL, rH, L, H, h2.later a, h3⟩
theorem HOn.step {w W W' : World} {hg xg n : Nat} {L : Qs} {e : Ending} (a : AnyLater w W) (q : HActs w.heap.size hg xg L.length W e W') (hl : L.length ≤ n) : e = .returned (.bool true) ∧ HOn w hg xg (n + 30) W' := by
  obtain ⟨h1, ⟨K', sL, sH, L', H', h2, h3⟩, h4⟩ := q
  exact ⟨h1, h4.1 w (Nat.le_refl _) a, K', sL, sH, L', H', h2, by omega⟩
theorem hidB_at {H : List Bool} {j : Nat} (h : j < H.length) : hidB H (j : Int) = H[j] := by
  unfold hidB
  rw [dif_pos ⟨by omega, by omega⟩]
  rfl
theorem hidB_end {H : List Bool} {n : Nat} (h : H.length = n) : hidB H (n : Int) = false := by
  unfold hidB
  rw [dif_neg (by omega)]
/-! ### the next one, and the one ahead -/
theorem opn_step (H : List Bool) (p : Nat) : tlH ((opnL H).take (p + 1)) = tlH ((opnL H).take p) + (if H[p]? = some false then 1 else 0) := by
  rw [List.take_add_one, tlH_append]
  congr 1
  unfold opnL
  rw [List.getElem?_map]
  cases H[p]? with
  | none => rfl
  | some b => cases b <;> rfl
theorem opn_flat {H : List Bool} {m : Nat} : ∀ k, (∀ p, m ≤ p → p < m + k → H[p]? ≠ some false) → tlH ((opnL H).take (m + k)) = tlH ((opnL H).take m)
  | 0, _ => rfl
  | k + 1, h => by
    rw [show m + (k + 1) = (m + k) + 1 by omega, opn_step, if_neg (h (m + k) (by omega) (by omega)), opn_flat k (fun p h1 h2 => h p h1 (by omega))]
    omega
theorem opn_flat2 {H : List Bool} {m n : Nat} (hmn : m ≤ n) (h : ∀ p, m ≤ p → p < n → H[p]? ≠ some false) : tlH ((opnL H).take n) = tlH ((opnL H).take m) := by
  obtain ⟨k, rfl⟩ : ∃ k, n = m + k := ⟨n - m, by omega⟩
  exact opn_flat k h
theorem opn_mono (H : List Bool) (m : Nat) : ∀ k, tlH ((opnL H).take m) ≤ tlH ((opnL H).take (m + k))
  | 0 => Int.le_refl _
  | k + 1 => by
    rw [show m + (k + 1) = (m + k) + 1 by omega, opn_step]
    have := opn_mono H m k
    split <;> omega
theorem opn_all (H : List Bool) (m : Nat) (h : H.length ≤ m) : tlH ((opnL H).take m) = tlH (opnL H) := by
  rw [List.take_of_length_le (by rw [opn_len]; exact h)]
theorem opn_tls (H : List Bool) : Tls (opnL H) := fun x hx => by
  unfold opnL at hx
  obtain ⟨b, -, rfl⟩ := List.mem_map.1 hx
  cases b <;> simp
theorem shw_tls {L : Qs} (h : Tls L) : ∀ H, Tls (shwL L H) := by
  induction L with
  | nil => intro H x hx; simp [shwL] at hx
  | cons a L ih =>
    intro H x hx
    cases H with
    | nil => simp [shwL] at hx
    | cons b H =>
      have e : shwL (a :: L) (b :: H) = (if b then (0, 0) else a) :: shwL L H := rfl
      rw [e] at hx
      rcases List.mem_cons.1 hx with rfl | hx
      · cases b
        · exact h _ (List.mem_cons_self ..)
        · simp
      · exact ih h.tail H x hx
/-- the line that is not hidden and of whose kind so many stand ahead of it -/
theorem pk_at {H : List Bool} {j : Nat} (hj : H[j]? = some false) : pkV (opnL H) (tlH ((opnL H).take j)) = .tuple #[.int .i64 (j : Int), .bool true] := by
  obtain ⟨hjl, -⟩ := List.getElem?_eq_some_iff.1 hj
  have hs := opn_step H j
  rw [if_pos hj] at hs
  have h0 := opn_mono H 0 j
  rw [Nat.zero_add] at h0
  have h0 : (0 : Int) ≤ tlH ((opnL H).take j) := h0
  have h1 := opn_mono H (j + 1) (H.length - (j + 1))
  rw [opn_all H (j + 1 + (H.length - (j + 1))) (by omega)] at h1
  have e1 : (opnL H)[j]? = some (0, 1) := by unfold opnL; rw [List.getElem?_map, hj]; rfl
  have e : opnL H = (opnL H).take j ++ (0, 1) :: (opnL H).drop (j + 1) := by
    obtain ⟨hl, e2⟩ := List.getElem?_eq_some_iff.1 e1
    rw [← e2, List.getElem_cons_drop, List.take_append_drop]
  have ht : tlH (opnL H) = tlC 2 ((opnL H).take j ++ (0, 1) :: (opnL H).drop (j + 1)) := by rw [← e]; rfl
  have hf := fdL_found (k := 2) (.inr rfl) (tlH ((opnL H).take j)) ((opnL H).take j) ((opnL H).drop (j + 1)) (0, 1) (by rw [← e]; exact opn_tls H) (tlH ((opnL H).take j)) (by
    rw [← ht]
    unfold clcClamp
    rw [if_neg (by omega), if_neg (by omega)]) (Int.le_refl _) (by
    rw [tlC_append]
    show tlH ((opnL H).take j) < tlH ((opnL H).take j) + 1
    omega)
  rw [← e] at hf
  unfold pkV
  rw [if_neg (by omega), hf, List.length_take, opn_len]
  rw [show min j H.length = j by omega]
theorem nx_spec (i : Int) : ∀ (H : List Bool) (k : Int), (nxZ i H k = -1 ∧ ∀ p : Nat, i < k + p → H[p]? ≠ some false) ∨ ∃ j : Nat, nxZ i H k = k + j ∧ i < k + j ∧ H[j]? = some false ∧ ∀ p : Nat, p < j → i < k + p → H[p]? ≠ some false
  | [], _ => .inl ⟨rfl, fun p _ => by simp⟩
  | h :: H, k => by
    rw [nxZ]
    by_cases c : i < k ∧ h = false
    · rw [if_pos c]
      exact .inr ⟨0, by omega, by omega, by rw [c.2]; rfl, fun p hp => by omega⟩
    · rw [if_neg c]
      have h0 : ∀ q : i < k + ((0 : Nat) : Int), (h :: H)[0]? ≠ some false := fun q e => c ⟨by omega, by simpa using e⟩
      rcases nx_spec i H (k + 1) with ⟨e, a⟩ | ⟨j, e, hi, hj, a⟩
      · refine .inl ⟨e, fun p hp => ?_⟩
        cases p with
        | zero => exact h0 hp
        | succ p => rw [List.getElem?_cons_succ]; exact a p (by omega)
      · refine .inr ⟨j + 1, by omega, by omega, by rw [List.getElem?_cons_succ]; exact hj, fun p hp hp2 => ?_⟩
        cases p with
        | zero => exact h0 hp2
        | succ p => rw [List.getElem?_cons_succ]; exact a p (by omega) (by omega)
theorem pv_spec (i : Int) (H : List Bool) : ∀ n, (pvZ i H n = -1 ∧ ∀ p : Nat, p < n → (p : Int) < i → H[p]? ≠ some false) ∨ ∃ j : Nat, pvZ i H n = j ∧ (j : Int) < i ∧ H[j]? = some false ∧ ∀ p : Nat, j < p → p < n → (p : Int) < i → H[p]? ≠ some false
  | 0 => .inl ⟨rfl, fun p hp => by omega⟩
  | n + 1 => by
    rw [pvZ]
    by_cases c : (n : Int) < i ∧ H[n]? = some false
    · rw [if_pos c]
      exact .inr ⟨n, rfl, c.1, c.2, fun p h1 h2 => by omega⟩
    · rw [if_neg c]
      rcases pv_spec i H n with ⟨e, a⟩ | ⟨j, e, hi, hj, a⟩
      · refine .inl ⟨e, fun p hp hp2 he => ?_⟩
        by_cases q : p = n
        · subst q; exact c ⟨hp2, he⟩
        · exact a p (by omega) hp2 he
      · refine .inr ⟨j, e, hi, hj, fun p h1 h2 h3 he => ?_⟩
        by_cases q : p = n
        · subst q; exact c ⟨h3, he⟩
        · exact a p h1 (by omega) h3 he
theorem sumN_at (H : List Bool) (i : Int) (p : Nat) (hp : p < H.length) : (p : Int) < i ↔ p < sumN (opnL H) i := by
  have h := (sumN_le (opnL H) i).2
  rw [opn_len] at h
  unfold clcClamp at h
  split at h
  · omega
  · split at h <;> omega
theorem some_lt {H : List Bool} {p : Nat} {b : Bool} (h : H[p]? = some b) : p < H.length := (List.getElem?_eq_some_iff.1 h).1
/-- the next line that is not hidden -/
theorem next_eq (H : List Bool) (n : Nat) (hn : H.length = n) (i : Int) : ∃ r is, pkV (opnL H) (opnN H (min i (n : Int) + 1)) = .tuple #[.int .i64 r, .bool is] ∧ ((is = true ∧ 0 ≤ nxZ i H 0 ∧ r = nxZ i H 0) ∨ (is = false ∧ nxZ i H 0 < 0 ∧ r = 0)) := by
  subst hn
  have hle := (sumN_le (opnL H) (min i (H.length : Int) + 1)).1
  rw [opn_len] at hle
  have hq := fun p hp => sumN_at H (min i (H.length : Int) + 1) p hp
  unfold opnN
  generalize sumN (opnL H) (min i (H.length : Int) + 1) = m at *
  have hq : ∀ p : Nat, p < H.length → (i < p ↔ m ≤ p) := fun p hp => by
    have := hq p hp
    omega
  rcases nx_spec i H 0 with ⟨e, a⟩ | ⟨j, e, hi, hj, a⟩
  · refine ⟨0, false, ?_, .inr ⟨rfl, by omega, rfl⟩⟩
    have hf := opn_flat2 (H := H) hle (fun p h1 h2 => a p (by have := (hq p h2).2 h1; omega))
    rw [opn_all H _ (Nat.le_refl _)] at hf
    unfold pkV
    rw [if_pos (by omega)]
  · have hjl := some_lt hj
    have hmj := (hq j hjl).1 (by omega)
    have hf := opn_flat2 (H := H) hmj (fun p h1 h2 => a p h2 (by have := (hq p (by omega)).2 h1; omega))
    refine ⟨j, true, ?_, .inl ⟨rfl, by omega, by omega⟩⟩
    rw [← hf]
    exact pk_at hj
/-- the last one ahead -/
theorem prev_eq (H : List Bool) (n : Nat) (hn : H.length = n) (i : Int) : ∃ r is, pkV (opnL H) (opnN H i - 1) = .tuple #[.int .i64 r, .bool is] ∧ ((is = true ∧ 0 ≤ pvZ i H n ∧ r = pvZ i H n) ∨ (is = false ∧ pvZ i H n < 0 ∧ r = 0)) := by
  subst hn
  have hle := (sumN_le (opnL H) i).1
  rw [opn_len] at hle
  have hq := fun p hp => sumN_at H i p hp
  unfold opnN
  generalize sumN (opnL H) i = m at *
  rcases pv_spec i H H.length with ⟨e, a⟩ | ⟨j, e, hi, hj, a⟩
  · refine ⟨0, false, ?_, .inr ⟨rfl, by omega, rfl⟩⟩
    have hf := opn_flat2 (H := H) (Nat.zero_le m) (fun p _ h2 => a p (by omega) ((hq p (by omega)).2 h2))
    have hf : tlH ((opnL H).take m) = 0 := hf
    unfold pkV
    rw [if_pos (by omega)]
  · have hjl := some_lt hj
    have hmj := (hq j hjl).1 hi
    have hf := opn_flat2 (H := H) (m := j + 1) (n := m) hmj (fun p h1 h2 => a p (by omega) (by omega) ((hq p (by omega)).2 h2))
    have hs := opn_step H j
    rw [if_pos hj] at hs
    refine ⟨j, true, ?_, .inl ⟨rfl, by omega, by omega⟩⟩
    rw [show tlH ((opnL H).take m) - 1 = tlH ((opnL H).take j) by omega]
    exact pk_at hj
end Go.Proofs.Ytjoadlfkdkeomaa
