/- runs: plain mathematics: the styles of bytes, the good runs of any bytes, tidy runs; what is set, put in, taken out. No condition. -/
import Derived.Test.YtcbcbblclpongaaShdG
namespace Go.Proofs.Ytcbcbblclpongaa
set_option linter.unusedSimpArgs false
set_option linter.unusedVariables false
set_option linter.unusedSectionVars false

abbrev Runs := List (Int × Int)
def fairR (r : Int × Int) : Bool := decide (1 ≤ r.1 ∧ r.1 ≤ 16777216) && goodS r.2
def oneR (r : Int × Int) : List Int := if fairR r then List.replicate r.1.toNat r.2 else []
def stylesR (l : Runs) : List Int := l.flatMap oneR
/-- the good runs of bytes of these styles -/
def consR (s : Int) : Runs → Runs
  | [] => [(1, s)]
  | (n, t) :: r => if t = s then (n + 1, t) :: r else (1, s) :: (n, t) :: r
def ofR : List Int → Runs
  | [] => []
  | s :: l => consR s (ofR l)
theorem consR_nil (s : Int) : consR s [] = [(1, s)] := rfl
theorem consR_cons (s n t : Int) (r : Runs) : consR s ((n, t) :: r) = if t = s then (n + 1, t) :: r else (1, s) :: (n, t) :: r := rfl
theorem stylesR_nil : stylesR [] = [] := rfl
theorem stylesR_cons (r : Int × Int) (l : Runs) : stylesR (r :: l) = oneR r ++ stylesR l := rfl
theorem stylesR_append (a b : Runs) : stylesR (a ++ b) = stylesR a ++ stylesR b := by unfold stylesR; rw [List.flatMap_append]
theorem oneR_length {r : Int × Int} : ((oneR r).length : Int) = if fairR r then r.1 else 0 := by
  unfold oneR
  split
  · rename_i h
    unfold fairR at h
    rw [Bool.and_eq_true, decide_eq_true_eq] at h
    rw [List.length_replicate]; omega
  · rfl
theorem fairR_in {r : Int × Int} (h : fairR r = true) : 1 ≤ r.1 ∧ r.1 ≤ 16777216 ∧ goodS r.2 = true := by
  unfold fairR at h
  rw [Bool.and_eq_true, decide_eq_true_eq] at h
  exact ⟨h.1.1, h.1.2, h.2⟩
theorem stylesR_good {l : Runs} {s : Int} (h : s ∈ stylesR l) : goodS s = true := by
  obtain ⟨r, _, hr⟩ := List.mem_flatMap.1 h
  unfold oneR at hr
  split at hr
  · rename_i hf
    rw [List.eq_of_mem_replicate hr]; exact (fairR_in hf).2.2
  · cases hr
/-- the last one at the end -/
theorem ofR_head (s : Int) (l : List Int) : ∃ n r, ofR (s :: l) = (n, s) :: r ∧ 1 ≤ n := by
  show ∃ n r, consR s (ofR l) = (n, s) :: r ∧ 1 ≤ n
  have key : ∀ (l : List Int) (m t : Int) (r : Runs), ofR l = (m, t) :: r → 1 ≤ m := by
    intro l
    induction l with
    | nil => intro m t r h; cases h
    | cons x l ih =>
      intro m t r h
      change consR x (ofR l) = _ at h
      cases hl : ofR l with
      | nil => rw [hl, consR_nil] at h; cases h; omega
      | cons y q =>
        obtain ⟨k, u⟩ := y
        rw [hl, consR_cons] at h
        split at h
        · cases h; have := ih _ _ _ hl; omega
        · cases h; omega
  cases hl : ofR l with
  | nil => exact ⟨1, [], rfl, by omega⟩
  | cons y q =>
    obtain ⟨k, u⟩ := y
    rw [consR_cons]
    split
    · rename_i h; exact ⟨k + 1, q, by rw [h], by have := key l k u q hl; omega⟩
    · exact ⟨1, _, rfl, by omega⟩
theorem ofR_nil {l : List Int} (h : ofR l = []) : l = [] := by
  cases l with
  | nil => rfl
  | cons s l => obtain ⟨n, r, e, _⟩ := ofR_head s l; rw [e] at h; cases h
/-- one more at the end: the last run grows, or a new one is put on -/
theorem ofR_more : ∀ (l : List Int) (s : Int), ∃ m, (ofR (l ++ [s])).length = m + 1 ∧ ofR (l ++ [s, s]) = (ofR (l ++ [s])).modify m fun r => (r.1 + 1, r.2)
  | [], s => ⟨0, rfl, by show ofR [s, s] = _; simp [ofR, consR]⟩
  | x :: l, s => by
    obtain ⟨m, h1, h2⟩ := ofR_more l s
    show ∃ m, (consR x (ofR (l ++ [s]))).length = m + 1 ∧ consR x (ofR (l ++ [s, s])) = (consR x (ofR (l ++ [s]))).modify m _
    rw [h2]
    cases hl : ofR (l ++ [s]) with
    | nil => rw [hl] at h1; cases h1
    | cons y q =>
      obtain ⟨k, u⟩ := y
      rw [hl] at h1
      cases m with
      | zero =>
        rw [List.modify_zero_cons]
        have hq : q = [] := List.eq_nil_of_length_eq_zero (by simpa using h1)
        subst hq
        by_cases e : u = x
        · refine ⟨0, ?_, ?_⟩
          · simp [consR, e]
          · simp [consR, e]
        · refine ⟨1, ?_, ?_⟩
          · simp [consR, e]
          · simp [consR, e]
      | succ m =>
        rw [List.modify_succ_cons]
        have hq : q.length = m + 1 := by simpa using h1
        by_cases e : u = x
        · refine ⟨m + 1, ?_, ?_⟩
          · simp [consR, e, hq]
          · simp [consR, e]
        · refine ⟨m + 2, ?_, ?_⟩
          · simp [consR, e, hq]
          · simp [consR, e]
theorem ofR_new : ∀ (l : List Int) (t s : Int), t ≠ s → ofR (l ++ [t, s]) = ofR (l ++ [t]) ++ [(1, s)]
  | [], t, s, h => by simp [ofR, consR, Ne.symm h]
  | x :: l, t, s, h => by
    show consR x (ofR (l ++ [t, s])) = consR x (ofR (l ++ [t])) ++ [(1, s)]
    rw [ofR_new l t s h]
    cases hl : ofR (l ++ [t]) with
    | nil => exact absurd (ofR_nil hl) (by simp)
    | cons y q =>
      obtain ⟨k, u⟩ := y
      by_cases e : u = x
      · simp [consR, e]
      · simp [consR, e]
theorem consR_length (s : Int) (r : Runs) : (consR s r).length ≤ r.length + 1 ∧ 1 ≤ (consR s r).length := by
  cases r with
  | nil => simp [consR]
  | cons y q =>
    obtain ⟨k, u⟩ := y
    rw [consR_cons]
    split <;> simp
theorem ofR_length : ∀ l : List Int, (ofR l).length ≤ l.length
  | [] => Nat.le_refl 0
  | s :: l => by
    have h1 := ofR_length l
    have h2 := (consR_length s (ofR l)).1
    show (consR s (ofR l)).length ≤ _
    rw [List.length_cons]; omega
theorem consR_styles {s : Int} {r : Runs} (hs : goodS s = true) (hf : ∀ x ∈ r, 1 ≤ x.1 ∧ goodS x.2 = true) (hl : ∀ x ∈ r, x.1 + 1 ≤ 16777216) : stylesR (consR s r) = s :: stylesR r := by
  have h1 : oneR (1, s) = [s] := by
    unfold oneR fairR
    rw [if_pos (by rw [hs]; rfl)]; rfl
  cases r with
  | nil => show oneR (1, s) ++ [] = _; rw [h1]; rfl
  | cons y q =>
    obtain ⟨k, u⟩ := y
    have hk := hf (k, u) (by simp)
    have hk2 := hl (k, u) (by simp)
    simp only at hk hk2
    rw [consR_cons]
    split
    · rename_i e
      subst e
      rw [stylesR_cons, stylesR_cons]
      unfold oneR fairR
      rw [if_pos (by simp only [hk.2, Bool.and_true]; exact decide_eq_true (by omega)), if_pos (by simp only [hk.2, Bool.and_true]; exact decide_eq_true (by omega))]
      simp only
      rw [show (k + 1).toNat = k.toNat + 1 by omega, List.replicate_succ, List.cons_append]
    · rw [stylesR_cons, h1]; rfl
/-- each of the good runs may be -/
theorem ofR_fair : ∀ {l : List Int}, (∀ s ∈ l, goodS s = true) → ∀ r ∈ ofR l, 1 ≤ r.1 ∧ r.1 ≤ l.length ∧ goodS r.2 = true
  | [], _, r, hr => by cases hr
  | s :: l, h, r, hr => by
    have ih := ofR_fair (l := l) (fun x hx => h x (List.mem_cons_of_mem _ hx))
    have hs := h s List.mem_cons_self
    change r ∈ consR s (ofR l) at hr
    rw [List.length_cons]
    cases hl : ofR l with
    | nil =>
      rw [hl] at hr
      cases List.mem_singleton.1 hr
      exact ⟨by omega, by omega, hs⟩
    | cons y q =>
      rw [hl] at hr ih
      obtain ⟨k, u⟩ := y
      have hy := ih (k, u) List.mem_cons_self
      simp only at hy
      rw [consR_cons] at hr
      split at hr
      · rcases List.mem_cons.1 hr with rfl | hr
        · exact ⟨by simp only; omega, by simp only; omega, hy.2.2⟩
        · have := ih r (List.mem_cons_of_mem _ hr); exact ⟨this.1, by omega, this.2.2⟩
      · rcases List.mem_cons.1 hr with rfl | hr
        · exact ⟨by simp only; omega, by simp only; omega, hs⟩
        · have := ih r hr; exact ⟨this.1, by omega, this.2.2⟩
/-- the good runs have these bytes -/
theorem styles_of : ∀ {l : List Int}, (∀ s ∈ l, goodS s = true) → l.length ≤ 16777216 → stylesR (ofR l) = l
  | [], _, _ => rfl
  | s :: l, h, hl => by
    rw [List.length_cons] at hl
    have h' : ∀ x ∈ l, goodS x = true := fun x hx => h x (List.mem_cons_of_mem _ hx)
    show stylesR (consR s (ofR l)) = _
    rw [consR_styles (h s List.mem_cons_self) (fun x hx => ⟨(ofR_fair h' x hx).1, (ofR_fair h' x hx).2.2⟩) (fun x hx => by have := ofR_fair h' x hx; omega), styles_of h' (by omega)]
/-- what is left of all -/
def sR (l : Runs) : List Int := if (stylesR l).length ≤ 16777216 then stylesR l else []
def tidyR (l : Runs) : Runs := ofR (sR l)
theorem sR_good {l : Runs} : ∀ s ∈ sR l, goodS s = true := by
  intro s hs
  unfold sR at hs
  split at hs
  · exact stylesR_good hs
  · cases hs
theorem sR_len (l : Runs) : (sR l).length ≤ 16777216 := by
  unfold sR
  split
  · rename_i h; exact h
  · exact Nat.zero_le _
theorem sR_tidy (l : Runs) : sR (tidyR l) = sR l := by
  unfold tidyR
  have h := styles_of (l := sR l) sR_good (sR_len l)
  have h2 := sR_len l
  generalize sR l = x at *
  unfold sR
  rw [h, if_pos h2]
theorem tidyR_tidy (l : Runs) : tidyR (tidyR l) = tidyR l := by
  show ofR (sR (tidyR l)) = _
  rw [sR_tidy]; rfl
theorem sR_of {l : List Int} (h : ∀ s ∈ l, goodS s = true) (hl : l.length ≤ 16777216) : sR (ofR l) = l := by
  unfold sR; rw [styles_of h hl, if_pos hl]
theorem sR_small {l : Runs} (h : (stylesR l).length ≤ 16777216) : sR l = stylesR l := by unfold sR; rw [if_pos h]
/-! ### what comes of it -/
def atR (l : Runs) (i : Int) : Int := if 0 ≤ i then (sR l).getD i.toNat 0 else 0
def setL (s : List Int) (f t style : Int) : List Int := s.take f.toNat ++ List.replicate (t - f).toNat style ++ s.drop t.toNat
def aheadL (s : List Int) (at_ : Int) : Int := s.getD (at_ - 1).toNat 0
def insL (s : List Int) (at_ n : Int) : List Int := s.take at_.toNat ++ List.replicate n.toNat (aheadL s at_) ++ s.drop at_.toNat
def delL (s : List Int) (at_ n : Int) : List Int := s.take at_.toNat ++ s.drop (at_ + n).toNat
def clampZ (n : Int) (k : Nat) : Nat := min n.toNat k
def partL (s : List Int) (f t : Int) : List Int := (s.take (clampZ t s.length)).drop (clampZ f s.length)
def setR (l : Runs) (f t style : Int) : Runs × Int := if f < 0 ∨ t < f ∨ ((sR l).length : Int) < t then ([], 1) else if goodS style then (ofR (setL (sR l) f t style), 0) else ([], 5)
def insR (l : Runs) (a n : Int) : Runs × Int := if a < 0 ∨ ((sR l).length : Int) < a ∨ n < 0 then ([], 1) else if 16777216 - ((sR l).length : Int) < n then ([], 2) else (ofR (insL (sR l) a n), 0)
def delR (l : Runs) (a n : Int) : Runs × Int := if a < 0 ∨ ((sR l).length : Int) < a ∨ n < 0 ∨ ((sR l).length : Int) - a < n then ([], 1) else (ofR (delL (sR l) a n), 0)
def partR (l : Runs) (f t : Int) : Runs := ofR (partL (sR l) f t)
/-- P10.3 -/
theorem del_ins {s : List Int} {a n : Int} (ha : 0 ≤ a) (hl : a ≤ s.length) (hn : 0 ≤ n) : delL (insL s a n) a n = s := by
  obtain ⟨i, rfl⟩ := Int.eq_ofNat_of_zero_le ha
  obtain ⟨k, rfl⟩ := Int.eq_ofNat_of_zero_le hn
  have hi : i ≤ s.length := by omega
  unfold delL insL
  generalize aheadL s i = x
  simp only [Int.toNat_natCast, Int.ofNat_eq_natCast]
  have e1 : ((i : Int) + (k : Int)).toNat = i + k := by omega
  have hlen : (List.take i s).length = i := by rw [List.length_take]; omega
  have hlen2 : (List.take i s ++ List.replicate k x).length = i + k := by rw [List.length_append, hlen, List.length_replicate]
  rw [e1, List.drop_left' hlen2, List.append_assoc, List.take_left' hlen, List.take_append_drop]
theorem part_all (s : List Int) (t : Int) : partL s 0 t ++ partL s t 1099511627776 = s ∨ 1099511627776 < s.length := by
  rcases Nat.lt_or_ge 1099511627776 s.length with h | h
  · exact .inr h
  · left
    unfold partL clampZ
    have e1 : min (1099511627776 : Int).toNat s.length = s.length := by omega
    have e0 : min (0 : Int).toNat s.length = 0 := by omega
    rw [e1, e0, List.drop_zero, List.take_of_length_le (Nat.le_refl s.length)]
    exact List.take_append_drop _ _
end Go.Proofs.Ytcbcbblclpongaa
