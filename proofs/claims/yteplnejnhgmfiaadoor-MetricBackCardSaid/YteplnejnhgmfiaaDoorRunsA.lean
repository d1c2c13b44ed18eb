/- runs: plain mathematics: the styles of bytes, the good runs of any bytes, tidy runs; what is set, put in, taken out. No condition. runs: rows of runs in memory; Same, whether two lists of runs are one; few, the first sixty of any, in memory of their own. runs: rows of runs that are put on; the document's Fair and Small by contract. runs: the document's Styles, Of and Insert by contract. runs: what the program's functions are to tell; lives; RunsTells, walked. -/
import Derived.Test.YteplnejnhgmfiaaDoorShdG
import Derived.Test.YteplnejnhgmfiaaDoorOwn
import Derived.Test.YteplnejnhgmfiaaDoorChecked
import Derived.Deep.LoopGhost
import Derived.LoopN
import Derived.Laws.StructEq
import Derived.Deep.QuietTactic
import Derived.Test.YteplnejnhgmfiaaDoorNums
import Derived.Deep.DeepCutAuto
import Derived.BigQuiet
import Derived.Lib.AppendZeros
import Derived.Deep.RegionHeld
namespace Go.Proofs.YteplnejnhgmfiaaDoor
set_option linter.unusedSimpArgs false
set_option linter.unusedVariables false
set_option linter.unusedSectionVars false

abbrev Runs := List (Int × Int)
def fairR (r : Int × Int) : Bool := decide (1 ≤ r.1 ∧ r.1 ≤ 16777216) && goodS r.2
def oneR (r : Int × Int) : List Int := if fairR r then List.replicate r.1.toNat r.2 else []
def stylesR (l : Runs) : List Int := l.flatMap oneR
/-- the good runs of bytes of these styles -/
def consR (s : Int) : Runs → Runs
  | [] => [(1, s)]
  | (n, t) :: r => if t = s then (n + 1, t) :: r else (1, s) :: (n, t) :: r
def ofR : List Int → Runs
  | [] => []
  | s :: l => consR s (ofR l)
theorem consR_nil (s : Int) : consR s [] = [(1, s)] := rfl
theorem consR_cons (s n t : Int) (r : Runs) : consR s ((n, t) :: r) = if t = s then (n + 1, t) :: r else (1, s) :: (n, t) :: r := rfl
theorem stylesR_nil : stylesR [] = [] := rfl
theorem stylesR_cons (r : Int × Int) (l : Runs) : stylesR (r :: l) = oneR r ++ stylesR l := rfl
theorem stylesR_append (a b : Runs) : stylesR (a ++ b) = stylesR a ++ stylesR b := by unfold stylesR; rw [List.flatMap_append]
theorem oneR_length {r : Int × Int} : ((oneR r).length : Int) = if fairR r then r.1 else 0 := by
  unfold oneR
  split
  · rename_i h
    unfold fairR at h
    rw [Bool.and_eq_true, decide_eq_true_eq] at h
    rw [List.length_replicate]; omega
  · rfl
theorem fairR_in {r : Int × Int} (h : fairR r = true) : 1 ≤ r.1 ∧ r.1 ≤ 16777216 ∧ goodS r.2 = true := by
  unfold fairR at h
  rw [Bool.and_eq_true, decide_eq_true_eq] at h
  exact ⟨h.1.1, h.1.2, h.2⟩
theorem stylesR_good {l : Runs} {s : Int} (h : s ∈ stylesR l) : goodS s = true := by
  obtain ⟨r, _, hr⟩ := List.mem_flatMap.1 h
  unfold oneR at hr
  split at hr
  · rename_i hf
    rw [List.eq_of_mem_replicate hr]; exact (fairR_in hf).2.2
  · cases hr
/-- the last one at the end -/
theorem ofR_head (s : Int) (l : List Int) : ∃ n r, ofR (s :: l) = (n, s) :: r ∧ 1 ≤ n := by
  show ∃ n r, consR s (ofR l) = (n, s) :: r ∧ 1 ≤ n
  have key : ∀ (l : List Int) (m t : Int) (r : Runs), ofR l = (m, t) :: r → 1 ≤ m := by
    intro l
    induction l with
    | nil => intro m t r h; cases h
    | cons x l ih =>
      intro m t r h
      change consR x (ofR l) = _ at h
      cases hl : ofR l with
      | nil => rw [hl, consR_nil] at h; cases h; omega
      | cons y q =>
        obtain ⟨k, u⟩ := y
        rw [hl, consR_cons] at h
        split at h
        · cases h; have := ih _ _ _ hl; omega
        · cases h; omega
  cases hl : ofR l with
  | nil => exact ⟨1, [], rfl, by omega⟩
  | cons y q =>
    obtain ⟨k, u⟩ := y
    rw [consR_cons]
    split
    · rename_i h; exact ⟨k + 1, q, by rw [h], by have := key l k u q hl; omega⟩
    · exact ⟨1, _, rfl, by omega⟩
theorem ofR_nil {l : List Int} (h : ofR l = []) : l = [] := by
  cases l with
  | nil => rfl
  | cons s l => obtain ⟨n, r, e, _⟩ := ofR_head s l; rw [e] at h; cases h
/-- one more at the end: the last run grows, or a new one is put on -/
theorem ofR_more : ∀ (l : List Int) (s : Int), ∃ m, (ofR (l ++ [s])).length = m + 1 ∧ ofR (l ++ [s, s]) = (ofR (l ++ [s])).modify m fun r => (r.1 + 1, r.2)
  | [], s => ⟨0, rfl, by show ofR [s, s] = _; simp [ofR, consR]⟩
  | x :: l, s => by
    obtain ⟨m, h1, h2⟩ := ofR_more l s
    show ∃ m, (consR x (ofR (l ++ [s]))).length = m + 1 ∧ consR x (ofR (l ++ [s, s])) = (consR x (ofR (l ++ [s]))).modify m _
    rw [h2]
    cases hl : ofR (l ++ [s]) with
    | nil => rw [hl] at h1; cases h1
    | cons y q =>
      obtain ⟨k, u⟩ := y
      rw [hl] at h1
      cases m with
      | zero =>
        rw [List.modify_zero_cons]
        have hq : q = [] := List.eq_nil_of_length_eq_zero (by simpa using h1)
        subst hq
        by_cases e : u = x
        · refine ⟨0, ?_, ?_⟩
          · simp [consR, e]
          · simp [consR, e]
        · refine ⟨1, ?_, ?_⟩
          · simp [consR, e]
          · simp [consR, e]
      | succ m =>
        rw [List.modify_succ_cons]
        have hq : q.length = m + 1 := by simpa using h1
        by_cases e : u = x
        · refine ⟨m + 1, ?_, ?_⟩
          · simp [consR, e, hq]
          · simp [consR, e]
        · refine ⟨m + 2, ?_, ?_⟩
          · simp [consR, e, hq]
          · simp [consR, e]
theorem ofR_new : ∀ (l : List Int) (t s : Int), t ≠ s → ofR (l ++ [t, s]) = ofR (l ++ [t]) ++ [(1, s)]
  | [], t, s, h => by simp [ofR, consR, Ne.symm h]
  | x :: l, t, s, h => by
    show consR x (ofR (l ++ [t, s])) = consR x (ofR (l ++ [t])) ++ [(1, s)]
    rw [ofR_new l t s h]
    cases hl : ofR (l ++ [t]) with
    | nil => exact absurd (ofR_nil hl) (by simp)
    | cons y q =>
      obtain ⟨k, u⟩ := y
      by_cases e : u = x
      · simp [consR, e]
      · simp [consR, e]
theorem consR_length (s : Int) (r : Runs) : (consR s r).length ≤ r.length + 1 ∧ 1 ≤ (consR s r).length := by
  cases r with
  | nil => simp [consR]
  | cons y q =>
    obtain ⟨k, u⟩ := y
    rw [consR_cons]
    split <;> simp
theorem ofR_length : ∀ l : List Int, (ofR l).length ≤ l.length
  | [] => Nat.le_refl 0
  | s :: l => by
    have h1 := ofR_length l
    have h2 := (consR_length s (ofR l)).1
    show (consR s (ofR l)).length ≤ _
    rw [List.length_cons]; omega
theorem consR_styles {s : Int} {r : Runs} (hs : goodS s = true) (hf : ∀ x ∈ r, 1 ≤ x.1 ∧ goodS x.2 = true) (hl : ∀ x ∈ r, x.1 + 1 ≤ 16777216) : stylesR (consR s r) = s :: stylesR r := by
  have h1 : oneR (1, s) = [s] := by
    unfold oneR fairR
    rw [if_pos (by rw [hs]; rfl)]; rfl
  cases r with
  | nil => show oneR (1, s) ++ [] = _; rw [h1]; rfl
  | cons y q =>
    obtain ⟨k, u⟩ := y
    have hk := hf (k, u) (by simp)
    have hk2 := hl (k, u) (by simp)
    simp only at hk hk2
    rw [consR_cons]
    split
    · rename_i e
      subst e
      rw [stylesR_cons, stylesR_cons]
      unfold oneR fairR
      rw [if_pos (by simp only [hk.2, Bool.and_true]; exact decide_eq_true (by omega)), if_pos (by simp only [hk.2, Bool.and_true]; exact decide_eq_true (by omega))]
      simp only
      rw [show (k + 1).toNat = k.toNat + 1 by omega, List.replicate_succ, List.cons_append]
    · rw [stylesR_cons, h1]; rfl
/-- each of the good runs may be -/
theorem ofR_fair : ∀ {l : List Int}, (∀ s ∈ l, goodS s = true) → ∀ r ∈ ofR l, 1 ≤ r.1 ∧ r.1 ≤ l.length ∧ goodS r.2 = true
  | [], _, r, hr => by cases hr
  | s :: l, h, r, hr => by
    have ih := ofR_fair (l := l) (fun x hx => h x (List.mem_cons_of_mem _ hx))
    have hs := h s List.mem_cons_self
    change r ∈ consR s (ofR l) at hr
    rw [List.length_cons]
    cases hl : ofR l with
    | nil =>
      rw [hl] at hr
      cases List.mem_singleton.1 hr
      exact ⟨by omega, by omega, hs⟩
    | cons y q =>
      rw [hl] at hr ih
      obtain ⟨k, u⟩ := y
      have hy := ih (k, u) List.mem_cons_self
      simp only at hy
      rw [consR_cons] at hr
      split at hr
      · rcases List.mem_cons.1 hr with rfl | hr
        · exact ⟨by simp only; omega, by simp only; omega, hy.2.2⟩
        · have := ih r (List.mem_cons_of_mem _ hr); exact ⟨this.1, by omega, this.2.2⟩
      · rcases List.mem_cons.1 hr with rfl | hr
        · exact ⟨by simp only; omega, by simp only; omega, hs⟩
        · have := ih r hr; exact ⟨this.1, by omega, this.2.2⟩
/-- the good runs have these bytes -/
theorem styles_of : ∀ {l : List Int}, (∀ s ∈ l, goodS s = true) → l.length ≤ 16777216 → stylesR (ofR l) = l
  | [], _, _ => rfl
  | s :: l, h, hl => by
    rw [List.length_cons] at hl
    have h' : ∀ x ∈ l, goodS x = true := fun x hx => h x (List.mem_cons_of_mem _ hx)
    show stylesR (consR s (ofR l)) = _
    rw [consR_styles (h s List.mem_cons_self) (fun x hx => ⟨(ofR_fair h' x hx).1, (ofR_fair h' x hx).2.2⟩) (fun x hx => by have := ofR_fair h' x hx; omega), styles_of h' (by omega)]
/-- what is left of all -/
def sR (l : Runs) : List Int := if (stylesR l).length ≤ 16777216 then stylesR l else []
def tidyR (l : Runs) : Runs := ofR (sR l)
theorem sR_good {l : Runs} : ∀ s ∈ sR l, goodS s = true := by
  intro s hs
  unfold sR at hs
  split at hs
  · exact stylesR_good hs
  · cases hs
theorem sR_len (l : Runs) : (sR l).length ≤ 16777216 := by
  unfold sR
  split
  · rename_i h; exact h
  · exact Nat.zero_le _
theorem sR_tidy (l : Runs) : sR (tidyR l) = sR l := by
  unfold tidyR
  have h := styles_of (l := sR l) sR_good (sR_len l)
  have h2 := sR_len l
  generalize sR l = x at *
  unfold sR
  rw [h, if_pos h2]
theorem tidyR_tidy (l : Runs) : tidyR (tidyR l) = tidyR l := by
  show ofR (sR (tidyR l)) = _
  rw [sR_tidy]; rfl
theorem sR_of {l : List Int} (h : ∀ s ∈ l, goodS s = true) (hl : l.length ≤ 16777216) : sR (ofR l) = l := by
  unfold sR; rw [styles_of h hl, if_pos hl]
theorem sR_small {l : Runs} (h : (stylesR l).length ≤ 16777216) : sR l = stylesR l := by unfold sR; rw [if_pos h]
/-! ### what comes of it -/
def atR (l : Runs) (i : Int) : Int := if 0 ≤ i then (sR l).getD i.toNat 0 else 0
def setL (s : List Int) (f t style : Int) : List Int := s.take f.toNat ++ List.replicate (t - f).toNat style ++ s.drop t.toNat
def aheadL (s : List Int) (at_ : Int) : Int := s.getD (at_ - 1).toNat 0
def insL (s : List Int) (at_ n : Int) : List Int := s.take at_.toNat ++ List.replicate n.toNat (aheadL s at_) ++ s.drop at_.toNat
def delL (s : List Int) (at_ n : Int) : List Int := s.take at_.toNat ++ s.drop (at_ + n).toNat
def clampZ (n : Int) (k : Nat) : Nat := min n.toNat k
def partL (s : List Int) (f t : Int) : List Int := (s.take (clampZ t s.length)).drop (clampZ f s.length)
def setR (l : Runs) (f t style : Int) : Runs × Int := if f < 0 ∨ t < f ∨ ((sR l).length : Int) < t then ([], 1) else if goodS style then (ofR (setL (sR l) f t style), 0) else ([], 5)
def insR (l : Runs) (a n : Int) : Runs × Int := if a < 0 ∨ ((sR l).length : Int) < a ∨ n < 0 then ([], 1) else if 16777216 - ((sR l).length : Int) < n then ([], 2) else (ofR (insL (sR l) a n), 0)
def delR (l : Runs) (a n : Int) : Runs × Int := if a < 0 ∨ ((sR l).length : Int) < a ∨ n < 0 ∨ ((sR l).length : Int) - a < n then ([], 1) else (ofR (delL (sR l) a n), 0)
def partR (l : Runs) (f t : Int) : Runs := ofR (partL (sR l) f t)
/-- P10.3 -/
theorem del_ins {s : List Int} {a n : Int} (ha : 0 ≤ a) (hl : a ≤ s.length) (hn : 0 ≤ n) : delL (insL s a n) a n = s := by
  obtain ⟨i, rfl⟩ := Int.eq_ofNat_of_zero_le ha
  obtain ⟨k, rfl⟩ := Int.eq_ofNat_of_zero_le hn
  have hi : i ≤ s.length := by omega
  unfold delL insL
  generalize aheadL s i = x
  simp only [Int.toNat_natCast, Int.ofNat_eq_natCast]
  have e1 : ((i : Int) + (k : Int)).toNat = i + k := by omega
  have hlen : (List.take i s).length = i := by rw [List.length_take]; omega
  have hlen2 : (List.take i s ++ List.replicate k x).length = i + k := by rw [List.length_append, hlen, List.length_replicate]
  rw [e1, List.drop_left' hlen2, List.append_assoc, List.take_left' hlen, List.take_append_drop]
theorem part_all (s : List Int) (t : Int) : partL s 0 t ++ partL s t 1099511627776 = s ∨ 1099511627776 < s.length := by
  rcases Nat.lt_or_ge 1099511627776 s.length with h | h
  · exact .inr h
  · left
    unfold partL clampZ
    have e1 : min (1099511627776 : Int).toNat s.length = s.length := by omega
    have e0 : min (0 : Int).toNat s.length = 0 := by omega
    rw [e1, e0, List.drop_zero, List.take_of_length_le (Nat.le_refl s.length)]
    exact List.take_append_drop _ _
end Go.Proofs.YteplnejnhgmfiaaDoor
namespace Go.Proofs.YteplnejnhgmfiaaDoor
set_option linter.unusedSimpArgs false
set_option linter.unusedVariables false
set_option linter.unusedSectionVars false
open Go.RowKit

/-- a slice that reads as these runs -/
def RRn (w : World) (v : Value) (l : Runs) : Prop := ∃ (A : Option Addr) (cap : Nat), v = .slice A l.length cap ∧ l.length ≤ cap ∧ (0 < l.length → ∃ b off, A = some ⟨b, off, none⟩ ∧ b < w.heap.size ∧ ∀ (j : Nat) (h : j < l.length), w.cell? ⟨b, off + j * 2, none⟩ = some (.int .i64 l[j].1) ∧ w.cell? ⟨b, off + j * 2 + 1, none⟩ = some (.int .i64 l[j].2))
theorem RRn.later {w w' : World} {v : Value} {l : Runs} (h : RRn w v l) (ha : AnyLater w w') : RRn w' v l := by
  obtain ⟨A, cap, h1, h2, h3⟩ := h
  refine ⟨A, cap, h1, h2, fun h0 => ?_⟩
  obtain ⟨b, off, e, hb, hc⟩ := h3 h0
  exact ⟨b, off, e, Nat.lt_of_lt_of_le hb ha.below.size, fun j hj => ⟨(ha.below.cell hb).trans (hc j hj).1, (ha.below.cell hb).trans (hc j hj).2⟩⟩
/-! ### a list of runs as cells -/
def flatN (l : Runs) : List Value := l.flatMap fun b => [.int .i64 b.1, .int .i64 b.2]
theorem flatN_nil : flatN [] = [] := rfl
theorem flatN_cons (b : Int × Int) (l : Runs) : flatN (b :: l) = .int .i64 b.1 :: .int .i64 b.2 :: flatN l := rfl
theorem flatN_append (a b : Runs) : flatN (a ++ b) = flatN a ++ flatN b := by unfold flatN; rw [List.flatMap_append]
theorem flatN_length : ∀ l : Runs, (flatN l).length = l.length * 2
  | [] => rfl
  | b :: l => by rw [flatN_cons, List.length_cons, List.length_cons, flatN_length l, List.length_cons]; omega
theorem flatN_0 : ∀ (l : Runs) (j : Nat), (flatN l)[j * 2]? = (l[j]?).map fun b => .int .i64 b.1
  | [], j => by simp [flatN_nil]
  | b :: l, 0 => rfl
  | b :: l, j + 1 => by
    rw [flatN_cons, show (j + 1) * 2 = j * 2 + 1 + 1 by omega, List.getElem?_cons_succ, List.getElem?_cons_succ, flatN_0 l j, List.getElem?_cons_succ]
theorem flatN_1 : ∀ (l : Runs) (j : Nat), (flatN l)[j * 2 + 1]? = (l[j]?).map fun b => .int .i64 b.2
  | [], j => by simp [flatN_nil]
  | b :: l, 0 => rfl
  | b :: l, j + 1 => by
    rw [flatN_cons, show (j + 1) * 2 + 1 = j * 2 + 1 + 1 + 1 by omega, List.getElem?_cons_succ, List.getElem?_cons_succ, flatN_1 l j, List.getElem?_cons_succ]
theorem flatN_one (l : Runs) : ∀ u ∈ flatN l, u.oneCell' = true := by
  intro u hu
  obtain ⟨b, _, hb⟩ := List.mem_flatMap.1 hu
  rcases List.mem_cons.1 hb with rfl | hb
  · rfl
  · rcases List.mem_cons.1 hb with rfl | hb
    · rfl
    · cases hb
/-- a row of runs that a call made itself -/
def ORn (w : World) (B : Nat) (v : Value) (l : Runs) : Prop := w.ownsRow B 54 2 v l.length (flatN l)
theorem ORn.reads {w : World} {B : Nat} {v : Value} {l : Runs} (h : ORn w B v l) : RRn w v l := by
  rcases h.2 with ⟨rfl, h0⟩ | ⟨g, cap, cur, rfl, h2, h3, h4, h5, h6, h7⟩
  · refine ⟨none, 0, by rw [h0], by omega, fun hp => by omega⟩
  · refine ⟨some ⟨g, 0, none⟩, cap, rfl, h4, fun _ => ⟨g, 0, rfl, own_lt h3, fun j hj => ?_⟩⟩
    have e : ∀ k, k < l.length * 2 → cur[k]? = (flatN l)[k]? := fun k hk => by
      have : (cur.toList.take (l.length * 2))[k]? = (flatN l)[k]? := by rw [h7]
      rw [List.getElem?_take_of_lt hk] at this
      simpa using this
    rw [Nat.zero_add, own_row h3, own_row h3, e _ (by omega), e _ (by omega), flatN_0, flatN_1, List.getElem?_eq_getElem hj]
    exact ⟨rfl, rfl⟩
theorem ORn.later {w w' : World} {B : Nat} {v : Value} {l : Runs} (h : ORn w B v l) (ha : AnyLater w w') : ORn w' B v l := owns_later ha h
/-- what a list of runs holds, as the source of an append -/
theorem RRn.cells {w w' : World} {b off : Nat} {l : Runs} (ha : AnyLater w w') (hb : 0 < l.length → b < w.heap.size) (hc : ∀ (j : Nat) (h : j < l.length), w.cell? ⟨b, off + j * 2, none⟩ = some (.int .i64 l[j].1) ∧ w.cell? ⟨b, off + j * 2 + 1, none⟩ = some (.int .i64 l[j].2)) :
    ∀ (j : Nat) (u : Value), (flatN l)[j]? = some u → w'.cell? ((⟨b, off, none⟩ : Addr).add j) = some u := by
  intro j u hu
  have hadd : (⟨b, off, none⟩ : Addr).add j = ⟨b, off + j, none⟩ := by unfold Addr.add; split <;> simp_all
  have hj : j < l.length * 2 := by
    rcases Nat.lt_or_ge j (l.length * 2) with h | h
    · exact h
    · rw [List.getElem?_eq_none (by rw [flatN_length]; exact h)] at hu; cases hu
  have hk : j / 2 < l.length := by omega
  rw [hadd, ha.below.cell (hb (by omega))]
  rcases Nat.mod_two_eq_zero_or_one j with hm | hm
  · have e : j = j / 2 * 2 := by omega
    rw [e] at hu ⊢
    rw [flatN_0, List.getElem?_eq_getElem hk] at hu
    rw [(hc _ hk).1]; exact hu
  · have e : j = j / 2 * 2 + 1 := by omega
    rw [e] at hu ⊢
    rw [flatN_1, List.getElem?_eq_getElem hk] at hu
    rw [← Nat.add_assoc, (hc _ hk).2]; exact hu

theorem info_run : (Tryd.prog.info? 54).map (fun i => (i.zero, i.size, i.bytes)) = some (some (.agg #[.int .i64 0, .int .i64 0]), 2, 16) := by kernel_rfl
theorem own_run0 (w : World) : ORn (w.alloc (.cells #[] 54)) w.heap.size (.slice (some ⟨w.heap.size, 0, none⟩) 0 0) [] :=
  ⟨rfl, .inr ⟨w.heap.size, 0, #[], rfl, Nat.le_refl _, heap_new rfl, Nat.le_refl _, Nat.zero_le _, rfl, rfl⟩⟩

/-! ### few -/
def RowN (W : World) (l : Runs) (e : Ending) (w' : World) : Prop := ∃ v, e = .returned v ∧ AnyLater W w' ∧ ORn w' W.heap.size v l
/-! ### Same -/
theorem stood_run : Tryd.prog.stoodInHeld 54 = false := by kernel_rfl
theorem fields_run : Tryd.prog.underlying 54 = some (.struct (Tryd.prog.fieldsOf 54)) := by kernel_rfl
theorem guard_run : Tryd.prog.eqGuardType Tryd.prog.depth 54 = false := by kernel_rfl
theorem eqRun (a b c d : Int) (w : World) : (Op.equalIn 10000 54 (.agg #[.int .i64 a, .int .i64 b]) (.agg #[.int .i64 c, .int .i64 d])).run Tryd.prog w = .ok (a == c && b == d) w := by
  rw [run_equalIn_agg w 9999 _ _ _ fields_run stood_run]
  by_cases h1 : a = c
  · by_cases h2 : b = d
    · simp [go_sem, h1, h2]
    · simp [go_sem, h1, h2]
  · simp [go_sem, h1]
theorem neqRun (a b c d : Int) (w : World) : (binOp .neq 54 (.agg #[.int .i64 a, .int .i64 b]) (.agg #[.int .i64 c, .int .i64 d])).run Tryd.prog w = .ok (.bool (!(a == c && b == d))) w := by
  rw [run_neq_struct, eqRun]; rfl
theorem eqlRun (a b c d : Int) (w : World) : (binOp .eql 54 (.agg #[.int .i64 a, .int .i64 b]) (.agg #[.int .i64 c, .int .i64 d])).run Tryd.prog w = .ok (.bool (a == c && b == d)) w := by
  rw [run_eql_struct, eqRun]; rfl

end Go.Proofs.YteplnejnhgmfiaaDoor
namespace Go.Proofs.YteplnejnhgmfiaaDoor
set_option linter.unusedSimpArgs false
set_option linter.unusedVariables false
set_option linter.unusedSectionVars false
open Go.RowKit

theorem ORn.base {w : World} {B : Nat} {v : Value} {l : Runs} (h : ORn w B v l) : ∀ k, v.ownBlock = some k → B ≤ k := owns_base h
theorem ORn.wide {w : World} {B C : Nat} {v : Value} {l : Runs} (hC : C ≤ B) (h : ORn w B v l) : ORn w C v l := by
  refine ⟨h.1, ?_⟩
  rcases h.2 with q | ⟨g, cap, cur, h0, h1, h2⟩
  · exact .inl q
  · exact .inr ⟨g, cap, cur, h0, by omega, h2⟩
theorem ORn.grown {W w w2 : World} {B : Nat} {v : Value} {l : Runs} (ho : ORn w B v l) (hW : W.heap.size ≤ B) (h : AnyLater W w) (hg : w.grownBy w2 v.ownBlock) : AnyLater W w2 :=
  grown_later h hg (fun q hq => Nat.le_trans hW (owns_base ho q hq))
/-- append(v, u...) onto a row of runs that the call owns -/
theorem appRuns {w : World} {B : Nat} {v u : Value} {l m : Runs} (ho : ORn w B v l) (hm : RRn w u m) (hB : B ≤ w.heap.size) (hlen : l.length + m.length ≤ 100000) :
    ∃ v' w', (Builtin.append_ #[23, 23] 23 #[v, u]).run Tryd.prog w = .ok v' w' ∧ ORn w' B v' (l ++ m) ∧ w.grownBy w' v.ownBlock := by
  obtain ⟨i0, hi0, hz0, hz1, hz2⟩ := info_parts info_run
  obtain ⟨A, cap, rfl, h2, h3⟩ := hm
  cases A with
  | none =>
    have h0 : m = [] := by
      cases m with
      | nil => rfl
      | cons x t => obtain ⟨b, off, e, _⟩ := h3 (by simp); cases e
    subst h0
    obtain ⟨A2, c2, rfl, q2, _⟩ := ho.reads
    have hsrc := Src.ofNil (P := Tryd.prog) w (size := i0.size) Tryd.underlying23 cap
    refine ⟨_, _, run_append_nothing (P := Tryd.prog) w 23 23 23 54 i0 Tryd.underlying23 hi0 A2 l.length c2 q2 _ hsrc, by rw [List.append_nil]; exact ho, ⟨rfl, rfl, rfl, Nat.le_refl _, fun _ _ _ => rfl⟩⟩
  | some ad =>
    by_cases h0 : 0 < m.length
    · obtain ⟨b, off, e, hb, hc⟩ := h3 h0
      cases e
      have hnews := RRn.cells (AnyLater.refl w) (fun _ => hb) hc
      obtain ⟨v', w', k1, k2, k3, _⟩ := run_append_own (P := Tryd.prog) w B 23 23 54 i0 (.agg #[.int .i64 0, .int .i64 0]) 2 16 Tryd.underlying23 hi0 hz0 hz1 hz2 rfl (by decide) v l.length (flatN l) ho ⟨b, off, none⟩ m.length cap (flatN m) (by rw [flatN_length]) hnews (flatN_one m) (by unfold maxLen; omega) (by omega) hB
      refine ⟨v', w', k1, ?_, k3⟩
      show w'.ownsRow B 54 2 v' (l ++ m).length (flatN (l ++ m))
      rw [List.length_append, flatN_append]
      exact k2
    · obtain rfl := List.eq_nil_of_length_eq_zero (Nat.eq_zero_of_not_pos h0)
      obtain ⟨v', w', k1, k2, k3, _⟩ := run_append_own (P := Tryd.prog) w B 23 23 54 i0 (.agg #[.int .i64 0, .int .i64 0]) 2 16 Tryd.underlying23 hi0 hz0 hz1 hz2 rfl (by decide) v l.length (flatN l) ho ad 0 cap [] (by simp) (fun j x hx => by simp at hx) (by intro x hx; simp at hx) (by unfold maxLen; omega) (by simp at hlen; omega) hB
      refine ⟨v', w', k1, ?_, k3⟩
      show w'.ownsRow B 54 2 v' (l ++ []).length (flatN (l ++ []))
      rw [List.append_nil]
      simpa using k2
theorem ORn.one {w : World} {g B : Nat} {r : Int × Int} (hB : B ≤ g) (h : w.heap[g]? = some (.cells #[.int .i64 r.1, .int .i64 r.2] 54)) : ORn w B (.slice (some ⟨g, 0, none⟩) 1 1) [r] := ⟨rfl, .inr ⟨g, 1, _, rfl, hB, h, Nat.le_refl _, by unfold maxLen; omega, rfl, rfl⟩⟩
/-- append(v, r) -/
theorem appRun {w : World} {B : Nat} {v : Value} {l : Runs} (r : Int × Int) (ho : ORn w B v l) (hB : B ≤ w.heap.size) (hl : l.length ≤ 90000) :
    ∃ u w2, (Builtin.append_ #[23, 23] 23 #[v, .slice (some ⟨w.heap.size, 0, none⟩) 1 1]).run Tryd.prog (w.alloc (.cells #[.int .i64 r.1, .int .i64 r.2] 54)) = .ok u w2 ∧ ORn w2 B u (l ++ [r]) ∧ ∀ W, W.heap.size ≤ B → AnyLater W w → AnyLater W w2 := by
  have a1 : AnyLater w (w.alloc (.cells #[.int .i64 r.1, .int .i64 r.2] 54)) := (AnyLater.refl w).alloc _
  have hm : RRn (w.alloc (.cells #[.int .i64 r.1, .int .i64 r.2] 54)) (.slice (some ⟨w.heap.size, 0, none⟩) 1 1) [r] := (ORn.one (B := 0) (Nat.zero_le _) (heap_new rfl)).reads
  have ho2 := ho.later a1
  obtain ⟨u, w2, k1, k2, k3⟩ := appRuns ho2 hm (Nat.le_trans hB a1.below.size) (by simp; omega)
  exact ⟨u, w2, k1, k2, fun W h1 h2 => ORn.grown ho2 h1 (h2.trans a1) k3⟩
/-- append([]api.Run{}, v...) -/
theorem copyRuns {w : World} {v : Value} {l : Runs} (hr : RRn w v l) (hl : l.length ≤ 90000) :
    ∃ u w2, (Builtin.append_ #[23, 23] 23 #[.slice (some ⟨w.heap.size, 0, none⟩) 0 0, v]).run Tryd.prog (w.alloc (.cells #[] 54)) = .ok u w2 ∧ AnyLater w w2 ∧ ORn w2 w.heap.size u l := by
  have a1 : AnyLater w (w.alloc (.cells #[] 54)) := (AnyLater.refl w).alloc _
  have ho := own_run0 w
  obtain ⟨u, w2, k1, k2, k3⟩ := appRuns ho (hr.later a1) a1.below.size (by simp; omega)
  exact ⟨u, w2, k1, ORn.grown ho (Nat.le_refl _) a1 k3, k2⟩

/-! ### Fair, Small -/
def NumsR (l : Runs) : Prop := ∀ r ∈ l, I64s r.1 ∧ I64s r.2
theorem NumsR.take {l : Runs} (h : NumsR l) (n : Nat) : NumsR (l.take n) := fun r hr => h r (List.mem_of_mem_take hr)
theorem fairR_split (n s : Int) (c : Bool) (hc : fairR (n, s) = c) : (decide (1 ≤ n) && decide (n ≤ 16777216) && goodS s) = c := by
  rw [← hc]; unfold fairR; simp [Bool.decide_and]
set_option maxRecDepth 100000 in
set_option maxHeartbeats 1600000 in
theorem fair_any (n s : Int) (w : World) (c : Bool) (hc : fairR (n, s) = c) (hn : I64s n) (hs : I64s s) : Calls Tryd.prog 26 #[.agg #[.int .i64 n, .int .i64 s]] w fun e w' => e = .returned (.bool c) ∧ AnyLater w w' := by
  have hc := fairR_split n s c hc
  have HG := Lib.hid (fun w => refGoodS_any s w _ rfl hs)
  have HC := Lib.hid hc
  generalize goodS s = g at *
  obtain ⟨n1, n2⟩ := hn
  obtain ⟨s1, s2⟩ := hs
  clear hc
  by_cases q1 : 1 ≤ n
  · by_cases q2 : n ≤ 16777216
    · have HC2 : Hid (g = c) := Lib.hid (by rw [← HC.out]; simp [q1, q2])
      go_enter Tryd.func26, Tryd.ntmps26
      go_wp2_with (go_at_call 45; refine (HG.out _).mono ?_; rintro e w' ⟨rfl, rfl⟩)
      go_ret
      exact ⟨ret_bool HC2.out, by repeat' (first | with_reducible assumption | with_reducible exact AnyLater.refl _ | with_reducible apply AnyLater.setCell | with_reducible apply AnyLater.later | with_reducible apply AnyLater.drewN | with_reducible apply AnyLater.drew | with_reducible apply AnyLater.alloc | ((try simp only [World.size_alloc, World.size_setCell, World.size_drew]); (try dsimp only); omega))⟩
    · have HC2 : Hid (false = c) := Lib.hid (by rw [← HC.out]; simp [q2])
      have d2 : decide (n ≤ 16777216) = false := decide_eq_false q2
      go_enter Tryd.func26, Tryd.ntmps26
      go_wp2_with (go_at_call 45; refine (HG.out _).mono ?_; rintro e w' ⟨rfl, rfl⟩)
      go_ret
      exact ⟨ret_bool HC2.out, by repeat' (first | with_reducible assumption | with_reducible exact AnyLater.refl _ | with_reducible apply AnyLater.setCell | with_reducible apply AnyLater.later | with_reducible apply AnyLater.drewN | with_reducible apply AnyLater.drew | with_reducible apply AnyLater.alloc | ((try simp only [World.size_alloc, World.size_setCell, World.size_drew]); (try dsimp only); omega))⟩
  · have HC2 : Hid (false = c) := Lib.hid (by rw [← HC.out]; simp [q1])
    have d1 : decide (1 ≤ n) = false := decide_eq_false q1
    go_enter Tryd.func26, Tryd.ntmps26
    go_wp2_with (go_at_call 45; refine (HG.out _).mono ?_; rintro e w' ⟨rfl, rfl⟩)
    go_ret
    exact ⟨ret_bool HC2.out, by repeat' (first | with_reducible assumption | with_reducible exact AnyLater.refl _ | with_reducible apply AnyLater.setCell | with_reducible apply AnyLater.later | with_reducible apply AnyLater.drewN | with_reducible apply AnyLater.drew | with_reducible apply AnyLater.alloc | ((try simp only [World.size_alloc, World.size_setCell, World.size_drew]); (try dsimp only); omega))⟩
theorem styles_take {l : Runs} {j : Nat} (h : j < l.length) : stylesR (l.take (j + 1)) = stylesR (l.take j) ++ oneR l[j] := by
  rw [List.take_succ_eq_append_getElem h, stylesR_append]
  simp [stylesR]
theorem styles_le (l : Runs) (j : Nat) : (stylesR (l.take j)).length ≤ (stylesR l).length := by
  conv => rhs; rw [← List.take_append_drop j l, stylesR_append, List.length_append]
  omega
def smallR (l : Runs) : Bool := decide ((stylesR l).length ≤ 4000) && decide (l.length ≤ 100)
set_option maxRecDepth 100000 in
set_option maxHeartbeats 3200000 in
theorem small_some (b off n cap : Nat) (l : Runs) (w : World) (c : Bool) (hcc : smallR l = c) (hl : l.length = n) (hn : n ≤ 100000) (hN : NumsR l) (hb : b < w.heap.size) (hc : ∀ (j : Nat) (h : j < l.length), w.cell? ⟨b, off + j * 2, none⟩ = some (.int .i64 l[j].1) ∧ w.cell? ⟨b, off + j * 2 + 1, none⟩ = some (.int .i64 l[j].2)) :
    Calls Tryd.prog 9 #[.slice (some ⟨b, off, none⟩) n cap] w fun e w' => e = .returned (.bool c) ∧ AnyLater w w' := by
  have HL := Lib.hid hl
  have HC := Lib.hid hc
  have HCC := Lib.hid hcc
  have HNN := Lib.hid hN
  clear hl hc hcc hN
  go_enter Tryd.func9, Tryd.ntmps9
  go_wp2_with fail
  go_loopg [3, 4] n (fun k s i wr => AnyLater w wr ∧ ∃ j : Nat, k = n - j ∧ j ≤ n ∧ i = .int .i64 j ∧ ∃ t : Nat, s = .int .i64 t ∧ (stylesR (l.take j)).length = t ∧ t ≤ 4000)
  case atStart => exact ⟨AnyLater.refl _, 0, by omega, by omega, rfl, 0, rfl, rfl, by omega⟩
  case round =>
    obtain ⟨a_wr, j, hk, hj, rfl, t, rfl, ht, ht4⟩ := hrel
    have HT := Lib.hid ht
    have HA := Lib.hid a_wr
    clear ht
    by_cases hlt : j < n
    · have lj : j < l.length := by rw [HL.out]; exact hlt
      have c0 : wr.cell? ⟨b, off + j * 2, none⟩ = some (.int .i64 l[j].1) := (a_wr.below.cell hb).trans (HC.out j lj).1
      have c1 : wr.cell? ⟨b, off + j * 2 + 1, none⟩ = some (.int .i64 l[j].2) := (a_wr.below.cell hb).trans (HC.out j lj).2
      have hlx : b < wr.heap.size := Nat.lt_of_lt_of_le hb a_wr.below.size
      have HS := Lib.hid (styles_take lj)
      have HM := Lib.hid (styles_le l (j + 1))
      have hx := HNN.out l[j] (List.getElem_mem lj)
      have HO : Hid (((oneR l[j]).length : Int) = if fairR l[j] then l[j].1 else 0) := Lib.hid oneR_length
      generalize l[j] = x at *
      obtain ⟨f, s⟩ := x
      simp only at c0 c1 hx HO
      cases hf : fairR (f, s) with
      | true =>
        have HF := Lib.hid (fun w => fair_any f s w true hf hx.1 hx.2)
        obtain ⟨f1, f2, _⟩ := fairR_in hf
        simp only at f1 f2
        have HO2 : Hid (((oneR (f, s)).length : Int) = f) := Lib.hid (by rw [HO.out, hf]; rfl)
        clear hf hx HO
        by_cases hg : 4000 - (t : Int) < f
        · have HZ : Hid (false = c) := Lib.hid (by
            rw [← HCC.out, eq_comm]
            unfold smallR
            rw [Bool.and_eq_false_iff]; left
            apply decide_eq_false
            have h1 := HM.out
            rw [HS.out, List.length_append, HT.out] at h1
            have h2 := HO2.out
            omega)
          go_wp2_with fail
          refine (HF.out _).mono ?_
          rintro e w1 ⟨rfl, b1⟩
          have d0 : w1.cell? ⟨b, off + j * 2, none⟩ = some (.int .i64 f) := (b1.below.cell hlx).trans c0
          have HA1 := Lib.hid (HA.out.trans b1)
          clear b1 a_wr
          go_wp2_with fail
          go_ret
          exact ⟨ret_bool HZ.out, HA1.out⟩
        · have hgf : decide (4000 - (t : Int) < f) = false := decide_eq_false hg
          go_wp2_with fail
          refine (HF.out _).mono ?_
          rintro e w1 ⟨rfl, b1⟩
          have d0 : w1.cell? ⟨b, off + j * 2, none⟩ = some (.int .i64 f) := (b1.below.cell hlx).trans c0
          have HA1 := Lib.hid (HA.out.trans b1)
          clear b1 a_wr
          go_wp2_with fail
          go_roundg (n - (j + 1))
          case measure => omega
          case rel => exact ⟨HA1.out, j + 1, rfl, hlt, by go_num, t + f.toNat, by go_num, by rw [HS.out, List.length_append, HT.out]; have := HO2.out; omega, by omega⟩
      | false =>
        have HF := Lib.hid (fun w => fair_any f s w false hf hx.1 hx.2)
        have HO2 : Hid (((oneR (f, s)).length : Int) = 0) := Lib.hid (by rw [HO.out, hf]; rfl)
        clear hf hx HO
        go_wp2_with fail
        refine (HF.out _).mono ?_
        rintro e w1 ⟨rfl, b1⟩
        have HA1 := Lib.hid (HA.out.trans b1)
        clear b1 a_wr
        go_wp2_with fail
        go_roundg (n - (j + 1))
        case measure => omega
        case rel => exact ⟨HA1.out, j + 1, rfl, hlt, by go_num, t, rfl, by rw [HS.out, List.length_append, HT.out]; have := HO2.out; omega, ht4⟩
    · obtain rfl : j = n := by omega
      have HZ : Hid (decide ((j : Int) ≤ 100) = c) := Lib.hid (by
        rw [← HCC.out]
        unfold smallR
        have := HT.out
        rw [List.take_of_length_le (Nat.le_of_eq HL.out)] at this
        rw [this, HL.out, decide_eq_true ht4, Bool.true_and, decide_eq_decide]
        omega)
      clear a_wr
      go_wp2_with fail
      go_ret
      exact ⟨ret_bool HZ.out, HA.out⟩
theorem small_none (A : Option Addr) (cap : Nat) (w : World) : Calls Tryd.prog 9 #[.slice A 0 cap] w fun e w' => e = .returned (.bool true) ∧ w = w' := by
  go_enter Tryd.func9, Tryd.ntmps9
  go_wp2_with fail
  refine wp_loop_rounds 1 ?_
  rw [rounds_succ]
  go_wp2_with fail
  go_ret
  exact ⟨rfl, rfl⟩
/-- Small of any runs -/
theorem small_any (v : Value) (l : Runs) (w : World) (c : Bool) (hc : smallR l = c) (h : RRn w v l) (hN : NumsR l) (hn : l.length ≤ 100000) : Calls Tryd.prog 9 #[v] w fun e w' => e = .returned (.bool c) ∧ AnyLater w w' := by
  obtain ⟨A, cap, rfl, h2, h3⟩ := h
  rcases Nat.eq_zero_or_pos l.length with h0 | h0
  · obtain rfl := List.eq_nil_of_length_eq_zero h0
    obtain rfl : true = c := by rw [← hc]; rfl
    exact same_later (small_none A cap w)
  · obtain ⟨b, off, rfl, hb, hcc⟩ := h3 h0
    exact small_some b off _ cap l w c hc rfl hn hN hb hcc
end Go.Proofs.YteplnejnhgmfiaaDoor
namespace Go.Proofs.YteplnejnhgmfiaaDoor
set_option linter.unusedSimpArgs false
set_option linter.unusedVariables false
set_option linter.unusedSectionVars false
open Go.RowKit

abbrev OI (w : World) (B : Nat) (v : Value) (l : List Int) : Prop := ON .i64 3 w B v l
/-- a call that answers with numbers in memory of its own -/
def RowI (W : World) (l : List Int) (e : Ending) (w' : World) : Prop := ∃ v, e = .returned v ∧ AnyLater W w' ∧ OI w' W.heap.size v l
theorem own_int0 (w : World) : OI (w.alloc (.cells #[] 3)) w.heap.size (.slice (some ⟨w.heap.size, 0, none⟩) 0 0) [] := ON.empty (Nat.le_refl _) (heap_new rfl)

/-! ### Styles -/
set_option maxRecDepth 100000 in
set_option maxHeartbeats 3200000 in
theorem styles_some (b off n cap : Nat) (l : Runs) (w : World) (hl : l.length = n) (hn : n ≤ 100000) (hN : NumsR l) (h4 : (stylesR l).length ≤ 4000) (hb : b < w.heap.size) (hc : ∀ (j : Nat) (h : j < l.length), w.cell? ⟨b, off + j * 2, none⟩ = some (.int .i64 l[j].1) ∧ w.cell? ⟨b, off + j * 2 + 1, none⟩ = some (.int .i64 l[j].2)) :
    Calls Tryd.prog 14 #[.slice (some ⟨b, off, none⟩) n cap] w (RowI w (stylesR l)) := by
  have HL := Lib.hid hl
  have HC := Lib.hid hc
  have HNN := Lib.hid hN
  have H4 := Lib.hid h4
  clear hl hc hN h4
  go_enter Tryd.func14, Tryd.ntmps14
  go_wp2_with fail
  go_loopg [3, 4] n (fun k v i wr => ∃ j : Nat, k = n - j ∧ j ≤ n ∧ i = .int .i64 j ∧ AnyLater w wr ∧ OI wr w.heap.size v (stylesR (l.take j)))
  case atStart => exact ⟨0, by omega, by omega, rfl, (AnyLater.refl w).alloc _, own_int0 w⟩
  case round =>
    obtain ⟨j, hk, hj, rfl, ha, ho⟩ := hrel
    have HA := Lib.hid (And.intro ha ho)
    by_cases hlt : j < n
    · have lj : j < l.length := by rw [HL.out]; exact hlt
      have hbr : b < wr.heap.size := Nat.lt_of_lt_of_le hb ha.below.size
      have c0 : wr.cell? ⟨b, off + j * 2, none⟩ = some (.int .i64 l[j].1) := (ha.below.cell hb).trans (HC.out j lj).1
      have c1 : wr.cell? ⟨b, off + j * 2 + 1, none⟩ = some (.int .i64 l[j].2) := (ha.below.cell hb).trans (HC.out j lj).2
      have HCC := Lib.hid (HC.out j lj)
      have HS := Lib.hid (styles_take lj)
      have HM := Lib.hid (styles_le l (j + 1))
      have hx := HNN.out l[j] (List.getElem_mem lj)
      have HO : Hid (((oneR l[j]).length : Int) = if fairR l[j] then l[j].1 else 0) := Lib.hid oneR_length
      have HRE : Hid (fairR l[j] = true → oneR l[j] = List.replicate l[j].1.toNat l[j].2) := Lib.hid (fun h => by unfold oneR; rw [if_pos h])
      generalize l[j] = x at *
      obtain ⟨f, s⟩ := x
      simp only at c0 c1 hx HO HCC HRE
      obtain ⟨m, hm⟩ : ∃ m, (oneR (f, s)).length = m := ⟨_, rfl⟩
      obtain ⟨D, hD⟩ : ∃ D, stylesR (l.take j) = D := ⟨_, rfl⟩
      have hm4 : D.length + m ≤ 4000 := by
        have h1 := HM.out
        rw [HS.out, List.length_append, hD, hm] at h1
        have := H4.out
        omega
      have HREP : Hid (oneR (f, s) = List.replicate m s) := Lib.hid (by
        cases hf : fairR (f, s) with
        | true => rw [HRE.out hf] at hm ⊢; rw [List.length_replicate] at hm; rw [hm]
        | false => have h0 : oneR (f, s) = [] := by unfold oneR; rw [hf]; rfl
                   rw [h0] at hm ⊢; subst hm; rfl)
      rw [hm] at HO
      have HD := Lib.hid hD
      obtain ⟨fb, hfb⟩ : ∃ c, fairR (f, s) = c := ⟨_, rfl⟩
      have HF := Lib.hid (fun w => fair_any f s w fb hfb hx.1 hx.2)
      rw [hfb] at HO
      have hfm : fb = true → (m : Int) = f ∧ 1 ≤ f := fun h => by
        have := HO.out
        rw [h] at this
        exact ⟨this, (fairR_in (hfb.trans h)).1⟩
      have hfz : fb = false → m = 0 := fun h => by
        have := HO.out
        rw [h] at this
        simpa using this
      have HFM := Lib.hid hfm
      have HFZ := Lib.hid hfz
      rw [hD] at ho HA
      have HST := Lib.hid (And.intro hx.1 hx.2)
      clear hx hm hD HO HRE hfb hfm hfz HM
      go_wp2_with fail
      go_loopg [3, 5] m (fun k v i wr2 => ∃ q : Nat, k = m - q ∧ q ≤ m ∧ i = .int .i64 q ∧ AnyLater w wr2 ∧ OI wr2 w.heap.size v (D ++ List.replicate q s))
      case atStart => exact ⟨0, by omega, by omega, rfl, HA.out.1, by simpa using HA.out.2⟩
      case round =>
        obtain ⟨q, hkq, hq, rfl, h2, h3⟩ := hrel
        have HB := Lib.hid (And.intro h2 h3)
        have hbq : b < wr.heap.size := Nat.lt_of_lt_of_le hb h2.below.size
        have d0 : wr.cell? ⟨b, off + j * 2, none⟩ = some (.int .i64 f) := (h2.below.cell hb).trans HCC.out.1
        have d1 : wr.cell? ⟨b, off + j * 2 + 1, none⟩ = some (.int .i64 s) := (h2.below.cell hb).trans HCC.out.2
        clear c0 c1 ho
        by_cases hqf : (q : Int) < f
        · cases hfb : fb with
          | false =>
            have hq0 : m = 0 := HFZ.out hfb
            subst hfb
            have hq0' : q = 0 := by omega
            have HE : Hid (stylesR (l.take (j + 1)) = D ++ List.replicate q s) := Lib.hid (by rw [HS.out, HD.out, HREP.out, hq0, hq0'])
            go_wp2_with (go_at_call 26; refine (HF.out _).mono ?_; rintro e w3 ⟨rfl, b3⟩; have HB3 := Lib.hid (And.intro (HB.out.1.trans b3) (HB.out.2.later b3)); clear b3)
            go_roundg (n - (j + 1))
            case measure => omega
            case rel => exact ⟨j + 1, rfl, hlt, by go_num, HB3.out.1, by rw [HE.out]; exact HB3.out.2⟩
          | true =>
            obtain ⟨hfm1, hfm2⟩ := HFM.out hfb
            subst hfb
            have q4 : (q : Int) < 4000 := by omega
            have hlen : (D ++ List.replicate q s).length ≤ 90000 := by rw [List.length_append, List.length_replicate]; omega
            have HE : Hid (D ++ List.replicate q s ++ [s] = D ++ List.replicate (q + 1) s) := Lib.hid (by rw [List.append_assoc, List.replicate_succ'])
            go_wp2_with fail
            refine (HF.out _).mono ?_
            rintro e w3 ⟨rfl, b3⟩
            have e1 : w3.cell? ⟨b, off + j * 2 + 1, none⟩ = some (.int .i64 s) := (b3.below.cell hbq).trans d1
            have HB3 := Lib.hid (And.intro (HB.out.1.trans b3) (HB.out.2.later b3))
            obtain ⟨v4, w4, k1, k2, k3⟩ := appI s HB3.out.2 HB3.out.1.below.size hlen
            have K1 := Lib.hid k1
            have HB4 := Lib.hid (And.intro (k3 w (Nat.le_refl _) HB3.out.1) k2)
            clear b3 k1 k2 k3 h3
            go_wp2_with (at_builtin; refine Lib.wpList_append_run _ rfl _ _ _ _ rfl _ _ rfl rfl _ _ K1.out ?_)
            go_roundg (m - (q + 1))
            case measure => omega
            case rel => exact ⟨q + 1, rfl, by omega, by go_num, HB4.out.1, by rw [← HE.out]; exact HB4.out.2⟩
        · have dq : decide ((q : Int) < f) = false := decide_eq_false hqf
          have HE : Hid (stylesR (l.take (j + 1)) = D ++ List.replicate q s) := Lib.hid (by
            rw [HS.out, HD.out, HREP.out]
            cases hfb : fb with
            | true => have := (HFM.out hfb).1; rw [show m = q by omega]
            | false => have := HFZ.out hfb; rw [show m = q by omega])
          go_wp2_with fail
          go_roundg (n - (j + 1))
          case measure => omega
          case rel => exact ⟨j + 1, rfl, hlt, by go_num, HB.out.1, by rw [HE.out]; exact HB.out.2⟩
    · obtain rfl : j = n := by omega
      clear ha ho
      go_wp2_with fail
      go_ret
      exact ⟨_, rfl, HA.out.1, by have := HA.out.2; rwa [List.take_of_length_le (Nat.le_of_eq HL.out)] at this⟩
theorem styles_none (A : Option Addr) (cap : Nat) (w : World) : Calls Tryd.prog 14 #[.slice A 0 cap] w (RowI w []) := by
  have H := Lib.hid (own_int0 w)
  go_enter Tryd.func14, Tryd.ntmps14
  go_wp2_with fail
  refine wp_loop_rounds 1 ?_
  rw [rounds_succ]
  go_wp2_with fail
  go_ret
  exact ⟨_, rfl, by repeat' (first | with_reducible assumption | with_reducible exact AnyLater.refl _ | with_reducible apply AnyLater.setCell | with_reducible apply AnyLater.later | with_reducible apply AnyLater.drewN | with_reducible apply AnyLater.drew | with_reducible apply AnyLater.alloc | ((try simp only [World.size_alloc, World.size_setCell, World.size_drew]); (try dsimp only); omega)), H.out⟩
/-- Styles of any few runs -/
theorem styles_any (v : Value) (l : Runs) (w : World) (h : RRn w v l) (hN : NumsR l) (hn : l.length ≤ 100000) (h4 : (stylesR l).length ≤ 4000) : Calls Tryd.prog 14 #[v] w (RowI w (stylesR l)) := by
  obtain ⟨A, cap, rfl, h2, h3⟩ := h
  rcases Nat.eq_zero_or_pos l.length with h0 | h0
  · obtain rfl := List.eq_nil_of_length_eq_zero h0
    exact styles_none A cap w
  · obtain ⟨b, off, rfl, hb, hc⟩ := h3 h0
    exact styles_some b off _ cap l w rfl hn hN h4 hb hc

/-! ### Of -/
theorem flatN_set0 : ∀ (l : Runs) (j : Nat) (t : Int), (flatN l).set (j * 2) (.int .i64 t) = flatN (l.modify j fun b => (t, b.2))
  | [], j, t => by simp [flatN_nil]
  | b :: l, 0, t => rfl
  | b :: l, j + 1, t => by
    rw [flatN_cons, show (j + 1) * 2 = j * 2 + 1 + 1 by omega, List.set_cons_succ, List.set_cons_succ, flatN_set0 l j t, List.modify_succ_cons, flatN_cons]
theorem ofR_le : ∀ (l : List Int), ∀ r ∈ ofR l, 1 ≤ r.1 ∧ r.1 ≤ l.length
  | [], r, hr => by cases hr
  | s :: l, r, hr => by
    have ih := ofR_le l
    change r ∈ consR s (ofR l) at hr
    rw [List.length_cons]
    cases hl : ofR l with
    | nil =>
      rw [hl, consR_nil] at hr
      cases List.mem_singleton.1 hr
      exact ⟨by omega, by omega⟩
    | cons y q =>
      rw [hl] at hr ih
      obtain ⟨k, u⟩ := y
      have hy := ih (k, u) List.mem_cons_self
      simp only at hy
      rw [consR_cons] at hr
      split at hr
      · rcases List.mem_cons.1 hr with rfl | hr
        · exact ⟨by simp only; omega, by simp only; omega⟩
        · have := ih r (List.mem_cons_of_mem _ hr); exact ⟨this.1, by omega⟩
      · rcases List.mem_cons.1 hr with rfl | hr
        · exact ⟨by simp only; omega, by simp only; omega⟩
        · have := ih r hr; exact ⟨this.1, by omega⟩
theorem modify_last_id {l : Runs} {m : Nat} {t s : Int} (h : l[m]? = some (t, s)) (f : Int × Int → Int × Int) (g : Int × Int → Int × Int) (hfg : f (t, s) = g (t, s)) : l.modify m f = l.modify m g := by
  apply List.ext_getElem?
  intro i
  rw [List.getElem?_modify, List.getElem?_modify]
  by_cases e : m = i
  · subst e; rw [h]; simp [hfg]
  · simp [e]
theorem rown_store {w : World} {B : Nat} {e : TypeId} {size n cap g i : Nat} {xs : List Value} {x : Value} (o : w.ownsRow B e size (.slice (some ⟨g, 0, none⟩) n cap) n xs) (hi : i < xs.length) : (w.setCell ⟨g, i, none⟩ x).ownsRow B e size (.slice (some ⟨g, 0, none⟩) n cap) n (xs.set i x) := by
  refine ⟨by rw [List.length_set]; exact o.1, ?_⟩
  rcases o.2 with ⟨h1, _⟩ | ⟨g', cap', cur, h1, h2, h3, h4, h5, h6, h7⟩
  · cases h1
  · obtain ⟨rfl, rfl⟩ : g' = g ∧ cap' = cap := by cases h1; exact ⟨rfl, rfl⟩
    refine .inr ⟨g', cap', cur.setIfInBounds i x, rfl, h2, heap_at h3 rfl, h4, h5, by simpa using h6, ?_⟩
    rw [Array.toList_setIfInBounds, List.take_set, h7]
/-- the last of a row of the call's own runs: where it lies, and that it may grow -/
theorem ORn.last {w : World} {B m : Nat} {v : Value} {l : Runs} (o : ORn w B v l) (hn : l.length = m + 1) :
    ∃ g cap t, v = .slice (some ⟨g, 0, none⟩) (m + 1) cap ∧ B ≤ g ∧ g < w.heap.size ∧ w.cell? ⟨g, m * 2, none⟩ = some (.int .i64 t) ∧ (∃ s, l[m]? = some (t, s)) ∧ w.frozen? ⟨g, m * 2, none⟩ = false ∧
    ∀ x : Int, ORn (w.setCell ⟨g, m * 2, none⟩ (.int .i64 x)) B (.slice (some ⟨g, 0, none⟩) (m + 1) cap) (l.modify m fun b => (x, b.2)) := by
  have o' := o
  rcases o.2 with ⟨_, h0⟩ | ⟨g, cap, cur, rfl, h2, h3, h4, h5, h6, h7⟩
  · omega
  · rw [hn] at h4 h7
    have hm : m < l.length := by omega
    have e : cur[m * 2]? = (flatN l)[m * 2]? := by
      have : (cur.toList.take ((m + 1) * 2))[m * 2]? = (flatN l)[m * 2]? := by rw [h7]
      rw [List.getElem?_take_of_lt (by omega)] at this
      simpa using this
    refine ⟨g, cap, l[m].1, by rw [hn], h2, own_lt h3, by rw [own_row h3, e, flatN_0, List.getElem?_eq_getElem hm]; rfl, ⟨l[m].2, by rw [List.getElem?_eq_getElem hm]⟩, own_free h3 _, fun x => ?_⟩
    unfold ORn at o'
    rw [hn] at o'
    have o2 := rown_store (x := .int .i64 x) (i := m * 2) o' (by rw [flatN_length]; omega)
    unfold ORn
    rw [List.length_modify, hn, ← flatN_set0]
    exact o2
theorem take_two {l : List Int} {j : Nat} (h : j + 1 < l.length) : l.take (j + 1) = l.take j ++ [l[j]] ∧ l.take (j + 1 + 1) = l.take j ++ [l[j], l[j + 1]] := by
  refine ⟨List.take_succ_eq_append_getElem (by omega), ?_⟩
  rw [List.take_succ_eq_append_getElem h, List.take_succ_eq_append_getElem (by omega), List.append_assoc]
  rfl
end Go.Proofs.YteplnejnhgmfiaaDoor
namespace Go.Proofs.YteplnejnhgmfiaaDoor
set_option linter.unusedSimpArgs false
set_option linter.unusedVariables false
set_option linter.unusedSectionVars false
open Go.RowKit

/-- runs in memory that holds runs -/
def RRt (w : World) (v : Value) (l : Runs) : Prop := RRn w v l ∧ ∀ b, vblk v = some b → ∃ cs, w.heap[b]? = some (.cells cs 54)
theorem RRt.later {w w' : World} {v : Value} {l : Runs} (h : RRt w v l) (ha : AnyLater w w') : RRt w' v l := ⟨h.1.later ha, fun b hb => by
  obtain ⟨cs, hcs⟩ := h.2 b hb
  exact ⟨cs, any_own ha hcs⟩⟩
theorem ORn.typed {w : World} {B : Nat} {v : Value} {l : Runs} (h : ORn w B v l) : RRt w v l := ⟨h.reads, fun b hb => by
  rcases h.2 with ⟨rfl, _⟩ | ⟨g, cap, cur, rfl, h2, h3, _⟩
  · cases hb
  · cases hb
    exact ⟨cur, h3⟩⟩
/-- a store into memory that holds no runs -/
theorem RRt.far {w : World} {v : Value} {l : Runs} {g i : Nat} {cs : Array Value} {t : TypeId} {x : Value} (h : RRt w v l) (hg : w.heap[g]? = some (.cells cs t)) (ht : t ≠ 54) : RRt (w.setCell ⟨g, i, none⟩ x) v l := by
  have hne : ∀ b, vblk v = some b → b ≠ g := fun b hb e => by
    obtain ⟨c2, h2⟩ := h.2 b hb
    rw [e, hg] at h2
    cases h2
    exact ht rfl
  refine ⟨?_, fun b hb => ?_⟩
  · obtain ⟨A, cap, rfl, h2, h3⟩ := h.1
    refine ⟨A, cap, rfl, h2, fun h0 => ?_⟩
    obtain ⟨b, off, rfl, hb, hc⟩ := h3 h0
    have hbg : g ≠ b := fun e => hne b rfl e.symm
    refine ⟨b, off, rfl, by simpa using hb, fun j hj => ?_⟩
    rw [World.cell?_setCell_far _ _ _ _ hbg, World.cell?_setCell_far _ _ _ _ hbg]
    exact hc j hj
  · obtain ⟨c2, h2⟩ := h.2 b hb
    exact ⟨c2, heap_far (hne b hb) h2⟩
/-- a call that answers with runs, and changes nothing that was -/
def Tells1 (W : World) (m : Runs) (e : Ending) (w' : World) : Prop := ∃ u, e = .returned u ∧ AnyLater W w' ∧ RRt w' u m
/-- a call that answers with runs and a code -/
def Tells2 (W : World) (m : Runs) (c : Int) (e : Ending) (w' : World) : Prop := ∃ u, e = .returned (.tuple #[u, .int .i64 c]) ∧ AnyLater W w' ∧ RRt w' u m
/-- runs that a function is asked about -/
def Asks (w : World) (v : Value) (l : Runs) : Prop := RRt w v l ∧ NumsR l ∧ l.length ≤ 40000
theorem Asks.later {w w' : World} {v : Value} {l : Runs} (h : Asks w v l) (ha : AnyLater w w') : Asks w' v l := ⟨h.1.later ha, h.2⟩
theorem goodS_i64 {s : Int} (h : goodS s = true) : I64s s := by have := goodS_in h; constructor <;> omega
theorem nums_of {l : List Int} (h : ∀ s ∈ l, goodS s = true) (hl : l.length ≤ 16777216) : NumsR (ofR l) := fun r hr => by
  have := ofR_fair h r hr
  exact ⟨by constructor <;> omega, goodS_i64 this.2.2⟩
theorem nums_tidy (l : Runs) : NumsR (tidyR l) := nums_of sR_good (sR_len l)
end Go.Proofs.YteplnejnhgmfiaaDoor
