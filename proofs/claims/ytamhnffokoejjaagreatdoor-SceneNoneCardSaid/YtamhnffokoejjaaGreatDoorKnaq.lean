/- what the proof stands on: ShdM ShdG RunA RunB ShdA -/
import Derived.BigQuiet
import Derived.Deep.LoopGhost
import Derived.Deep.DeepCutAuto
import Derived.Deep.CutBlock
import Derived.Test.YtamhnffokoejjaaGreatDoorKnaf
import Derived.Test.YtamhnffokoejjaaGreatDoorKnad
import Derived.Test.YtamhnffokoejjaaGreatDoorRows
import Derived.LoopN
import Derived.Laws.StructEq
import Derived.Deep.QuietTactic
import Derived.Test.YtamhnffokoejjaaGreatDoorChecked
namespace Go.Proofs.YtamhnffokoejjaaGreatDoor
set_option linter.unusedSimpArgs false
set_option linter.unusedVariables false
set_option linter.unusedSectionVars false
open Go.RowKit
def goodS (s : Int) : Bool := decide (0 ≤ s ∧ s < 24)
theorem goodS_in {s : Int} (h : goodS s = true) : 0 ≤ s ∧ s < 24 := of_decide_eq_true h
abbrev I64s (x : Int) : Prop := -9223372036854775808 ≤ x ∧ x ≤ 9223372036854775807
def faceS (s : Int) : Int := if goodS s = true then s % 3 else 0
end Go.Proofs.YtamhnffokoejjaaGreatDoor
namespace Go.Proofs.YtamhnffokoejjaaGreatDoor
set_option linter.unusedSimpArgs false
set_option linter.unusedVariables false
set_option linter.unusedSectionVars false
open Go.RowKit
set_option maxRecDepth 100000 in
theorem refGoodS_any (s : Int) (w : World) (c : Bool) (hc : goodS s = c) (hs : I64s s) : Calls Tryz.prog 144 #[.int .i64 s] w fun e w' => e = .returned (.bool c) ∧ w = w' := by
  obtain ⟨s1, s2⟩ := hs
  by_cases q1 : s < 0
  · obtain rfl : false = c := by rw [← hc]; exact (decide_eq_false (by omega)).symm
    clear hc
    go_enter Tryz.func144, Tryz.ntmps144
    go_wp2_with fail
    go_ret
    exact ⟨rfl, rfl⟩
  · by_cases q2 : s < 24
    · obtain rfl : true = c := by rw [← hc]; exact (decide_eq_true ⟨by omega, q2⟩).symm
      clear hc
      go_enter Tryz.func144, Tryz.ntmps144
      go_wp2_with fail
      go_ret
      exact ⟨rfl, rfl⟩
    · obtain rfl : false = c := by rw [← hc]; exact (decide_eq_false (by omega)).symm
      have d2 : decide (s < 24) = false := decide_eq_false q2
      clear hc
      go_enter Tryz.func144, Tryz.ntmps144
      go_wp2_with fail
      go_ret
      exact ⟨rfl, rfl⟩
end Go.Proofs.YtamhnffokoejjaaGreatDoor
namespace Go.Proofs.YtamhnffokoejjaaGreatDoor
set_option linter.unusedSimpArgs false
set_option linter.unusedVariables false
set_option linter.unusedSectionVars false
abbrev Runs := List (Int × Int)
def fairR (r : Int × Int) : Bool := decide (1 ≤ r.1 ∧ r.1 ≤ 16777216) && goodS r.2
def oneR (r : Int × Int) : List Int := if fairR r then List.replicate r.1.toNat r.2 else []
def stylesR (l : Runs) : List Int := l.flatMap oneR
def consR (s : Int) : Runs → Runs
  | [] => [(1, s)]
  | (n, t) :: r => if t = s then (n + 1, t) :: r else (1, s) :: (n, t) :: r
def ofR : List Int → Runs
  | [] => []
  | s :: l => consR s (ofR l)
theorem consR_nil (s : Int) : consR s [] = [(1, s)] := rfl
theorem consR_cons (s n t : Int) (r : Runs) : consR s ((n, t) :: r) = if t = s then (n + 1, t) :: r else (1, s) :: (n, t) :: r := rfl
theorem stylesR_nil : stylesR [] = [] := rfl
theorem stylesR_cons (r : Int × Int) (l : Runs) : stylesR (r :: l) = oneR r ++ stylesR l := rfl
theorem stylesR_append (a b : Runs) : stylesR (a ++ b) = stylesR a ++ stylesR b := by unfold stylesR; rw [List.flatMap_append]
theorem oneR_length {r : Int × Int} : ((oneR r).length : Int) = if fairR r then r.1 else 0 := by
  unfold oneR
  split
  · rename_i h
    unfold fairR at h
    rw [Bool.and_eq_true, decide_eq_true_eq] at h
    rw [List.length_replicate]; omega
  · rfl
theorem fairR_in {r : Int × Int} (h : fairR r = true) : 1 ≤ r.1 ∧ r.1 ≤ 16777216 ∧ goodS r.2 = true := by
  unfold fairR at h
  rw [Bool.and_eq_true, decide_eq_true_eq] at h
  exact ⟨h.1.1, h.1.2, h.2⟩
theorem stylesR_good {l : Runs} {s : Int} (h : s ∈ stylesR l) : goodS s = true := by
  obtain ⟨r, _, hr⟩ := List.mem_flatMap.1 h
  unfold oneR at hr
  split at hr
  · rename_i hf
    rw [List.eq_of_mem_replicate hr]; exact (fairR_in hf).2.2
  · cases hr
theorem ofR_head (s : Int) (l : List Int) : ∃ n r, ofR (s :: l) = (n, s) :: r ∧ 1 ≤ n := by
  show ∃ n r, consR s (ofR l) = (n, s) :: r ∧ 1 ≤ n
  have key : ∀ (l : List Int) (m t : Int) (r : Runs), ofR l = (m, t) :: r → 1 ≤ m := by
    intro l
    induction l with
    | nil => intro m t r h; cases h
    | cons x l ih =>
      intro m t r h
      change consR x (ofR l) = _ at h
      cases hl : ofR l with
      | nil => rw [hl, consR_nil] at h; cases h; omega
      | cons y q =>
        obtain ⟨k, u⟩ := y
        rw [hl, consR_cons] at h
        split at h
        · cases h; have := ih _ _ _ hl; omega
        · cases h; omega
  cases hl : ofR l with
  | nil => exact ⟨1, [], rfl, by omega⟩
  | cons y q =>
    obtain ⟨k, u⟩ := y
    rw [consR_cons]
    split
    · rename_i h; exact ⟨k + 1, q, by rw [h], by have := key l k u q hl; omega⟩
    · exact ⟨1, _, rfl, by omega⟩
theorem ofR_nil {l : List Int} (h : ofR l = []) : l = [] := by
  cases l with
  | nil => rfl
  | cons s l => obtain ⟨n, r, e, _⟩ := ofR_head s l; rw [e] at h; cases h
theorem consR_length (s : Int) (r : Runs) : (consR s r).length ≤ r.length + 1 ∧ 1 ≤ (consR s r).length := by
  cases r with
  | nil => simp [consR]
  | cons y q =>
    obtain ⟨k, u⟩ := y
    rw [consR_cons]
    split <;> simp
theorem ofR_length : ∀ l : List Int, (ofR l).length ≤ l.length
  | [] => Nat.le_refl 0
  | s :: l => by
    have h1 := ofR_length l
    have h2 := (consR_length s (ofR l)).1
    show (consR s (ofR l)).length ≤ _
    rw [List.length_cons]; omega
theorem consR_styles {s : Int} {r : Runs} (hs : goodS s = true) (hf : ∀ x ∈ r, 1 ≤ x.1 ∧ goodS x.2 = true) (hl : ∀ x ∈ r, x.1 + 1 ≤ 16777216) : stylesR (consR s r) = s :: stylesR r := by
  have h1 : oneR (1, s) = [s] := by
    unfold oneR fairR
    rw [if_pos (by rw [hs]; rfl)]; rfl
  cases r with
  | nil => show oneR (1, s) ++ [] = _; rw [h1]; rfl
  | cons y q =>
    obtain ⟨k, u⟩ := y
    have hk := hf (k, u) (by simp)
    have hk2 := hl (k, u) (by simp)
    simp only at hk hk2
    rw [consR_cons]
    split
    · rename_i e
      subst e
      rw [stylesR_cons, stylesR_cons]
      unfold oneR fairR
      rw [if_pos (by simp only [hk.2, Bool.and_true]; exact decide_eq_true (by omega)), if_pos (by simp only [hk.2, Bool.and_true]; exact decide_eq_true (by omega))]
      simp only
      rw [show (k + 1).toNat = k.toNat + 1 by omega, List.replicate_succ, List.cons_append]
    · rw [stylesR_cons, h1]; rfl
theorem ofR_fair : ∀ {l : List Int}, (∀ s ∈ l, goodS s = true) → ∀ r ∈ ofR l, 1 ≤ r.1 ∧ r.1 ≤ l.length ∧ goodS r.2 = true
  | [], _, r, hr => by cases hr
  | s :: l, h, r, hr => by
    have ih := ofR_fair (l := l) (fun x hx => h x (List.mem_cons_of_mem _ hx))
    have hs := h s List.mem_cons_self
    change r ∈ consR s (ofR l) at hr
    rw [List.length_cons]
    cases hl : ofR l with
    | nil =>
      rw [hl] at hr
      cases List.mem_singleton.1 hr
      exact ⟨by omega, by omega, hs⟩
    | cons y q =>
      rw [hl] at hr ih
      obtain ⟨k, u⟩ := y
      have hy := ih (k, u) List.mem_cons_self
      simp only at hy
      rw [consR_cons] at hr
      split at hr
      · rcases List.mem_cons.1 hr with rfl | hr
        · exact ⟨by simp only; omega, by simp only; omega, hy.2.2⟩
        · have := ih r (List.mem_cons_of_mem _ hr); exact ⟨this.1, by omega, this.2.2⟩
      · rcases List.mem_cons.1 hr with rfl | hr
        · exact ⟨by simp only; omega, by simp only; omega, hs⟩
        · have := ih r hr; exact ⟨this.1, by omega, this.2.2⟩
theorem styles_of : ∀ {l : List Int}, (∀ s ∈ l, goodS s = true) → l.length ≤ 16777216 → stylesR (ofR l) = l
  | [], _, _ => rfl
  | s :: l, h, hl => by
    rw [List.length_cons] at hl
    have h' : ∀ x ∈ l, goodS x = true := fun x hx => h x (List.mem_cons_of_mem _ hx)
    show stylesR (consR s (ofR l)) = _
    rw [consR_styles (h s List.mem_cons_self) (fun x hx => ⟨(ofR_fair h' x hx).1, (ofR_fair h' x hx).2.2⟩) (fun x hx => by have := ofR_fair h' x hx; omega), styles_of h' (by omega)]
def sR (l : Runs) : List Int := if (stylesR l).length ≤ 16777216 then stylesR l else []
def tidyR (l : Runs) : Runs := ofR (sR l)
theorem sR_good {l : Runs} : ∀ s ∈ sR l, goodS s = true := by
  intro s hs
  unfold sR at hs
  split at hs
  · exact stylesR_good hs
  · cases hs
theorem sR_len (l : Runs) : (sR l).length ≤ 16777216 := by
  unfold sR
  split
  · rename_i h; exact h
  · exact Nat.zero_le _
theorem sR_small {l : Runs} (h : (stylesR l).length ≤ 16777216) : sR l = stylesR l := by unfold sR; rw [if_pos h]
def atR (l : Runs) (i : Int) : Int := if 0 ≤ i then (sR l).getD i.toNat 0 else 0
def setL (s : List Int) (f t style : Int) : List Int := s.take f.toNat ++ List.replicate (t - f).toNat style ++ s.drop t.toNat
def aheadL (s : List Int) (at_ : Int) : Int := s.getD (at_ - 1).toNat 0
def insL (s : List Int) (at_ n : Int) : List Int := s.take at_.toNat ++ List.replicate n.toNat (aheadL s at_) ++ s.drop at_.toNat
def delL (s : List Int) (at_ n : Int) : List Int := s.take at_.toNat ++ s.drop (at_ + n).toNat
def clampZ (n : Int) (k : Nat) : Nat := min n.toNat k
def partL (s : List Int) (f t : Int) : List Int := (s.take (clampZ t s.length)).drop (clampZ f s.length)
def setR (l : Runs) (f t style : Int) : Runs × Int := if f < 0 ∨ t < f ∨ ((sR l).length : Int) < t then ([], 1) else if goodS style then (ofR (setL (sR l) f t style), 0) else ([], 5)
def insR (l : Runs) (a n : Int) : Runs × Int := if a < 0 ∨ ((sR l).length : Int) < a ∨ n < 0 then ([], 1) else if 16777216 - ((sR l).length : Int) < n then ([], 2) else (ofR (insL (sR l) a n), 0)
def delR (l : Runs) (a n : Int) : Runs × Int := if a < 0 ∨ ((sR l).length : Int) < a ∨ n < 0 ∨ ((sR l).length : Int) - a < n then ([], 1) else (ofR (delL (sR l) a n), 0)
def partR (l : Runs) (f t : Int) : Runs := ofR (partL (sR l) f t)
end Go.Proofs.YtamhnffokoejjaaGreatDoor
namespace Go.Proofs.YtamhnffokoejjaaGreatDoor
set_option linter.unusedSimpArgs false
set_option linter.unusedVariables false
set_option linter.unusedSectionVars false
open Go.RowKit
def RRn (w : World) (v : Value) (l : Runs) : Prop := ∃ (A : Option Addr) (cap : Nat), v = .slice A l.length cap ∧ l.length ≤ cap ∧ (0 < l.length → ∃ b off, A = some ⟨b, off, none⟩ ∧ b < w.heap.size ∧ ∀ (j : Nat) (h : j < l.length), w.cell? ⟨b, off + j * 2, none⟩ = some (.int .i64 l[j].1) ∧ w.cell? ⟨b, off + j * 2 + 1, none⟩ = some (.int .i64 l[j].2))
theorem RRn.later {w w' : World} {v : Value} {l : Runs} (h : RRn w v l) (ha : AnyLater w w') : RRn w' v l := by
  obtain ⟨A, cap, h1, h2, h3⟩ := h
  refine ⟨A, cap, h1, h2, fun h0 => ?_⟩
  obtain ⟨b, off, e, hb, hc⟩ := h3 h0
  exact ⟨b, off, e, Nat.lt_of_lt_of_le hb ha.below.size, fun j hj => ⟨(ha.below.cell hb).trans (hc j hj).1, (ha.below.cell hb).trans (hc j hj).2⟩⟩
def flatN (l : Runs) : List Value := l.flatMap fun b => [.int .i64 b.1, .int .i64 b.2]
theorem flatN_nil : flatN [] = [] := rfl
theorem flatN_cons (b : Int × Int) (l : Runs) : flatN (b :: l) = .int .i64 b.1 :: .int .i64 b.2 :: flatN l := rfl
theorem flatN_append (a b : Runs) : flatN (a ++ b) = flatN a ++ flatN b := by unfold flatN; rw [List.flatMap_append]
theorem flatN_length : ∀ l : Runs, (flatN l).length = l.length * 2
  | [] => rfl
  | b :: l => by rw [flatN_cons, List.length_cons, List.length_cons, flatN_length l, List.length_cons]; omega
theorem flatN_0 : ∀ (l : Runs) (j : Nat), (flatN l)[j * 2]? = (l[j]?).map fun b => .int .i64 b.1
  | [], j => by simp [flatN_nil]
  | b :: l, 0 => rfl
  | b :: l, j + 1 => by
    rw [flatN_cons, show (j + 1) * 2 = j * 2 + 1 + 1 by omega, List.getElem?_cons_succ, List.getElem?_cons_succ, flatN_0 l j, List.getElem?_cons_succ]
theorem flatN_1 : ∀ (l : Runs) (j : Nat), (flatN l)[j * 2 + 1]? = (l[j]?).map fun b => .int .i64 b.2
  | [], j => by simp [flatN_nil]
  | b :: l, 0 => rfl
  | b :: l, j + 1 => by
    rw [flatN_cons, show (j + 1) * 2 + 1 = j * 2 + 1 + 1 + 1 by omega, List.getElem?_cons_succ, List.getElem?_cons_succ, flatN_1 l j, List.getElem?_cons_succ]
theorem flatN_one (l : Runs) : ∀ u ∈ flatN l, u.oneCell' = true := by
  intro u hu
  obtain ⟨b, _, hb⟩ := List.mem_flatMap.1 hu
  rcases List.mem_cons.1 hb with rfl | hb
  · rfl
  · rcases List.mem_cons.1 hb with rfl | hb
    · rfl
    · cases hb
def ORn (w : World) (B : Nat) (v : Value) (l : Runs) : Prop := w.ownsRow B 76 2 v l.length (flatN l)
theorem ORn.reads {w : World} {B : Nat} {v : Value} {l : Runs} (h : ORn w B v l) : RRn w v l := by
  rcases h.2 with ⟨rfl, h0⟩ | ⟨g, cap, cur, rfl, h2, h3, h4, h5, h6, h7⟩
  · refine ⟨none, 0, by rw [h0], by omega, fun hp => by omega⟩
  · refine ⟨some ⟨g, 0, none⟩, cap, rfl, h4, fun _ => ⟨g, 0, rfl, own_lt h3, fun j hj => ?_⟩⟩
    have e : ∀ k, k < l.length * 2 → cur[k]? = (flatN l)[k]? := fun k hk => by
      have : (cur.toList.take (l.length * 2))[k]? = (flatN l)[k]? := by rw [h7]
      rw [List.getElem?_take_of_lt hk] at this
      simpa using this
    rw [Nat.zero_add, own_row h3, own_row h3, e _ (by omega), e _ (by omega), flatN_0, flatN_1, List.getElem?_eq_getElem hj]
    exact ⟨rfl, rfl⟩
theorem ORn.later {w w' : World} {B : Nat} {v : Value} {l : Runs} (h : ORn w B v l) (ha : AnyLater w w') : ORn w' B v l := owns_later ha h
theorem RRn.cells {w w' : World} {b off : Nat} {l : Runs} (ha : AnyLater w w') (hb : 0 < l.length → b < w.heap.size) (hc : ∀ (j : Nat) (h : j < l.length), w.cell? ⟨b, off + j * 2, none⟩ = some (.int .i64 l[j].1) ∧ w.cell? ⟨b, off + j * 2 + 1, none⟩ = some (.int .i64 l[j].2)) :
    ∀ (j : Nat) (u : Value), (flatN l)[j]? = some u → w'.cell? ((⟨b, off, none⟩ : Addr).add j) = some u := by
  intro j u hu
  have hadd : (⟨b, off, none⟩ : Addr).add j = ⟨b, off + j, none⟩ := by unfold Addr.add; split <;> simp_all
  have hj : j < l.length * 2 := by
    rcases Nat.lt_or_ge j (l.length * 2) with h | h
    · exact h
    · rw [List.getElem?_eq_none (by rw [flatN_length]; exact h)] at hu; cases hu
  have hk : j / 2 < l.length := by omega
  rw [hadd, ha.below.cell (hb (by omega))]
  rcases Nat.mod_two_eq_zero_or_one j with hm | hm
  · have e : j = j / 2 * 2 := by omega
    rw [e] at hu ⊢
    rw [flatN_0, List.getElem?_eq_getElem hk] at hu
    rw [(hc _ hk).1]; exact hu
  · have e : j = j / 2 * 2 + 1 := by omega
    rw [e] at hu ⊢
    rw [flatN_1, List.getElem?_eq_getElem hk] at hu
    rw [← Nat.add_assoc, (hc _ hk).2]; exact hu
theorem info_run : (Tryz.prog.info? 76).map (fun i => (i.zero, i.size, i.bytes)) = some (some (.agg #[.int .i64 0, .int .i64 0]), 2, 16) := by kernel_rfl
def RowN (W : World) (l : Runs) (e : Ending) (w' : World) : Prop := ∃ v, e = .returned v ∧ AnyLater W w' ∧ ORn w' W.heap.size v l
theorem stood_run : Tryz.prog.stoodInHeld 76 = false := by kernel_rfl
theorem fields_run : Tryz.prog.underlying 76 = some (.struct (Tryz.prog.fieldsOf 76)) := by kernel_rfl
theorem guard_run : Tryz.prog.eqGuardType Tryz.prog.depth 76 = false := by kernel_rfl
theorem eqRun (a b c d : Int) (w : World) : (Op.equalIn 10000 76 (.agg #[.int .i64 a, .int .i64 b]) (.agg #[.int .i64 c, .int .i64 d])).run Tryz.prog w = .ok (a == c && b == d) w := by
  rw [run_equalIn_agg w 9999 _ _ _ fields_run stood_run]
  by_cases h1 : a = c
  · by_cases h2 : b = d
    · simp [go_sem, h1, h2]
    · simp [go_sem, h1, h2]
  · simp [go_sem, h1]
theorem neqRun (a b c d : Int) (w : World) : (binOp .neq 76 (.agg #[.int .i64 a, .int .i64 b]) (.agg #[.int .i64 c, .int .i64 d])).run Tryz.prog w = .ok (.bool (!(a == c && b == d))) w := by
  rw [run_neq_struct, eqRun]; rfl
end Go.Proofs.YtamhnffokoejjaaGreatDoor
namespace Go.Proofs.YtamhnffokoejjaaGreatDoor
set_option linter.unusedSimpArgs false
set_option linter.unusedVariables false
set_option linter.unusedSectionVars false
open Go.RowKit
set_option maxRecDepth 100000 in
theorem refFaceS_any (s : Int) (w : World) (c : Int) (hc : faceS s = c) (hs : I64s s) : Calls Tryz.prog 139 #[.int .i64 s] w fun e w' => e = .returned (.int .i64 c) ∧ w = w' := by
  rcases hg : goodS s
  · have HG := Lib.hid (fun w => refGoodS_any s w false hg hs)
    have HC : Hid (0 = c) := Lib.hid (by rw [← hc]; unfold faceS; rw [hg]; rfl)
    clear hc hg
    obtain ⟨s1, s2⟩ := hs
    go_enter Tryz.func139, Tryz.ntmps139
    go_wp2_with (go_at_call 144; refine (HG.out _).mono ?_; rintro e w' ⟨rfl, rfl⟩)
    go_ret
    exact ⟨ret_int HC.out, rfl⟩
  · have HG := Lib.hid (fun w => refGoodS_any s w true hg hs)
    have HC : Hid (s % 3 = c) := Lib.hid (by rw [← hc]; unfold faceS; rw [hg]; rfl)
    obtain ⟨s1, s2⟩ := goodS_in hg
    clear hc hg hs
    go_enter Tryz.func139, Tryz.ntmps139
    go_wp2_with (go_at_call 144; refine (HG.out _).mono ?_; rintro e w' ⟨rfl, rfl⟩)
    go_ret
    exact ⟨ret_int HC.out, rfl⟩
end Go.Proofs.YtamhnffokoejjaaGreatDoor
