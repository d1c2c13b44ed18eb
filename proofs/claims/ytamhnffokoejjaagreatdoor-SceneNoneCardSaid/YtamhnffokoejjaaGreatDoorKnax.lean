/- what the proof stands on: RunD RunF RunP RunQ RunR CelA -/
import Derived.Lib.AppendZeros
import Derived.Test.YtamhnffokoejjaaGreatDoorKnaw
import Derived.Deep.RegionHeld
import Derived.LoopN
import Derived.BigRegion
import Derived.RegionTactic
import Derived.BigQuiet
import Derived.Test.YtamhnffokoejjaaGreatDoorKnam
import Derived.Test.YtamhnffokoejjaaGreatDoorKnaq
namespace Go.Proofs.YtamhnffokoejjaaGreatDoor
set_option linter.unusedSimpArgs false
set_option linter.unusedVariables false
set_option linter.unusedSectionVars false
open Go.RowKit
theorem flatN_set0 : ∀ (l : Runs) (j : Nat) (t : Int), (flatN l).set (j * 2) (.int .i64 t) = flatN (l.modify j fun b => (t, b.2))
  | [], j, t => by simp [flatN_nil]
  | b :: l, 0, t => rfl
  | b :: l, j + 1, t => by
    rw [flatN_cons, show (j + 1) * 2 = j * 2 + 1 + 1 by omega, List.set_cons_succ, List.set_cons_succ, flatN_set0 l j t, List.modify_succ_cons, flatN_cons]
theorem ofR_le : ∀ (l : List Int), ∀ r ∈ ofR l, 1 ≤ r.1 ∧ r.1 ≤ l.length
  | [], r, hr => by cases hr
  | s :: l, r, hr => by
    have ih := ofR_le l
    change r ∈ consR s (ofR l) at hr
    rw [List.length_cons]
    cases hl : ofR l with
    | nil =>
      rw [hl, consR_nil] at hr
      cases List.mem_singleton.1 hr
      exact ⟨by omega, by omega⟩
    | cons y q =>
      rw [hl] at hr ih
      obtain ⟨k, u⟩ := y
      have hy := ih (k, u) List.mem_cons_self
      simp only at hy
      rw [consR_cons] at hr
      split at hr
      · rcases List.mem_cons.1 hr with rfl | hr
        · exact ⟨by simp only; omega, by simp only; omega⟩
        · have := ih r (List.mem_cons_of_mem _ hr); exact ⟨this.1, by omega⟩
      · rcases List.mem_cons.1 hr with rfl | hr
        · exact ⟨by simp only; omega, by simp only; omega⟩
        · have := ih r hr; exact ⟨this.1, by omega⟩
theorem rown_store {w : World} {B : Nat} {e : TypeId} {size n cap g i : Nat} {xs : List Value} {x : Value} (o : w.ownsRow B e size (.slice (some ⟨g, 0, none⟩) n cap) n xs) (hi : i < xs.length) : (w.setCell ⟨g, i, none⟩ x).ownsRow B e size (.slice (some ⟨g, 0, none⟩) n cap) n (xs.set i x) := by
  refine ⟨by rw [List.length_set]; exact o.1, ?_⟩
  rcases o.2 with ⟨h1, _⟩ | ⟨g', cap', cur, h1, h2, h3, h4, h5, h6, h7⟩
  · cases h1
  · obtain ⟨rfl, rfl⟩ : g' = g ∧ cap' = cap := by cases h1; exact ⟨rfl, rfl⟩
    refine .inr ⟨g', cap', cur.setIfInBounds i x, rfl, h2, heap_at h3 rfl, h4, h5, by simpa using h6, ?_⟩
    rw [Array.toList_setIfInBounds, List.take_set, h7]
theorem ORn.last {w : World} {B m : Nat} {v : Value} {l : Runs} (o : ORn w B v l) (hn : l.length = m + 1) :
    ∃ g cap t, v = .slice (some ⟨g, 0, none⟩) (m + 1) cap ∧ B ≤ g ∧ g < w.heap.size ∧ w.cell? ⟨g, m * 2, none⟩ = some (.int .i64 t) ∧ (∃ s, l[m]? = some (t, s)) ∧ w.frozen? ⟨g, m * 2, none⟩ = false ∧
    ∀ x : Int, ORn (w.setCell ⟨g, m * 2, none⟩ (.int .i64 x)) B (.slice (some ⟨g, 0, none⟩) (m + 1) cap) (l.modify m fun b => (x, b.2)) := by
  have o' := o
  rcases o.2 with ⟨_, h0⟩ | ⟨g, cap, cur, rfl, h2, h3, h4, h5, h6, h7⟩
  · omega
  · rw [hn] at h4 h7
    have hm : m < l.length := by omega
    have e : cur[m * 2]? = (flatN l)[m * 2]? := by
      have : (cur.toList.take ((m + 1) * 2))[m * 2]? = (flatN l)[m * 2]? := by rw [h7]
      rw [List.getElem?_take_of_lt (by omega)] at this
      simpa using this
    refine ⟨g, cap, l[m].1, by rw [hn], h2, own_lt h3, by rw [own_row h3, e, flatN_0, List.getElem?_eq_getElem hm]; rfl, ⟨l[m].2, by rw [List.getElem?_eq_getElem hm]⟩, own_free h3 _, fun x => ?_⟩
    unfold ORn at o'
    rw [hn] at o'
    have o2 := rown_store (x := .int .i64 x) (i := m * 2) o' (by rw [flatN_length]; omega)
    unfold ORn
    rw [List.length_modify, hn, ← flatN_set0]
    exact o2
end Go.Proofs.YtamhnffokoejjaaGreatDoor
namespace Go.Proofs.YtamhnffokoejjaaGreatDoor
set_option linter.unusedSimpArgs false
set_option linter.unusedVariables false
set_option linter.unusedSectionVars false
open Go.RowKit
def RRt (w : World) (v : Value) (l : Runs) : Prop := RRn w v l ∧ ∀ b, vblk v = some b → ∃ cs, w.heap[b]? = some (.cells cs 76)
theorem RRt.later {w w' : World} {v : Value} {l : Runs} (h : RRt w v l) (ha : AnyLater w w') : RRt w' v l := ⟨h.1.later ha, fun b hb => by
  obtain ⟨cs, hcs⟩ := h.2 b hb
  exact ⟨cs, any_own ha hcs⟩⟩
theorem ORn.typed {w : World} {B : Nat} {v : Value} {l : Runs} (h : ORn w B v l) : RRt w v l := ⟨h.reads, fun b hb => by
  rcases h.2 with ⟨rfl, _⟩ | ⟨g, cap, cur, rfl, h2, h3, _⟩
  · cases hb
  · cases hb
    exact ⟨cur, h3⟩⟩
def Tells1 (W : World) (m : Runs) (e : Ending) (w' : World) : Prop := ∃ u, e = .returned u ∧ AnyLater W w' ∧ RRt w' u m
def Tells2 (W : World) (m : Runs) (c : Int) (e : Ending) (w' : World) : Prop := ∃ u, e = .returned (.tuple #[u, .int .i64 c]) ∧ AnyLater W w' ∧ RRt w' u m
def Asks (w : World) (v : Value) (l : Runs) : Prop := RRt w v l ∧ NumsR l ∧ l.length ≤ 40000
structure RSays : Prop where
  good : ∀ {w : World} {v : Value} (l : Runs) (c : Bool), decide (tidyR l = l) = c → Asks w v l → Calls Tryz.prog 64 #[v] w fun e w' => e = .returned (.bool c) ∧ AnyLater w w'
  tidy : ∀ {w : World} {v : Value} (l m : Runs), tidyR l = m → Asks w v l → Calls Tryz.prog 35 #[v] w (Tells1 w m)
  len : ∀ {w : World} {v : Value} (l : Runs) (n : Nat), (sR l).length = n → Asks w v l → Calls Tryz.prog 65 #[v] w fun e w' => e = .returned (.int .i64 (n : Int)) ∧ AnyLater w w'
  style : ∀ {w : World} {v : Value} (l : Runs) (i c : Int), atR l i = c → Asks w v l → I64s i → Calls Tryz.prog 171 #[v, .int .i64 i] w fun e w' => e = .returned (.int .i64 c) ∧ AnyLater w w'
  set : ∀ {w : World} {v : Value} (l m : Runs) (f t s c : Int), setR l f t s = (m, c) → Asks w v l → I64s f → I64s t → I64s s → Calls Tryz.prog 84 #[v, .int .i64 f, .int .i64 t, .int .i64 s] w (Tells2 w m c)
  ins : ∀ {w : World} {v : Value} (l m : Runs) (a n c : Int), insR l a n = (m, c) → Asks w v l → I64s a → I64s n → Calls Tryz.prog 123 #[v, .int .i64 a, .int .i64 n] w (Tells2 w m c)
  del : ∀ {w : World} {v : Value} (l m : Runs) (a n c : Int), delR l a n = (m, c) → Asks w v l → I64s a → I64s n → Calls Tryz.prog 122 #[v, .int .i64 a, .int .i64 n] w (Tells2 w m c)
  part : ∀ {w : World} {v : Value} (l m : Runs) (f t : Int), partR l f t = m → Asks w v l → I64s f → I64s t → Calls Tryz.prog 128 #[v, .int .i64 f, .int .i64 t] w (Tells1 w m)
theorem goodS_i64 {s : Int} (h : goodS s = true) : I64s s := by have := goodS_in h; constructor <;> omega
theorem nums_of {l : List Int} (h : ∀ s ∈ l, goodS s = true) (hl : l.length ≤ 16777216) : NumsR (ofR l) := fun r hr => by
  have := ofR_fair h r hr
  exact ⟨by constructor <;> omega, goodS_i64 this.2.2⟩
end Go.Proofs.YtamhnffokoejjaaGreatDoor
namespace Go.Proofs.YtamhnffokoejjaaGreatDoor
set_option linter.unusedSimpArgs false
set_option linter.unusedVariables false
set_option linter.unusedSectionVars false
open Go.RowKit
theorem pgood_any (s : Int) (w : World) (c : Bool) (hc : goodS s = c) : Calls Tryz.prog 126 #[.int .i64 s] w fun e w' => e = .returned (.bool c) ∧ w = w' := by
  subst hc
  by_cases h1 : 0 ≤ s
  · by_cases h2 : s ≤ 23
    · have Q : Hid (goodS s = true) := Lib.hid (by unfold goodS; simp; omega)
      go_enter Tryz.func126, Tryz.ntmps126
      go_wp2
      go_ret
      exact ⟨ret_bool (by rw [Q.out]), rfl⟩
    · have Q : Hid (goodS s = false) := Lib.hid (by unfold goodS; simp; omega)
      have h3 : decide (s ≤ 23) = false := decide_eq_false h2
      go_enter Tryz.func126, Tryz.ntmps126
      go_wp2
      go_ret
      exact ⟨ret_bool (by rw [Q.out]), rfl⟩
  · have Q : Hid (goodS s = false) := Lib.hid (by unfold goodS; simp; omega)
    have h3 : decide (0 ≤ s) = false := decide_eq_false h1
    go_enter Tryz.func126, Tryz.ntmps126
    go_wp2
    go_ret
    exact ⟨ret_bool (by rw [Q.out]), rfl⟩
theorem ret_i64 {a b : Int} (h : a = b) : Ending.returned (.int .i64 a) = .returned (.int .i64 b) := by rw [h]
def clampI (n low high : Int) : Int := if n < low ∨ high < low then low else if high < n then high else n
theorem pclamp_any (n low high : Int) (w : World) (c : Int) (hc : clampI n low high = c) :
    Calls Tryz.prog 89 #[.int .i64 n, .int .i64 low, .int .i64 high] w fun e w' => e = .returned (.int .i64 c) ∧ w = w' := by
  subst hc
  by_cases h1 : n < low
  · have Q : Hid (low = clampI n low high) := Lib.hid (by unfold clampI; rw [if_pos (.inl h1)])
    go_enter Tryz.func89, Tryz.ntmps89
    go_wp2
    go_ret
    exact ⟨ret_i64 Q.out, rfl⟩
  · by_cases h2 : high < low
    · have Q : Hid (low = clampI n low high) := Lib.hid (by unfold clampI; rw [if_pos (.inr h2)])
      go_enter Tryz.func89, Tryz.ntmps89
      go_wp2
      go_ret
      exact ⟨ret_i64 Q.out, rfl⟩
    · by_cases h3 : high < n
      · have Q : Hid (high = clampI n low high) := Lib.hid (by unfold clampI; rw [if_neg (by omega), if_pos h3])
        go_enter Tryz.func89, Tryz.ntmps89
        go_wp2
        go_ret
        exact ⟨ret_i64 Q.out, rfl⟩
      · have Q : Hid (n = clampI n low high) := Lib.hid (by unfold clampI; rw [if_neg (by omega), if_neg h3])
        go_enter Tryz.func89, Tryz.ntmps89
        go_wp2
        go_ret
        exact ⟨ret_i64 Q.out, rfl⟩
def Span3 (a n all : Int) : Prop := 0 ≤ a ∧ a ≤ all ∧ 0 ≤ n ∧ n ≤ all - a
theorem pspan_yes (a n all : Int) (w : World) (h : Span3 a n all) (ha : all ≤ 16777216) :
    Calls Tryz.prog 78 #[.int .i64 a, .int .i64 n, .int .i64 all] w fun e w' => e = .returned (.tuple #[.int .i64 a, .int .i64 (a + n), .bool true]) ∧ w = w' := by
  obtain ⟨h1, h2, h3, h4⟩ := h
  go_enter Tryz.func78, Tryz.ntmps78
  go_wp2
  refine bodyPost_ret (v := .tuple #[.int .i64 a, .int .i64 (a + n), .bool true]) (by simp [results, Tryz.results78, go_sem]) rfl ?_
  exact ⟨rfl, rfl⟩
theorem pspan_no (a n all : Int) (w : World) (h : ¬ Span3 a n all) (ha : all ≤ 16777216) (h0 : 0 ≤ all) :
    Calls Tryz.prog 78 #[.int .i64 a, .int .i64 n, .int .i64 all] w fun e w' => e = .returned (.tuple #[.int .i64 0, .int .i64 0, .bool false]) ∧ w = w' := by
  by_cases h1 : a < 0
  · clear h
    go_enter Tryz.func78, Tryz.ntmps78
    go_wp2
    refine bodyPost_ret (v := .tuple #[.int .i64 0, .int .i64 0, .bool false]) (by simp [results, Tryz.results78, go_sem]) rfl ?_
    exact ⟨rfl, rfl⟩
  · by_cases h2 : all < a
    · clear h
      go_enter Tryz.func78, Tryz.ntmps78
      go_wp2
      refine bodyPost_ret (v := .tuple #[.int .i64 0, .int .i64 0, .bool false]) (by simp [results, Tryz.results78, go_sem]) rfl ?_
      exact ⟨rfl, rfl⟩
    · by_cases h3 : n < 0
      · clear h
        go_enter Tryz.func78, Tryz.ntmps78
        go_wp2
        refine bodyPost_ret (v := .tuple #[.int .i64 0, .int .i64 0, .bool false]) (by simp [results, Tryz.results78, go_sem]) rfl ?_
        exact ⟨rfl, rfl⟩
      · have h4 : all - a < n := by unfold Span3 at h; omega
        clear h
        go_enter Tryz.func78, Tryz.ntmps78
        go_wp2
        refine bodyPost_ret (v := .tuple #[.int .i64 0, .int .i64 0, .bool false]) (by simp [results, Tryz.results78, go_sem]) rfl ?_
        exact ⟨rfl, rfl⟩
set_option maxRecDepth 100000 in
set_option maxHeartbeats 1600000 in
theorem kept_any (n s : Int) (w : World) (c : Bool) (hc : fairR (n, s) = c) (hn : I64s n) (hs : I64s s) : Calls Tryz.prog 88 #[.agg #[.int .i64 n, .int .i64 s]] w fun e w' => e = .returned (.bool c) ∧ AnyLater w w' := by
  have hc := fairR_split n s c hc
  have HG := Lib.hid (fun w => pgood_any s w _ rfl)
  have HC := Lib.hid hc
  generalize goodS s = g at *
  obtain ⟨n1, n2⟩ := hn
  obtain ⟨s1, s2⟩ := hs
  clear hc
  by_cases q1 : 1 ≤ n
  · by_cases q2 : n ≤ 16777216
    · have HC2 : Hid (g = c) := Lib.hid (by rw [← HC.out]; simp [q1, q2])
      go_enter Tryz.func88, Tryz.ntmps88
      go_wp2_with (go_at_call 126; refine (HG.out _).mono ?_; rintro e w' ⟨rfl, rfl⟩)
      go_ret
      exact ⟨ret_bool HC2.out, by repeat' (first | with_reducible assumption | with_reducible exact AnyLater.refl _ | with_reducible apply AnyLater.setCell | with_reducible apply AnyLater.later | with_reducible apply AnyLater.drewN | with_reducible apply AnyLater.drew | with_reducible apply AnyLater.alloc | ((try simp only [World.size_alloc, World.size_setCell, World.size_drew]); (try dsimp only); omega))⟩
    · have HC2 : Hid (false = c) := Lib.hid (by rw [← HC.out]; simp [q2])
      have d2 : decide (n ≤ 16777216) = false := decide_eq_false q2
      go_enter Tryz.func88, Tryz.ntmps88
      go_wp2_with fail
      go_ret
      exact ⟨ret_bool HC2.out, by repeat' (first | with_reducible assumption | with_reducible exact AnyLater.refl _ | with_reducible apply AnyLater.setCell | with_reducible apply AnyLater.later | with_reducible apply AnyLater.drewN | with_reducible apply AnyLater.drew | with_reducible apply AnyLater.alloc | ((try simp only [World.size_alloc, World.size_setCell, World.size_drew]); (try dsimp only); omega))⟩
  · have HC2 : Hid (false = c) := Lib.hid (by rw [← HC.out]; simp [q1])
    have d1 : decide (1 ≤ n) = false := decide_eq_false q1
    go_enter Tryz.func88, Tryz.ntmps88
    go_wp2_with fail
    go_ret
    exact ⟨ret_bool HC2.out, by repeat' (first | with_reducible assumption | with_reducible exact AnyLater.refl _ | with_reducible apply AnyLater.setCell | with_reducible apply AnyLater.later | with_reducible apply AnyLater.drewN | with_reducible apply AnyLater.drew | with_reducible apply AnyLater.alloc | ((try simp only [World.size_alloc, World.size_setCell, World.size_drew]); (try dsimp only); omega))⟩
end Go.Proofs.YtamhnffokoejjaaGreatDoor
namespace Go.Proofs.YtamhnffokoejjaaGreatDoor
set_option linter.unusedSimpArgs false
set_option linter.unusedVariables false
set_option linter.unusedSectionVars false
open Go.RowKit
def addR : Runs → Int × Int → Runs
  | [], p => [p]
  | [q], p => if q.2 = p.2 then [(q.1 + p.1, q.2)] else [q, p]
  | q :: r :: l, p => q :: addR (r :: l) p
theorem consR_addR (x : Int) (p : Int × Int) : ∀ m : Runs, consR x (addR m p) = addR (consR x m) p
  | [] => by
    obtain ⟨n, t⟩ := p
    show consR x [(n, t)] = addR [(1, x)] (n, t)
    rw [consR_cons]
    unfold addR
    by_cases h : t = x
    · rw [if_pos h, if_pos (by exact h.symm), Int.add_comm, h]
    · rw [if_neg h, if_neg (by exact fun e => h e.symm)]
  | [q] => by
    obtain ⟨k, u⟩ := q
    obtain ⟨n, t⟩ := p
    rw [consR_cons]
    by_cases h : u = t
    · subst h
      by_cases h2 : u = x
      · subst h2
        simp [addR, consR, Int.add_right_comm]
      · simp [addR, consR, h2]
    · by_cases h2 : u = x
      · subst h2
        simp [addR, consR, h]
      · simp [addR, consR, h, h2]
  | (k, u) :: r :: l => by
    show consR x ((k, u) :: addR (r :: l) p) = _
    rw [consR_cons, consR_cons]
    by_cases h : u = x
    · rw [if_pos h, if_pos h]; rfl
    · rw [if_neg h, if_neg h]; rfl
theorem ofR_same (s : Int) : ∀ n : Nat, ofR (List.replicate (n + 1) s) = [(((n + 1 : Nat) : Int), s)]
  | 0 => rfl
  | n + 1 => by
    rw [List.replicate_succ]
    show consR s (ofR (List.replicate (n + 1) s)) = _
    rw [ofR_same s n, consR_cons, if_pos rfl]
    rfl
theorem ofR_add (s : Int) (n : Nat) : ∀ A : List Int, ofR (A ++ List.replicate (n + 1) s) = addR (ofR A) (((n + 1 : Nat) : Int), s)
  | [] => ofR_same s n
  | x :: A => by
    show consR x (ofR (A ++ List.replicate (n + 1) s)) = addR (consR x (ofR A)) _
    rw [ofR_add s n A, consR_addR]
theorem addR_len (p : Int × Int) : ∀ m : Runs, (addR m p).length ≤ m.length + 1
  | [] => Nat.le_refl 1
  | [q] => by unfold addR; split <;> simp
  | q :: r :: l => by
    have := addR_len p (r :: l)
    show (addR (r :: l) p).length + 1 ≤ (r :: l).length + 1 + 1
    omega
theorem addR_new (p : Int × Int) : ∀ m : Runs, (∀ q, m.getLast? = some q → q.2 ≠ p.2) → addR m p = m ++ [p]
  | [], _ => rfl
  | [q], h => by unfold addR; rw [if_neg (h q rfl)]; rfl
  | q :: r :: l, h => by
    show q :: addR (r :: l) p = q :: ((r :: l) ++ [p])
    rw [addR_new p (r :: l) (fun x hx => h x (by rw [List.getLast?_cons_cons]; exact hx))]
theorem addR_grow (n s t : Int) : ∀ (k : Nat) (m : Runs), m.length = k + 1 → m[k]? = some (t, s) → addR m (n, s) = m.modify k fun b => (t + n, b.2)
  | 0, [q], _, h => by
    cases h
    simp [addR]
  | k + 1, q :: r :: l, hl, h => by
    show q :: addR (r :: l) (n, s) = _
    rw [addR_grow n s t k (r :: l) (by simpa using hl) (by simpa using h), List.modify_succ_cons]
  | 0, q :: r :: l, hl, _ => by simp at hl
  | k + 1, [q], hl, _ => by simp at hl
theorem oneR_yes {n s : Int} (h : fairR (n, s) = true) : oneR (n, s) = List.replicate ((n - 1).toNat + 1) s ∧ (((n - 1).toNat + 1 : Nat) : Int) = n := by
  obtain ⟨h1, h2, _⟩ := fairR_in h
  simp only at h1 h2
  have e : n.toNat = (n - 1).toNat + 1 := by omega
  refine ⟨?_, by omega⟩
  unfold oneR
  rw [if_pos h]
  show List.replicate n.toNat s = _
  rw [e]
theorem oneR_no {n s : Int} (h : fairR (n, s) = false) : oneR (n, s) = [] := by
  unfold oneR
  rw [h]; rfl
theorem ofR_step {D : List Int} {n s : Int} (h : fairR (n, s) = true) : ofR (D ++ oneR (n, s)) = addR (ofR D) (n, s) := by
  obtain ⟨h1, h2⟩ := oneR_yes h
  rw [h1, ofR_add, h2]
theorem ofR_take_le (l : Runs) : ∀ j, j ≤ l.length → (ofR (stylesR (l.take j))).length ≤ j
  | 0, _ => by simp [stylesR, ofR]
  | j + 1, hj => by
    have ih := ofR_take_le l j (by omega)
    rw [styles_take (show j < l.length by omega)]
    obtain ⟨n, s⟩ := l[j]
    cases h : fairR (n, s) with
    | true => rw [ofR_step h]; have := addR_len (n, s) (ofR (stylesR (l.take j))); omega
    | false => rw [oneR_no h, List.append_nil]; omega
theorem tidyR_le (l : Runs) : (tidyR l).length ≤ l.length := by
  unfold tidyR sR
  split
  · have := ofR_take_le l l.length (Nat.le_refl _); rwa [List.take_of_length_le (Nat.le_refl _)] at this
  · exact Nat.zero_le _
theorem box_cells {w w1 : World} {x y : Value} {t : TypeId} (h : AnyLater (w.alloc (.cells #[x, y] t)) w1) : w1.cell? ⟨w.heap.size, 0, none⟩ = some x ∧ w1.cell? ⟨w.heap.size, 1, none⟩ = some y := by
  have h3 : (w.alloc (.cells #[x, y] t)).heap[w.heap.size]? = some (.cells #[x, y] t) := heap_new rfl
  exact ⟨(h.below.cell (own_lt h3)).trans (by rw [own_row h3]; rfl), (h.below.cell (own_lt h3)).trans (by rw [own_row h3]; rfl)⟩
theorem sR_over {l : Runs} {j : Nat} (h : 16777216 < (stylesR (l.take j)).length) : sR l = [] := by
  unfold sR
  rw [if_neg (by have := styles_le l j; omega)]
set_option maxRecDepth 100000 in
set_option maxHeartbeats 3200000 in
theorem plen_some (b off n cap : Nat) (l : Runs) (w : World) (c : Nat) (hcc : (sR l).length = c) (hl : l.length = n) (hn : n ≤ 90000) (hN : NumsR l) (hb : b < w.heap.size) (hc : ∀ (j : Nat) (h : j < l.length), w.cell? ⟨b, off + j * 2, none⟩ = some (.int .i64 l[j].1) ∧ w.cell? ⟨b, off + j * 2 + 1, none⟩ = some (.int .i64 l[j].2)) :
    Calls Tryz.prog 65 #[.slice (some ⟨b, off, none⟩) n cap] w fun e w' => e = .returned (.int .i64 (c : Int)) ∧ AnyLater w w' := by
  have HL := Lib.hid hl
  have HC := Lib.hid hc
  have HCC := Lib.hid hcc
  have HNN := Lib.hid hN
  clear hl hc hcc hN
  go_enter Tryz.func65, Tryz.ntmps65
  go_wp2_with fail
  go_loopg [3, 8] n (fun k s i wr => AnyLater w wr ∧ ∃ j : Nat, k = n - j ∧ j ≤ n ∧ i = .int .i64 j ∧ ∃ t : Nat, s = .int .i64 t ∧ (stylesR (l.take j)).length = t ∧ t ≤ 16777216)
  case atStart => exact ⟨AnyLater.refl _, 0, by omega, by omega, rfl, 0, rfl, rfl, by omega⟩
  case round =>
    obtain ⟨a_wr, j, hk, hj, rfl, t, rfl, ht, ht4⟩ := hrel
    have HT := Lib.hid ht
    have HA := Lib.hid a_wr
    clear ht
    by_cases hlt : j < n
    · have lj : j < l.length := by rw [HL.out]; exact hlt
      have c0 : wr.cell? ⟨b, off + j * 2, none⟩ = some (.int .i64 l[j].1) := (a_wr.below.cell hb).trans (HC.out j lj).1
      have c1 : wr.cell? ⟨b, off + j * 2 + 1, none⟩ = some (.int .i64 l[j].2) := (a_wr.below.cell hb).trans (HC.out j lj).2
      have HS := Lib.hid (styles_take lj)
      have hx := HNN.out l[j] (List.getElem_mem lj)
      have HO : Hid (((oneR l[j]).length : Int) = if fairR l[j] then l[j].1 else 0) := Lib.hid oneR_length
      generalize l[j] = x at *
      obtain ⟨f, s⟩ := x
      simp only at c0 c1 hx HO
      cases hf : fairR (f, s) with
      | true =>
        have HF := Lib.hid (fun w => kept_any f s w true hf hx.1 hx.2)
        obtain ⟨f1, f2, _⟩ := fairR_in hf
        simp only at f1 f2
        have HO2 : Hid (((oneR (f, s)).length : Int) = f) := Lib.hid (by rw [HO.out, hf]; rfl)
        clear hf hx HO
        have HA0 := Lib.hid (a_wr.alloc (.cells #[.int .i64 f, .int .i64 s] 76))
        clear a_wr
        by_cases hg : 16777216 < (t : Int) + f
        · have HZ : Hid (c = 0) := Lib.hid (by
            rw [← HCC.out, sR_over (j := j + 1) (by rw [HS.out, List.length_append, HT.out]; have := HO2.out; omega)]; rfl)
          go_wp2_with (go_at_call 88; refine (HF.out _).mono ?_; rintro e w1 ⟨rfl, b1⟩; obtain ⟨e0, e1⟩ := box_cells b1; have HA1 := Lib.hid (HA0.out.trans b1); clear b1)
          go_ret
          exact ⟨ret_i64 (by rw [HZ.out]; rfl), HA1.out⟩
        · have hgf : decide (16777216 < (t : Int) + f) = false := decide_eq_false hg
          go_wp2_with (go_at_call 88; refine (HF.out _).mono ?_; rintro e w1 ⟨rfl, b1⟩; obtain ⟨e0, e1⟩ := box_cells b1; have HA1 := Lib.hid (HA0.out.trans b1); clear b1)
          go_roundg (n - (j + 1))
          case measure => omega
          case rel => exact ⟨HA1.out, j + 1, rfl, hlt, by go_num, t + f.toNat, by go_num, by rw [HS.out, List.length_append, HT.out]; have := HO2.out; omega, by omega⟩
      | false =>
        have HF := Lib.hid (fun w => kept_any f s w false hf hx.1 hx.2)
        have HO2 : Hid (((oneR (f, s)).length : Int) = 0) := Lib.hid (by rw [HO.out, hf]; rfl)
        clear hf hx HO
        have HA0 := Lib.hid (a_wr.alloc (.cells #[.int .i64 f, .int .i64 s] 76))
        clear a_wr
        go_wp2_with (go_at_call 88; refine (HF.out _).mono ?_; rintro e w1 ⟨rfl, b1⟩; have HA1 := Lib.hid (HA0.out.trans b1); clear b1)
        go_roundg (n - (j + 1))
        case measure => omega
        case rel => exact ⟨HA1.out, j + 1, rfl, hlt, by go_num, t, rfl, by rw [HS.out, List.length_append, HT.out]; have := HO2.out; omega, ht4⟩
    · obtain rfl : j = n := by omega
      have HZ : Hid (t = c) := Lib.hid (by
        rw [← HCC.out]
        have := HT.out
        rw [List.take_of_length_le (Nat.le_of_eq HL.out)] at this
        rw [sR_small (by rw [this]; exact ht4), this])
      clear a_wr
      go_wp2_with fail
      go_ret
      exact ⟨ret_i64 (by rw [HZ.out]), HA.out⟩
theorem plen_none (A : Option Addr) (cap : Nat) (w : World) : Calls Tryz.prog 65 #[.slice A 0 cap] w fun e w' => e = .returned (.int .i64 0) ∧ w = w' := by
  go_enter Tryz.func65, Tryz.ntmps65
  go_wp2_with fail
  refine wp_loop_rounds 1 ?_
  rw [rounds_succ]
  go_wp2_with fail
  go_ret
  exact ⟨rfl, rfl⟩
theorem plen_any (v : Value) (l : Runs) (w : World) (c : Nat) (hc : (sR l).length = c) (h : RRn w v l) (hN : NumsR l) (hn : l.length ≤ 90000) : Calls Tryz.prog 65 #[v] w fun e w' => e = .returned (.int .i64 (c : Int)) ∧ AnyLater w w' := by
  obtain ⟨A, cap, rfl, h2, h3⟩ := h
  rcases Nat.eq_zero_or_pos l.length with h0 | h0
  · obtain rfl := List.eq_nil_of_length_eq_zero h0
    obtain rfl : 0 = c := by rw [← hc]; rfl
    exact same_later (plen_none A cap w)
  · obtain ⟨b, off, rfl, hb, hcc⟩ := h3 h0
    exact plen_some b off _ cap l w c hc rfl hn hN hb hcc
end Go.Proofs.YtamhnffokoejjaaGreatDoor
namespace Go.Proofs.YtamhnffokoejjaaGreatDoor
set_option linter.unusedSimpArgs false
set_option linter.unusedVariables false
set_option linter.unusedSectionVars false
open Go.RowKit
theorem orn_nil (w : World) (B : Nat) : ORn w B (.slice none 0 0) [] := ⟨rfl, .inl ⟨rfl, rfl⟩⟩
theorem ORn.last2 {w : World} {B m : Nat} {v : Value} {l : Runs} (o : ORn w B v l) (hn : l.length = m + 1) :
    ∃ g cap t s, v = .slice (some ⟨g, 0, none⟩) (m + 1) cap ∧ B ≤ g ∧ g < w.heap.size ∧ w.cell? ⟨g, m * 2, none⟩ = some (.int .i64 t) ∧ w.cell? ⟨g, m * 2 + 1, none⟩ = some (.int .i64 s) ∧ l[m]? = some (t, s) ∧ w.frozen? ⟨g, m * 2, none⟩ = false ∧
    ∀ x : Int, ORn (w.setCell ⟨g, m * 2, none⟩ (.int .i64 x)) B (.slice (some ⟨g, 0, none⟩) (m + 1) cap) (l.modify m fun b => (x, b.2)) := by
  obtain ⟨g, cap, t, rfl, h1, h2, h3, ⟨s, h4⟩, h5, h6⟩ := o.last hn
  obtain ⟨A, c2, e, k1, k2⟩ := o.reads
  obtain ⟨b, off, e2, hb, hc⟩ := k2 (by omega)
  rw [hn] at e
  cases e
  cases e2
  have hm : m < l.length := by omega
  have e4 : l[m] = (t, s) := by rw [List.getElem?_eq_getElem hm] at h4; exact Option.some.inj h4
  have q := (hc m hm).2
  rw [Nat.zero_add, e4] at q
  exact ⟨g, cap, t, s, rfl, h1, h2, h3, q, h4, h5, h6⟩
theorem getLast_at {l : Runs} {m : Nat} {q : Int × Int} (hn : l.length = m + 1) (h : l[m]? = some q) : l.getLast? = some q := by
  rw [List.getLast?_eq_getElem?, hn]; exact h
set_option maxRecDepth 100000 in
set_option maxHeartbeats 3200000 in
theorem ptidy_some (b off n cap c : Nat) (l : Runs) (w : World) (hcc : (sR l).length = c) (hc0 : c ≠ 0) (hl : l.length = n) (hn : n ≤ 90000) (hN : NumsR l) (hb : b < w.heap.size) (hc : ∀ (j : Nat) (h : j < l.length), w.cell? ⟨b, off + j * 2, none⟩ = some (.int .i64 l[j].1) ∧ w.cell? ⟨b, off + j * 2 + 1, none⟩ = some (.int .i64 l[j].2)) :
    Calls Tryz.prog 35 #[.slice (some ⟨b, off, none⟩) n cap] w (RowN w (tidyR l)) := by
  have hs : (stylesR l).length ≤ 16777216 := by
    rcases Nat.lt_or_ge 16777216 (stylesR l).length with h | h
    · exact absurd (by rw [← hcc]; unfold sR; rw [if_neg (by omega)]; rfl) hc0
    · exact h
  have HLen := Lib.hid (plen_some b off n cap l w c hcc hl hn hN hb hc)
  have HL := Lib.hid hl
  have HC := Lib.hid hc
  have HTD : Hid (tidyR l = ofR (stylesR l)) := Lib.hid (by unfold tidyR; rw [sR_small hs])
  have HS0 : Hid (∀ j, (stylesR (l.take j)).length ≤ 16777216) := Lib.hid (fun j => Nat.le_trans (styles_le l j) hs)
  have HTL := Lib.hid (ofR_take_le l)
  have HNN := Lib.hid hN
  clear hl hc hcc hN hs
  have d0 : ((c : Int) == 0) = false := by simpa using hc0
  have HW0 := Lib.hid (AnyLater.refl w)
  go_enter Tryz.func35, Tryz.ntmps35
  go_wp2_with (go_at_call 65; refine HLen.out.mono ?_; rintro e w0 ⟨rfl, b0⟩; have HB0 := Lib.hid (And.intro b0 (Nat.lt_of_lt_of_le hb b0.below.size)); clear b0)
  go_loopg [3, 12] n (fun k v i wr => ∃ j : Nat, k = n - j ∧ j ≤ n ∧ i = .int .i64 j ∧ AnyLater w wr ∧ ORn wr w.heap.size v (ofR (stylesR (l.take j))))
  case atStart => exact ⟨0, by omega, by omega, rfl, HB0.out.1, orn_nil _ _⟩
  case round =>
    obtain ⟨j, hk, hj, rfl, ha, ho⟩ := hrel
    have HA := Lib.hid (And.intro ha ho)
    by_cases hlt : j < n
    · have lj : j < l.length := by rw [HL.out]; exact hlt
      have c0 : wr.cell? ⟨b, off + j * 2, none⟩ = some (.int .i64 l[j].1) := (ha.below.cell hb).trans (HC.out j lj).1
      have c1 : wr.cell? ⟨b, off + j * 2 + 1, none⟩ = some (.int .i64 l[j].2) := (ha.below.cell hb).trans (HC.out j lj).2
      have HS := Lib.hid (styles_take lj)
      have hx := HNN.out l[j] (List.getElem_mem lj)
      generalize l[j] = x at *
      obtain ⟨f, s⟩ := x
      simp only at c0 c1 hx HS
      have HLJ : Hid ((ofR (stylesR (l.take j))).length ≤ j) := Lib.hid (HTL.out j (Nat.le_of_lt lj))
      have HA0 := Lib.hid ((AnyLater.refl wr).alloc (.cells #[.int .i64 f, .int .i64 s] 76))
      cases hf : fairR (f, s) with
      | true =>
        have HF := Lib.hid (fun w => kept_any f s w true hf hx.1 hx.2)
        obtain ⟨f1, f2, _⟩ := fairR_in hf
        simp only at f1 f2
        have HE : Hid (ofR (stylesR (l.take (j + 1))) = addR (ofR (stylesR (l.take j))) (f, s)) := Lib.hid (by rw [HS.out, ofR_step hf])
        have HBND := Lib.hid (ofR_le (stylesR (l.take j)))
        have HS1 := Lib.hid (HS0.out j)
        clear hf hx
        generalize ofR (stylesR (l.take j)) = m at *
        cases hm : m.length with
        | zero =>
          obtain rfl := List.eq_nil_of_length_eq_zero hm
          obtain ⟨A, cb, rfl, _, _⟩ := ho.reads
          have HE2 : Hid (addR [] (f, s) = [] ++ [(f, s)]) := Lib.hid rfl
          clear ha ho
          go_wp2_with (go_at_call 88; refine (HF.out _).mono ?_; rintro e w1 ⟨rfl, b1⟩; obtain ⟨e0, e1⟩ := box_cells b1; have b2 := HA0.out.trans b1; have HA1 := Lib.hid (And.intro (HA.out.1.trans b2) (HA.out.2.later b2)); clear b1 b2)
          go_quiet (fail)
          have b1 : AnyLater w1 (w1.drewN nq) := (AnyLater.refl w1).drewN nq
          obtain ⟨u, w2, k1, k2, k3⟩ := appRun (f, s) (HA1.out.2.later b1) (HA1.out.1.trans b1).below.size (by have := HLJ.out; omega)
          have K1 := Lib.hid k1
          have HB := Lib.hid (And.intro (k3 w (Nat.le_refl _) (HA1.out.1.trans b1)) k2)
          clear k1 k2 k3 b1
          go_wp2_with (at_builtin; refine Lib.wpList_append_run _ rfl _ _ _ _ rfl _ _ rfl rfl _ _ K1.out ?_)
          go_roundg (n - (j + 1))
          case measure => omega
          case rel => exact ⟨j + 1, rfl, hlt, by go_num, HB.out.1, by rw [HE.out, HE2.out]; exact HB.out.2⟩
        | succ i =>
          have hi : i < 90000 := by have := HLJ.out; omega
          obtain ⟨g, cb, t, t2, rfl, hB, hg, _, _, hs, _, _⟩ := ho.last2 hm
          have hbnd := HBND.out _ (List.mem_of_getElem? hs)
          simp only at hbnd
          obtain ⟨t0, t1⟩ := hbnd
          have ht : t ≤ 16777216 := by have := HS1.out; omega
          have HQ := Lib.hid (And.intro hm hs)
          clear ha ho hm hs HBND t1
          by_cases he : t2 = s
          · subst he
            have HE2 : Hid (addR m (f, t2) = m.modify i fun b => (t + f, b.2)) := Lib.hid (addR_grow f t2 t i m HQ.out.1 HQ.out.2)
            go_wp2_with (go_at_call 88; refine (HF.out _).mono ?_; rintro e w1 ⟨rfl, b1⟩; obtain ⟨e0, e1⟩ := box_cells b1; have b2 := HA0.out.trans b1; have HA1 := Lib.hid (And.intro (HA.out.1.trans b2) (HA.out.2.later b2)); clear b1 b2)
            obtain ⟨g2, cb2, t3, t4, q1, _, _, g0, g1, q2, f0, q3⟩ := HA1.out.2.last2 HQ.out.1
            cases q1
            obtain ⟨rfl, rfl⟩ : t3 = t ∧ t4 = t2 := by
              rw [HQ.out.2] at q2
              cases q2
              exact ⟨rfl, rfl⟩
            have HO2 := Lib.hid q3
            clear q2 q3
            go_quiet (fail)
            go_wp2_with fail
            go_region
            go_wp2_with fail
            go_roundg (n - (j + 1))
            case measure => omega
            case rel =>
              have b3 : AnyLater w1 (w1.drewN (nq + 1)) := (AnyLater.refl w1).drewN (nq + 1)
              obtain ⟨_, _, _, _, q1, q2, _, _, _, _, _, q3⟩ := (HA1.out.2.later b3).last2 HQ.out.1
              cases q1
              exact ⟨j + 1, rfl, hlt, by go_num, (HA1.out.1.trans b3).setCell (p := ⟨g, i * 2, none⟩) q2 _, by rw [HE.out, HE2.out]; exact q3 (t3 + f)⟩
          · have he' : (t2 == s) = false := by simpa using he
            have HE2 : Hid (addR m (f, s) = m ++ [(f, s)]) := Lib.hid (addR_new (f, s) m (fun q hq => by
              rw [getLast_at HQ.out.1 HQ.out.2] at hq
              cases hq
              exact he))
            go_wp2_with (go_at_call 88; refine (HF.out _).mono ?_; rintro e w1 ⟨rfl, b1⟩; obtain ⟨e0, e1⟩ := box_cells b1; have b2 := HA0.out.trans b1; have HA1 := Lib.hid (And.intro (HA.out.1.trans b2) (HA.out.2.later b2)); clear b1 b2)
            obtain ⟨g2, cb2, t3, t4, q1, _, _, g0, g1, q2, f0, q3⟩ := HA1.out.2.last2 HQ.out.1
            cases q1
            obtain ⟨rfl, rfl⟩ : t3 = t ∧ t4 = t2 := by
              rw [HQ.out.2] at q2
              cases q2
              exact ⟨rfl, rfl⟩
            clear q2 q3
            go_quiet (fail)
            have b1 : AnyLater w1 (w1.drewN nq) := (AnyLater.refl w1).drewN nq
            obtain ⟨u, w2, k1, k2, k3⟩ := appRun (f, s) (HA1.out.2.later b1) (HA1.out.1.trans b1).below.size (by have := HLJ.out; omega)
            have K1 := Lib.hid k1
            have HB := Lib.hid (And.intro (k3 w (Nat.le_refl _) (HA1.out.1.trans b1)) k2)
            clear k1 k2 k3 b1
            go_wp2_with (at_builtin; refine Lib.wpList_append_run _ rfl _ _ _ _ rfl _ _ rfl rfl _ _ K1.out ?_)
            go_roundg (n - (j + 1))
            case measure => omega
            case rel => exact ⟨j + 1, rfl, hlt, by go_num, HB.out.1, by rw [HE.out, HE2.out]; exact HB.out.2⟩
      | false =>
        have HF := Lib.hid (fun w => kept_any f s w false hf hx.1 hx.2)
        have HE : Hid (stylesR (l.take (j + 1)) = stylesR (l.take j)) := Lib.hid (by rw [HS.out, oneR_no hf, List.append_nil])
        clear hf hx ha ho
        go_wp2_with (go_at_call 88; refine (HF.out _).mono ?_; rintro e w1 ⟨rfl, b1⟩; have b2 := HA0.out.trans b1; have HA1 := Lib.hid (And.intro (HA.out.1.trans b2) (HA.out.2.later b2)); clear b1 b2)
        go_roundg (n - (j + 1))
        case measure => omega
        case rel => exact ⟨j + 1, rfl, hlt, by go_num, HA1.out.1, by rw [HE.out]; exact HA1.out.2⟩
    · obtain rfl : j = n := by omega
      clear ha ho
      go_wp2_with fail
      go_ret
      exact ⟨_, rfl, HA.out.1, by have := HA.out.2; rw [HTD.out]; rwa [List.take_of_length_le (Nat.le_of_eq HL.out)] at this⟩
theorem ptidy_zero (v : Value) (l : Runs) (w : World) (hcc : (sR l).length = 0) (hv : RRn w v l) (hN : NumsR l) (hn : l.length ≤ 90000) : Calls Tryz.prog 35 #[v] w (RowN w (tidyR l)) := by
  have HLen := Lib.hid (plen_any v l w 0 hcc hv hN hn)
  have HTD : Hid (tidyR l = []) := Lib.hid (by unfold tidyR; rw [List.eq_nil_of_length_eq_zero hcc]; rfl)
  clear hcc hv hN hn
  go_enter Tryz.func35, Tryz.ntmps35
  go_wp2_with (go_at_call 65; refine HLen.out.mono ?_; rintro e w0 ⟨rfl, b0⟩; have HB0 := Lib.hid b0; clear b0)
  go_ret
  exact ⟨_, rfl, HB0.out, by rw [HTD.out]; exact orn_nil _ _⟩
theorem ptidy_any (v : Value) (l : Runs) (w : World) (h : RRn w v l) (hN : NumsR l) (hn : l.length ≤ 90000) : Calls Tryz.prog 35 #[v] w (RowN w (tidyR l)) := by
  by_cases h0 : (sR l).length = 0
  · exact ptidy_zero v l w h0 h hN hn
  · obtain ⟨A, cap, rfl, h2, h3⟩ := h
    rcases Nat.eq_zero_or_pos l.length with h1 | h1
    · obtain rfl := List.eq_nil_of_length_eq_zero h1
      exact absurd rfl h0
    · obtain ⟨b, off, rfl, hb, hcc⟩ := h3 h1
      exact ptidy_some b off _ cap _ l w rfl h0 rfl hn hN hb hcc
end Go.Proofs.YtamhnffokoejjaaGreatDoor
namespace Go.Proofs.YtamhnffokoejjaaGreatDoor
set_option linter.unusedSimpArgs false
set_option linter.unusedVariables false
set_option linter.unusedSectionVars false
open Go.RowKit
abbrev Cel := Int × Int × Int × Int
abbrev Cels := List Cel
def celF : Flat Cel where
  fl c := [.int .i64 c.1, .int .i64 c.2.1, .int .i32 c.2.2.1, .int .i64 c.2.2.2]
  k := 4
  pos := by decide
  len _ := rfl
  one a u hu := by
    simp only [List.mem_cons, List.not_mem_nil, or_false] at hu
    rcases hu with rfl | rfl | rfl | rfl <;> rfl
set_option maxRecDepth 100000 in
theorem celFT : FlatT celF 160 108 (.agg #[.int .i64 0, .int .i64 0, .int .i32 0, .int .i64 0]) 32 where
  und := Tryz.underlying108
  el := by kernel_rfl
  info := by kernel_rfl
  size := fun w => by simp [go_sem, celF]
  zero := rfl
  few := by decide
abbrev I32s (x : Int) : Prop := -2147483648 ≤ x ∧ x ≤ 2147483647
def CelOk (c : Cel) : Prop := I64s c.1 ∧ I64s c.2.1 ∧ I32s c.2.2.1 ∧ I64s c.2.2.2
def CelsOk (l : Cels) : Prop := ∀ c ∈ l, CelOk c
def advC (f : Int) : Int := if f = 2 then 12 else 6 + f
def widR (r s x : Int) : Int := if r = 9 then (if x < 0 ∨ 1073741824 < x then 0 else 48 - x % 48) else advC (faceS s)
def widC (c : Cel) (x : Int) : Int := widR c.2.2.1 c.2.2.2 x
theorem faceS_in (s : Int) : 0 ≤ faceS s ∧ faceS s ≤ 2 := by
  unfold faceS
  split
  · omega
  · omega
theorem advC_in (s : Int) : 6 ≤ advC (faceS s) ∧ advC (faceS s) ≤ 12 := by
  have := faceS_in s
  unfold advC
  split <;> omega
theorem widR_in (r s x : Int) : 0 ≤ widR r s x ∧ widR r s x ≤ 48 := by
  have := advC_in s
  unfold widR
  split
  · split <;> omega
  · omega
def xsC (x : Int) : Cels → List Int
  | [] => [x]
  | c :: l => x :: xsC (x + widC c x) l
theorem xsC_length : ∀ (l : Cels) (x : Int), (xsC x l).length = l.length + 1
  | [], _ => rfl
  | c :: l, x => by rw [xsC, List.length_cons, xsC_length l, List.length_cons]
def endC (x : Int) (l : Cels) : Int := l.foldl (fun x c => x + widC c x) x
theorem endC_snoc (x : Int) (l : Cels) (c : Cel) : endC x (l ++ [c]) = endC x l + widC c (endC x l) := by unfold endC; rw [List.foldl_append]; rfl
theorem xsC_snoc : ∀ (l : Cels) (x : Int) (c : Cel), xsC x (l ++ [c]) = xsC x l ++ [endC x (l ++ [c])]
  | [], x, c => rfl
  | d :: l, x, c => by
    show x :: xsC _ (l ++ [c]) = x :: (xsC _ l ++ _)
    rw [xsC_snoc l]; rfl
theorem endC_in : ∀ (l : Cels) (x : Int), x ≤ endC x l ∧ endC x l ≤ x + 48 * l.length
  | [], x => by simp [endC]
  | c :: l, x => by
    have h := endC_in l (x + widC c x)
    have h2 := widR_in c.2.2.1 c.2.2.2 x
    show x ≤ endC (x + widC c x) l ∧ _
    change _ ∧ endC (x + widC c x) l ≤ _
    unfold widC at *
    rw [List.length_cons]
    omega
theorem xsC_last (l : Cels) (x : Int) : (xsC x l)[l.length]? = some (endC x l) := by
  rcases List.eq_nil_or_concat l with rfl | ⟨m, c, rfl⟩
  · rfl
  · rw [List.concat_eq_append, xsC_snoc, List.length_append, List.getElem?_append_right (by rw [xsC_length]; simp), xsC_length]
    simp
set_option maxRecDepth 100000 in
theorem cface_any (s : Int) (w : World) (c : Int) (hc : faceS s = c) (hs : I64s s) : Calls Tryz.prog 243 #[.int .i64 s] w fun e w' => e = .returned (.int .i64 c) ∧ w = w' := by
  rcases hg : goodS s
  · have HG := Lib.hid (fun w => pgood_any s w false hg)
    have HC : Hid (0 = c) := Lib.hid (by rw [← hc]; unfold faceS; rw [hg]; rfl)
    clear hc hg
    obtain ⟨s1, s2⟩ := hs
    go_enter Tryz.func243, Tryz.ntmps243
    go_wp2_with fail
    refine (HG.out _).mono ?_
    rintro e w1 ⟨rfl, rfl⟩
    go_wp2_with fail
    go_ret
    exact ⟨ret_i64 HC.out, rfl⟩
  · have HG := Lib.hid (fun w => pgood_any s w true hg)
    have HC : Hid (s % 3 = c) := Lib.hid (by rw [← hc]; unfold faceS; rw [hg]; rfl)
    obtain ⟨s1, s2⟩ := goodS_in hg
    clear hc hg hs
    go_enter Tryz.func243, Tryz.ntmps243
    go_wp2_with fail
    refine (HG.out _).mono ?_
    rintro e w1 ⟨rfl, rfl⟩
    go_wp2_with fail
    go_ret
    exact ⟨ret_i64 HC.out, rfl⟩
theorem cadv_any (f r : Int) (w : World) (c : Int) (hc : advC f = c) (hf : 0 ≤ f ∧ f ≤ 2) : Calls Tryz.prog 242 #[.int .i64 f, .int .i32 r] w fun e w' => e = .returned (.int .i64 c) ∧ w = w' := by
  have hff : f = 0 ∨ f = 1 ∨ f = 2 := by omega
  clear hf
  rcases hff with rfl | rfl | rfl
  all_goals
    have H := Lib.hid hc
    clear hc
    go_enter Tryz.func242, Tryz.ntmps242
    go_wp2_with fail
    go_ret
    exact ⟨ret_i64 (by rw [← H.out]; rfl), rfl⟩
theorem cmod_any (x : Int) (w : World) (hx : 0 ≤ x ∧ x ≤ 1073741824) : Calls Tryz.prog 267 #[.int .i64 x, .int .i64 48] w fun e w' => e = .returned (.int .i64 (x % 48)) ∧ w = w' := by
  obtain ⟨h1, h2⟩ := hx
  go_enter Tryz.func267, Tryz.ntmps267
  go_wp2_with fail
  go_ret
  exact ⟨rfl, rfl⟩
theorem cnext_any (x : Int) (w : World) (hx : 0 ≤ x ∧ x ≤ 1073741824) : Calls Tryz.prog 244 #[.int .i64 x, .int .i64 48] w fun e w' => e = .returned (.int .i64 (x + (48 - x % 48))) ∧ w = w' := by
  have HM := Lib.hid (fun w => cmod_any x w hx)
  obtain ⟨h1, h2⟩ := hx
  obtain ⟨m, hm⟩ : ∃ m, x % 48 = m := ⟨_, rfl⟩
  have h3 : 0 ≤ m := by omega
  have h4 : m ≤ 47 := by omega
  rw [hm] at HM ⊢
  clear hm
  go_enter Tryz.func244, Tryz.ntmps244
  go_wp2_with fail
  refine (HM.out _).mono ?_
  rintro e w1 ⟨rfl, rfl⟩
  go_wp2_with fail
  go_ret
  exact ⟨rfl, rfl⟩
theorem cxwide_any (f : Int) (w : World) (c : Int) (hc : advC f = c) (hf : 0 ≤ f ∧ f ≤ 2) : Calls Tryz.prog 232 #[.int .i64 f] w fun e w' => e = .returned (.int .i64 c) ∧ w = w' := by
  have hff : f = 0 ∨ f = 1 ∨ f = 2 := by omega
  clear hf
  rcases hff with rfl | rfl | rfl
  all_goals
    have H := Lib.hid hc
    clear hc
    go_enter Tryz.func232, Tryz.ntmps232
    go_wp2_with fail
    go_ret
    exact ⟨ret_i64 (by rw [← H.out]; rfl), rfl⟩
set_option maxRecDepth 100000 in
set_option maxHeartbeats 1600000 in
theorem cwidth_any (a n r s x : Int) (w : World) (c : Int) (hc : widR r s x = c) (hr : I32s r) (hs : I64s s) (hx : I64s x) :
    Calls Tryz.prog 201 #[.agg #[.int .i64 a, .int .i64 n, .int .i32 r, .int .i64 s], .int .i64 x] w fun e w' => e = .returned (.int .i64 c) ∧ AnyLater w w' := by
  obtain ⟨r1, r2⟩ := hr
  by_cases h9 : r = 9
  · subst h9
    by_cases h1 : x < 0
    · have HC : Hid (0 = c) := Lib.hid (by rw [← hc]; unfold widR; rw [if_pos rfl, if_pos (.inl h1)])
      clear hc
      go_enter Tryz.func201, Tryz.ntmps201
      go_wp2_with fail
      go_ret
      exact ⟨ret_i64 HC.out, by repeat' (first | with_reducible assumption | with_reducible exact AnyLater.refl _ | with_reducible apply AnyLater.setCell | with_reducible apply AnyLater.later | with_reducible apply AnyLater.drewN | with_reducible apply AnyLater.drew | with_reducible apply AnyLater.alloc | ((try simp only [World.size_alloc, World.size_setCell, World.size_drew]); (try dsimp only); omega))⟩
    · by_cases h2 : 1073741824 < x
      · have HC : Hid (0 = c) := Lib.hid (by rw [← hc]; unfold widR; rw [if_pos rfl, if_pos (.inr h2)])
        have d1 : decide (x < 0) = false := decide_eq_false h1
        clear hc
        go_enter Tryz.func201, Tryz.ntmps201
        go_wp2_with fail
        go_ret
        exact ⟨ret_i64 HC.out, by repeat' (first | with_reducible assumption | with_reducible exact AnyLater.refl _ | with_reducible apply AnyLater.setCell | with_reducible apply AnyLater.later | with_reducible apply AnyLater.drewN | with_reducible apply AnyLater.drew | with_reducible apply AnyLater.alloc | ((try simp only [World.size_alloc, World.size_setCell, World.size_drew]); (try dsimp only); omega))⟩
      · have HC : Hid (48 - x % 48 = c) := Lib.hid (by rw [← hc]; unfold widR; rw [if_pos rfl, if_neg (by omega)])
        have HN := Lib.hid (fun w => cnext_any x w ⟨by omega, by omega⟩)
        have d1 : decide (x < 0) = false := decide_eq_false h1
        have d2 : decide (1073741824 < x) = false := decide_eq_false h2
        obtain ⟨m, hm⟩ : ∃ m, x % 48 = m := ⟨_, rfl⟩
        have h3 : 0 ≤ m := by omega
        have h4 : m ≤ 47 := by omega
        rw [hm] at HN HC
        clear hc hm
        go_enter Tryz.func201, Tryz.ntmps201
        go_wp2_with fail
        refine (HN.out _).mono ?_
        rintro e w1 ⟨rfl, rfl⟩
        go_wp2_with fail
        go_ret
        exact ⟨ret_i64 (by have := HC.out; omega), by repeat' (first | with_reducible assumption | with_reducible exact AnyLater.refl _ | with_reducible apply AnyLater.setCell | with_reducible apply AnyLater.later | with_reducible apply AnyLater.drewN | with_reducible apply AnyLater.drew | with_reducible apply AnyLater.alloc | ((try simp only [World.size_alloc, World.size_setCell, World.size_drew]); (try dsimp only); omega))⟩
  · have h9f : (r != 9) = true := by simpa using h9
    have HC : Hid (advC (faceS s) = c) := Lib.hid (by rw [← hc]; unfold widR; rw [if_neg h9])
    have hfs := faceS_in s
    have HF := Lib.hid (fun w => cface_any s w _ rfl hs)
    generalize faceS s = f at *
    have HA := Lib.hid (fun w => cadv_any f r w c HC.out hfs)
    clear hc h9
    obtain ⟨s1, s2⟩ := hs
    go_enter Tryz.func201, Tryz.ntmps201
    go_wp2_with fail
    first | refine settle_wp (fun wS => AnyLater w wS ∧ wS.heap[w.heap.size]? = some (.cells #[.int .i64 a, .int .i64 n, .int .i32 r, .int .i64 s] 160)) ?_ ?_ | refine settle_calls (fun wS => AnyLater w wS ∧ wS.heap[w.heap.size]? = some (.cells #[.int .i64 a, .int .i64 n, .int .i32 r, .int .i64 s] 160)) ?_ ?_
    · refine ⟨?_, ?_⟩
      · repeat' (first | with_reducible assumption | with_reducible exact AnyLater.refl _ | with_reducible apply AnyLater.setCell | with_reducible apply AnyLater.later | with_reducible apply AnyLater.drewN | with_reducible apply AnyLater.drew | with_reducible apply AnyLater.alloc | ((try simp only [World.size_alloc, World.size_setCell, World.size_drew]); (try dsimp only); omega))
      · ((repeat (first | with_reducible assumption | ((with_reducible apply heap_new); (try simp only [World.size_alloc, World.size_setCell, World.size_drew, World.heap_drewN]); done) | ((with_reducible apply heap_new); (try simp only [World.size_alloc, World.size_setCell, World.size_drew, World.heap_drewN]); omega) | (with_reducible refine heap_old (by (try simp only [World.size_alloc, World.size_setCell, World.size_drew, World.heap_drewN]); omega) ?_) | (with_reducible refine heap_drew ?_) | (with_reducible refine heap_far (by omega) ?_) | (with_reducible apply heap_at))); all_goals rfl)
    rintro w1 ⟨b_w1, s0_w1⟩
    have a_w1 := b_w1
    have r0_w1 := own_row s0_w1
    have f0_w1 := own_free s0_w1
    have l0_w1 := own_lt s0_w1
    have z_w1 := b_w1.below.size
    apply wp_region_mem (6) [] (by kernel_rfl) (by kernel_rfl) (by simp)
    case hstab =>
      intro e he v x y hxy hv
      simp only [List.mem_cons, List.not_mem_nil, or_false] at he
    case hlex =>
      intro U
      have q0 := fun (v : Later (later U)) => own_row (any_own ⟨v, rfl⟩ (any_own ⟨U, rfl⟩ s0_w1))
      simp only [absFrom, absOp, idx, List.map_cons, List.map_nil, List.contains_cons, List.contains_nil, Nat.reduceBEq, Bool.or_false, Bool.false_or, Bool.true_or, Bool.or_true, Bool.false_eq_true, Nat.reduceLeDiff, Nat.reduceAdd, if_false, if_true]
      repeat (go_big_quiet_step (first | (go_at_call 243; exact in_later_same (HF.out _)) | (go_at_call 242; exact in_later_same (HA.out _))))
      exact wpQuiet_nil rfl
    case hown =>
      intro e he o ho
      simp only [List.mem_cons, List.not_mem_nil, or_false] at he
    case htail =>
      intro g u hst hne
      have b_w2 : AnyLater w1 (later u) := ⟨u, rfl⟩
      generalize later u = w2 at *
      clear u
      clear hst hne
      simp only [fillAll, Act.put, List.setIfInBounds_toArray, List.set_cons_zero, List.set_cons_succ, List.drop_succ_cons, List.drop_zero]
      have z_w2 := b_w2.below.size
      have a_w2 := a_w1.trans b_w2
      have s0_w2 := any_own b_w2 s0_w1
      have r0_w2 := own_row s0_w2
      have f0_w2 := own_free s0_w2
      have l0_w2 := own_lt s0_w2
      (try clear r0_w1); (try clear f0_w1)
      go_wp2_with fail
      go_ret
      exact ⟨rfl, by repeat' (first | with_reducible assumption | with_reducible exact AnyLater.refl _ | with_reducible apply AnyLater.setCell | with_reducible apply AnyLater.later | with_reducible apply AnyLater.drewN | with_reducible apply AnyLater.drew | with_reducible apply AnyLater.alloc | ((try simp only [World.size_alloc, World.size_setCell, World.size_drew]); (try dsimp only); omega))⟩
set_option maxRecDepth 100000 in
set_option maxHeartbeats 1600000 in
theorem cxwidth_any (a n r s x : Int) (w : World) (c : Int) (hc : widR r s x = c) (hr : I32s r) (hs : I64s s) (hx : I64s x) :
    Calls Tryz.prog 188 #[.agg #[.int .i64 a, .int .i64 n, .int .i32 r, .int .i64 s], .int .i64 x] w fun e w' => e = .returned (.int .i64 c) ∧ AnyLater w w' := by
  obtain ⟨r1, r2⟩ := hr
  by_cases h9 : r = 9
  · subst h9
    by_cases h1 : x < 0
    · have HC : Hid (0 = c) := Lib.hid (by rw [← hc]; unfold widR; rw [if_pos rfl, if_pos (.inl h1)])
      clear hc
      go_enter Tryz.func188, Tryz.ntmps188
      go_wp2_with fail
      go_ret
      exact ⟨ret_i64 HC.out, by repeat' (first | with_reducible assumption | with_reducible exact AnyLater.refl _ | with_reducible apply AnyLater.setCell | with_reducible apply AnyLater.later | with_reducible apply AnyLater.drewN | with_reducible apply AnyLater.drew | with_reducible apply AnyLater.alloc | ((try simp only [World.size_alloc, World.size_setCell, World.size_drew]); (try dsimp only); omega))⟩
    · by_cases h2 : 1073741824 < x
      · have HC : Hid (0 = c) := Lib.hid (by rw [← hc]; unfold widR; rw [if_pos rfl, if_pos (.inr h2)])
        have d1 : decide (x < 0) = false := decide_eq_false h1
        clear hc
        go_enter Tryz.func188, Tryz.ntmps188
        go_wp2_with fail
        go_ret
        exact ⟨ret_i64 HC.out, by repeat' (first | with_reducible assumption | with_reducible exact AnyLater.refl _ | with_reducible apply AnyLater.setCell | with_reducible apply AnyLater.later | with_reducible apply AnyLater.drewN | with_reducible apply AnyLater.drew | with_reducible apply AnyLater.alloc | ((try simp only [World.size_alloc, World.size_setCell, World.size_drew]); (try dsimp only); omega))⟩
      · have HC : Hid (48 - x % 48 = c) := Lib.hid (by rw [← hc]; unfold widR; rw [if_pos rfl, if_neg (by omega)])
        have d1 : decide (x < 0) = false := decide_eq_false h1
        have d2 : decide (1073741824 < x) = false := decide_eq_false h2
        have h3 : 0 ≤ x := by omega
        clear hc
        go_enter Tryz.func188, Tryz.ntmps188
        go_wp2_with fail
        go_ret
        exact ⟨ret_i64 HC.out, by repeat' (first | with_reducible assumption | with_reducible exact AnyLater.refl _ | with_reducible apply AnyLater.setCell | with_reducible apply AnyLater.later | with_reducible apply AnyLater.drewN | with_reducible apply AnyLater.drew | with_reducible apply AnyLater.alloc | ((try simp only [World.size_alloc, World.size_setCell, World.size_drew]); (try dsimp only); omega))⟩
  · have h9f : (r != 9) = true := by simpa using h9
    have HC : Hid (advC (faceS s) = c) := Lib.hid (by rw [← hc]; unfold widR; rw [if_neg h9])
    have hfs := faceS_in s
    have HF := Lib.hid (fun w => refFaceS_any s w _ rfl hs)
    generalize faceS s = f at *
    have HA := Lib.hid (fun w => cxwide_any f w c HC.out hfs)
    clear hc h9
    obtain ⟨s1, s2⟩ := hs
    go_enter Tryz.func188, Tryz.ntmps188
    go_wp2_with fail
    refine (HF.out _).mono ?_
    rintro e w1 ⟨rfl, rfl⟩
    go_wp2_with fail
    refine (HA.out _).mono ?_
    rintro e w1 ⟨rfl, rfl⟩
    go_wp2_with fail
    go_ret
    exact ⟨rfl, by repeat' (first | with_reducible assumption | with_reducible exact AnyLater.refl _ | with_reducible apply AnyLater.setCell | with_reducible apply AnyLater.later | with_reducible apply AnyLater.drewN | with_reducible apply AnyLater.drew | with_reducible apply AnyLater.alloc | ((try simp only [World.size_alloc, World.size_setCell, World.size_drew]); (try dsimp only); omega))⟩
set_option maxRecDepth 100000 in
theorem cblank_any (a n r s : Int) (w : World) (c : Bool) (hc : decide (r = 9 ∨ r = 32) = c) :
    Calls Tryz.prog 202 #[.agg #[.int .i64 a, .int .i64 n, .int .i32 r, .int .i64 s]] w fun e w' => e = .returned (.bool c) ∧ AnyLater w w' := by
  by_cases h1 : r = 32
  · subst h1
    have HC : Hid (true = c) := Lib.hid (by rw [← hc]; rfl)
    clear hc
    go_enter Tryz.func202, Tryz.ntmps202
    go_wp2_with fail
    go_ret
    exact ⟨ret_bool HC.out, by repeat' (first | with_reducible assumption | with_reducible exact AnyLater.refl _ | with_reducible apply AnyLater.setCell | with_reducible apply AnyLater.later | with_reducible apply AnyLater.drewN | with_reducible apply AnyLater.drew | with_reducible apply AnyLater.alloc | ((try simp only [World.size_alloc, World.size_setCell, World.size_drew]); (try dsimp only); omega))⟩
  · have e1 : (r == 32) = false := by simpa using h1
    have HC : Hid ((r == 9) = c) := Lib.hid (by rw [← hc]; by_cases h2 : r = 9 <;> simp [h1, h2])
    generalize hb : (r == 9) = b at *
    clear hc h1
    go_enter Tryz.func202, Tryz.ntmps202
    go_wp2_with fail
    go_ret
    exact ⟨ret_bool HC.out, by repeat' (first | with_reducible assumption | with_reducible exact AnyLater.refl _ | with_reducible apply AnyLater.setCell | with_reducible apply AnyLater.later | with_reducible apply AnyLater.drewN | with_reducible apply AnyLater.drew | with_reducible apply AnyLater.alloc | ((try simp only [World.size_alloc, World.size_setCell, World.size_drew]); (try dsimp only); omega))⟩
end Go.Proofs.YtamhnffokoejjaaGreatDoor
