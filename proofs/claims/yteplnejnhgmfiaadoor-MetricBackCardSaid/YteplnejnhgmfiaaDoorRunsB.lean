/- runs, the program: shade.Good, calc.Clamp, calc.Span, kept, each by contract. No condition beyond that each number is one of 64 bits. runs, the program: a run that is put onto good runs; Len of any runs. runs, the program: Tidy of any runs. runs, the program: At, slices.Equal, Good of any runs. runs, the program: Part of any runs. -/
import Derived.Test.YteplnejnhgmfiaaDoorRunsA
import Derived.LoopN
import Derived.BigRegion
import Derived.RegionTactic
namespace Go.Proofs.YteplnejnhgmfiaaDoor
set_option linter.unusedSimpArgs false
set_option linter.unusedVariables false
set_option linter.unusedSectionVars false
open Go.RowKit

theorem pgood_any (s : Int) (w : World) (c : Bool) (hc : goodS s = c) : Calls Tryd.prog 80 #[.int .i64 s] w fun e w' => e = .returned (.bool c) ∧ w = w' := by
  subst hc
  by_cases h1 : 0 ≤ s
  · by_cases h2 : s ≤ 23
    · have Q : Hid (goodS s = true) := Lib.hid (by unfold goodS; simp; omega)
      go_enter Tryd.func80, Tryd.ntmps80
      go_wp2
      go_ret
      exact ⟨ret_bool (by rw [Q.out]), rfl⟩
    · have Q : Hid (goodS s = false) := Lib.hid (by unfold goodS; simp; omega)
      have h3 : decide (s ≤ 23) = false := decide_eq_false h2
      go_enter Tryd.func80, Tryd.ntmps80
      go_wp2
      go_ret
      exact ⟨ret_bool (by rw [Q.out]), rfl⟩
  · have Q : Hid (goodS s = false) := Lib.hid (by unfold goodS; simp; omega)
    have h3 : decide (0 ≤ s) = false := decide_eq_false h1
    go_enter Tryd.func80, Tryd.ntmps80
    go_wp2
    go_ret
    exact ⟨ret_bool (by rw [Q.out]), rfl⟩

/-! ### calc -/
theorem ret_i64 {a b : Int} (h : a = b) : Ending.returned (.int .i64 a) = .returned (.int .i64 b) := by rw [h]
def clampI (n low high : Int) : Int := if n < low ∨ high < low then low else if high < n then high else n
theorem pclamp_any (n low high : Int) (w : World) (c : Int) (hc : clampI n low high = c) :
    Calls Tryd.prog 75 #[.int .i64 n, .int .i64 low, .int .i64 high] w fun e w' => e = .returned (.int .i64 c) ∧ w = w' := by
  subst hc
  by_cases h1 : n < low
  · have Q : Hid (low = clampI n low high) := Lib.hid (by unfold clampI; rw [if_pos (.inl h1)])
    go_enter Tryd.func75, Tryd.ntmps75
    go_wp2
    go_ret
    exact ⟨ret_i64 Q.out, rfl⟩
  · by_cases h2 : high < low
    · have Q : Hid (low = clampI n low high) := Lib.hid (by unfold clampI; rw [if_pos (.inr h2)])
      go_enter Tryd.func75, Tryd.ntmps75
      go_wp2
      go_ret
      exact ⟨ret_i64 Q.out, rfl⟩
    · by_cases h3 : high < n
      · have Q : Hid (high = clampI n low high) := Lib.hid (by unfold clampI; rw [if_neg (by omega), if_pos h3])
        go_enter Tryd.func75, Tryd.ntmps75
        go_wp2
        go_ret
        exact ⟨ret_i64 Q.out, rfl⟩
      · have Q : Hid (n = clampI n low high) := Lib.hid (by unfold clampI; rw [if_neg (by omega), if_neg h3])
        go_enter Tryd.func75, Tryd.ntmps75
        go_wp2
        go_ret
        exact ⟨ret_i64 Q.out, rfl⟩
def Span3 (a n all : Int) : Prop := 0 ≤ a ∧ a ≤ all ∧ 0 ≤ n ∧ n ≤ all - a
/-! ### kept -/
set_option maxRecDepth 100000 in
set_option maxHeartbeats 1600000 in
theorem kept_any (n s : Int) (w : World) (c : Bool) (hc : fairR (n, s) = c) (hn : I64s n) (hs : I64s s) : Calls Tryd.prog 76 #[.agg #[.int .i64 n, .int .i64 s]] w fun e w' => e = .returned (.bool c) ∧ AnyLater w w' := by
  have hc := fairR_split n s c hc
  have HG := Lib.hid (fun w => pgood_any s w _ rfl)
  have HC := Lib.hid hc
  generalize goodS s = g at *
  obtain ⟨n1, n2⟩ := hn
  obtain ⟨s1, s2⟩ := hs
  clear hc
  by_cases q1 : 1 ≤ n
  · by_cases q2 : n ≤ 16777216
    · have HC2 : Hid (g = c) := Lib.hid (by rw [← HC.out]; simp [q1, q2])
      go_enter Tryd.func76, Tryd.ntmps76
      go_wp2_with (go_at_call 80; refine (HG.out _).mono ?_; rintro e w' ⟨rfl, rfl⟩)
      go_ret
      exact ⟨ret_bool HC2.out, by repeat' (first | with_reducible assumption | with_reducible exact AnyLater.refl _ | with_reducible apply AnyLater.setCell | with_reducible apply AnyLater.later | with_reducible apply AnyLater.drewN | with_reducible apply AnyLater.drew | with_reducible apply AnyLater.alloc | ((try simp only [World.size_alloc, World.size_setCell, World.size_drew]); (try dsimp only); omega))⟩
    · have HC2 : Hid (false = c) := Lib.hid (by rw [← HC.out]; simp [q2])
      have d2 : decide (n ≤ 16777216) = false := decide_eq_false q2
      go_enter Tryd.func76, Tryd.ntmps76
      go_wp2_with fail
      go_ret
      exact ⟨ret_bool HC2.out, by repeat' (first | with_reducible assumption | with_reducible exact AnyLater.refl _ | with_reducible apply AnyLater.setCell | with_reducible apply AnyLater.later | with_reducible apply AnyLater.drewN | with_reducible apply AnyLater.drew | with_reducible apply AnyLater.alloc | ((try simp only [World.size_alloc, World.size_setCell, World.size_drew]); (try dsimp only); omega))⟩
  · have HC2 : Hid (false = c) := Lib.hid (by rw [← HC.out]; simp [q1])
    have d1 : decide (1 ≤ n) = false := decide_eq_false q1
    go_enter Tryd.func76, Tryd.ntmps76
    go_wp2_with fail
    go_ret
    exact ⟨ret_bool HC2.out, by repeat' (first | with_reducible assumption | with_reducible exact AnyLater.refl _ | with_reducible apply AnyLater.setCell | with_reducible apply AnyLater.later | with_reducible apply AnyLater.drewN | with_reducible apply AnyLater.drew | with_reducible apply AnyLater.alloc | ((try simp only [World.size_alloc, World.size_setCell, World.size_drew]); (try dsimp only); omega))⟩
end Go.Proofs.YteplnejnhgmfiaaDoor
namespace Go.Proofs.YteplnejnhgmfiaaDoor
set_option linter.unusedSimpArgs false
set_option linter.unusedVariables false
set_option linter.unusedSectionVars false
open Go.RowKit

/-! ### one run more onto good runs -/
def addR : Runs → Int × Int → Runs
  | [], p => [p]
  | [q], p => if q.2 = p.2 then [(q.1 + p.1, q.2)] else [q, p]
  | q :: r :: l, p => q :: addR (r :: l) p
theorem consR_addR (x : Int) (p : Int × Int) : ∀ m : Runs, consR x (addR m p) = addR (consR x m) p
  | [] => by
    obtain ⟨n, t⟩ := p
    show consR x [(n, t)] = addR [(1, x)] (n, t)
    rw [consR_cons]
    unfold addR
    by_cases h : t = x
    · rw [if_pos h, if_pos (by exact h.symm), Int.add_comm, h]
    · rw [if_neg h, if_neg (by exact fun e => h e.symm)]
  | [q] => by
    obtain ⟨k, u⟩ := q
    obtain ⟨n, t⟩ := p
    rw [consR_cons]
    by_cases h : u = t
    · subst h
      by_cases h2 : u = x
      · subst h2
        simp [addR, consR, Int.add_right_comm]
      · simp [addR, consR, h2]
    · by_cases h2 : u = x
      · subst h2
        simp [addR, consR, h]
      · simp [addR, consR, h, h2]
  | (k, u) :: r :: l => by
    show consR x ((k, u) :: addR (r :: l) p) = _
    rw [consR_cons, consR_cons]
    by_cases h : u = x
    · rw [if_pos h, if_pos h]; rfl
    · rw [if_neg h, if_neg h]; rfl
theorem ofR_same (s : Int) : ∀ n : Nat, ofR (List.replicate (n + 1) s) = [(((n + 1 : Nat) : Int), s)]
  | 0 => rfl
  | n + 1 => by
    rw [List.replicate_succ]
    show consR s (ofR (List.replicate (n + 1) s)) = _
    rw [ofR_same s n, consR_cons, if_pos rfl]
    rfl
theorem ofR_add (s : Int) (n : Nat) : ∀ A : List Int, ofR (A ++ List.replicate (n + 1) s) = addR (ofR A) (((n + 1 : Nat) : Int), s)
  | [] => ofR_same s n
  | x :: A => by
    show consR x (ofR (A ++ List.replicate (n + 1) s)) = addR (consR x (ofR A)) _
    rw [ofR_add s n A, consR_addR]
theorem addR_len (p : Int × Int) : ∀ m : Runs, (addR m p).length ≤ m.length + 1
  | [] => Nat.le_refl 1
  | [q] => by unfold addR; split <;> simp
  | q :: r :: l => by
    have := addR_len p (r :: l)
    show (addR (r :: l) p).length + 1 ≤ (r :: l).length + 1 + 1
    omega
theorem addR_new (p : Int × Int) : ∀ m : Runs, (∀ q, m.getLast? = some q → q.2 ≠ p.2) → addR m p = m ++ [p]
  | [], _ => rfl
  | [q], h => by unfold addR; rw [if_neg (h q rfl)]; rfl
  | q :: r :: l, h => by
    show q :: addR (r :: l) p = q :: ((r :: l) ++ [p])
    rw [addR_new p (r :: l) (fun x hx => h x (by rw [List.getLast?_cons_cons]; exact hx))]
theorem addR_grow (n s t : Int) : ∀ (k : Nat) (m : Runs), m.length = k + 1 → m[k]? = some (t, s) → addR m (n, s) = m.modify k fun b => (t + n, b.2)
  | 0, [q], _, h => by
    cases h
    simp [addR]
  | k + 1, q :: r :: l, hl, h => by
    show q :: addR (r :: l) (n, s) = _
    rw [addR_grow n s t k (r :: l) (by simpa using hl) (by simpa using h), List.modify_succ_cons]
  | 0, q :: r :: l, hl, _ => by simp at hl
  | k + 1, [q], hl, _ => by simp at hl
theorem oneR_yes {n s : Int} (h : fairR (n, s) = true) : oneR (n, s) = List.replicate ((n - 1).toNat + 1) s ∧ (((n - 1).toNat + 1 : Nat) : Int) = n := by
  obtain ⟨h1, h2, _⟩ := fairR_in h
  simp only at h1 h2
  have e : n.toNat = (n - 1).toNat + 1 := by omega
  refine ⟨?_, by omega⟩
  unfold oneR
  rw [if_pos h]
  show List.replicate n.toNat s = _
  rw [e]
theorem oneR_no {n s : Int} (h : fairR (n, s) = false) : oneR (n, s) = [] := by
  unfold oneR
  rw [h]; rfl
/-- the good runs, a run after the other -/
theorem ofR_step {D : List Int} {n s : Int} (h : fairR (n, s) = true) : ofR (D ++ oneR (n, s)) = addR (ofR D) (n, s) := by
  obtain ⟨h1, h2⟩ := oneR_yes h
  rw [h1, ofR_add, h2]
theorem ofR_take_le (l : Runs) : ∀ j, j ≤ l.length → (ofR (stylesR (l.take j))).length ≤ j
  | 0, _ => by simp [stylesR, ofR]
  | j + 1, hj => by
    have ih := ofR_take_le l j (by omega)
    rw [styles_take (show j < l.length by omega)]
    obtain ⟨n, s⟩ := l[j]
    cases h : fairR (n, s) with
    | true => rw [ofR_step h]; have := addR_len (n, s) (ofR (stylesR (l.take j))); omega
    | false => rw [oneR_no h, List.append_nil]; omega
theorem tidyR_le (l : Runs) : (tidyR l).length ≤ l.length := by
  unfold tidyR sR
  split
  · have := ofR_take_le l l.length (Nat.le_refl _); rwa [List.take_of_length_le (Nat.le_refl _)] at this
  · exact Nat.zero_le _

/-! ### Len -/
/-- the cells of a run that a call made itself -/
theorem box_cells {w w1 : World} {x y : Value} {t : TypeId} (h : AnyLater (w.alloc (.cells #[x, y] t)) w1) : w1.cell? ⟨w.heap.size, 0, none⟩ = some x ∧ w1.cell? ⟨w.heap.size, 1, none⟩ = some y := by
  have h3 : (w.alloc (.cells #[x, y] t)).heap[w.heap.size]? = some (.cells #[x, y] t) := heap_new rfl
  exact ⟨(h.below.cell (own_lt h3)).trans (by rw [own_row h3]; rfl), (h.below.cell (own_lt h3)).trans (by rw [own_row h3]; rfl)⟩
theorem sR_over {l : Runs} {j : Nat} (h : 16777216 < (stylesR (l.take j)).length) : sR l = [] := by
  unfold sR
  rw [if_neg (by have := styles_le l j; omega)]
set_option maxRecDepth 100000 in
set_option maxHeartbeats 3200000 in
theorem plen_some (b off n cap : Nat) (l : Runs) (w : World) (c : Nat) (hcc : (sR l).length = c) (hl : l.length = n) (hn : n ≤ 90000) (hN : NumsR l) (hb : b < w.heap.size) (hc : ∀ (j : Nat) (h : j < l.length), w.cell? ⟨b, off + j * 2, none⟩ = some (.int .i64 l[j].1) ∧ w.cell? ⟨b, off + j * 2 + 1, none⟩ = some (.int .i64 l[j].2)) :
    Calls Tryd.prog 74 #[.slice (some ⟨b, off, none⟩) n cap] w fun e w' => e = .returned (.int .i64 (c : Int)) ∧ AnyLater w w' := by
  have HL := Lib.hid hl
  have HC := Lib.hid hc
  have HCC := Lib.hid hcc
  have HNN := Lib.hid hN
  clear hl hc hcc hN
  go_enter Tryd.func74, Tryd.ntmps74
  go_wp2_with fail
  go_loopg [3, 8] n (fun k s i wr => AnyLater w wr ∧ ∃ j : Nat, k = n - j ∧ j ≤ n ∧ i = .int .i64 j ∧ ∃ t : Nat, s = .int .i64 t ∧ (stylesR (l.take j)).length = t ∧ t ≤ 16777216)
  case atStart => exact ⟨AnyLater.refl _, 0, by omega, by omega, rfl, 0, rfl, rfl, by omega⟩
  case round =>
    obtain ⟨a_wr, j, hk, hj, rfl, t, rfl, ht, ht4⟩ := hrel
    have HT := Lib.hid ht
    have HA := Lib.hid a_wr
    clear ht
    by_cases hlt : j < n
    · have lj : j < l.length := by rw [HL.out]; exact hlt
      have c0 : wr.cell? ⟨b, off + j * 2, none⟩ = some (.int .i64 l[j].1) := (a_wr.below.cell hb).trans (HC.out j lj).1
      have c1 : wr.cell? ⟨b, off + j * 2 + 1, none⟩ = some (.int .i64 l[j].2) := (a_wr.below.cell hb).trans (HC.out j lj).2
      have HS := Lib.hid (styles_take lj)
      have hx := HNN.out l[j] (List.getElem_mem lj)
      have HO : Hid (((oneR l[j]).length : Int) = if fairR l[j] then l[j].1 else 0) := Lib.hid oneR_length
      generalize l[j] = x at *
      obtain ⟨f, s⟩ := x
      simp only at c0 c1 hx HO
      cases hf : fairR (f, s) with
      | true =>
        have HF := Lib.hid (fun w => kept_any f s w true hf hx.1 hx.2)
        obtain ⟨f1, f2, _⟩ := fairR_in hf
        simp only at f1 f2
        have HO2 : Hid (((oneR (f, s)).length : Int) = f) := Lib.hid (by rw [HO.out, hf]; rfl)
        clear hf hx HO
        have HA0 := Lib.hid (a_wr.alloc (.cells #[.int .i64 f, .int .i64 s] 54))
        clear a_wr
        by_cases hg : 16777216 < (t : Int) + f
        · have HZ : Hid (c = 0) := Lib.hid (by
            rw [← HCC.out, sR_over (j := j + 1) (by rw [HS.out, List.length_append, HT.out]; have := HO2.out; omega)]; rfl)
          go_wp2_with (go_at_call 76; refine (HF.out _).mono ?_; rintro e w1 ⟨rfl, b1⟩; obtain ⟨e0, e1⟩ := box_cells b1; have HA1 := Lib.hid (HA0.out.trans b1); clear b1)
          go_ret
          exact ⟨ret_i64 (by rw [HZ.out]; rfl), HA1.out⟩
        · have hgf : decide (16777216 < (t : Int) + f) = false := decide_eq_false hg
          go_wp2_with (go_at_call 76; refine (HF.out _).mono ?_; rintro e w1 ⟨rfl, b1⟩; obtain ⟨e0, e1⟩ := box_cells b1; have HA1 := Lib.hid (HA0.out.trans b1); clear b1)
          go_roundg (n - (j + 1))
          case measure => omega
          case rel => exact ⟨HA1.out, j + 1, rfl, hlt, by go_num, t + f.toNat, by go_num, by rw [HS.out, List.length_append, HT.out]; have := HO2.out; omega, by omega⟩
      | false =>
        have HF := Lib.hid (fun w => kept_any f s w false hf hx.1 hx.2)
        have HO2 : Hid (((oneR (f, s)).length : Int) = 0) := Lib.hid (by rw [HO.out, hf]; rfl)
        clear hf hx HO
        have HA0 := Lib.hid (a_wr.alloc (.cells #[.int .i64 f, .int .i64 s] 54))
        clear a_wr
        go_wp2_with (go_at_call 76; refine (HF.out _).mono ?_; rintro e w1 ⟨rfl, b1⟩; have HA1 := Lib.hid (HA0.out.trans b1); clear b1)
        go_roundg (n - (j + 1))
        case measure => omega
        case rel => exact ⟨HA1.out, j + 1, rfl, hlt, by go_num, t, rfl, by rw [HS.out, List.length_append, HT.out]; have := HO2.out; omega, ht4⟩
    · obtain rfl : j = n := by omega
      have HZ : Hid (t = c) := Lib.hid (by
        rw [← HCC.out]
        have := HT.out
        rw [List.take_of_length_le (Nat.le_of_eq HL.out)] at this
        rw [sR_small (by rw [this]; exact ht4), this])
      clear a_wr
      go_wp2_with fail
      go_ret
      exact ⟨ret_i64 (by rw [HZ.out]), HA.out⟩
theorem plen_none (A : Option Addr) (cap : Nat) (w : World) : Calls Tryd.prog 74 #[.slice A 0 cap] w fun e w' => e = .returned (.int .i64 0) ∧ w = w' := by
  go_enter Tryd.func74, Tryd.ntmps74
  go_wp2_with fail
  refine wp_loop_rounds 1 ?_
  rw [rounds_succ]
  go_wp2_with fail
  go_ret
  exact ⟨rfl, rfl⟩
/-- Len of any runs -/
theorem plen_any (v : Value) (l : Runs) (w : World) (c : Nat) (hc : (sR l).length = c) (h : RRn w v l) (hN : NumsR l) (hn : l.length ≤ 90000) : Calls Tryd.prog 74 #[v] w fun e w' => e = .returned (.int .i64 (c : Int)) ∧ AnyLater w w' := by
  obtain ⟨A, cap, rfl, h2, h3⟩ := h
  rcases Nat.eq_zero_or_pos l.length with h0 | h0
  · obtain rfl := List.eq_nil_of_length_eq_zero h0
    obtain rfl : 0 = c := by rw [← hc]; rfl
    exact same_later (plen_none A cap w)
  · obtain ⟨b, off, rfl, hb, hcc⟩ := h3 h0
    exact plen_some b off _ cap l w c hc rfl hn hN hb hcc
end Go.Proofs.YteplnejnhgmfiaaDoor
namespace Go.Proofs.YteplnejnhgmfiaaDoor
set_option linter.unusedSimpArgs false
set_option linter.unusedVariables false
set_option linter.unusedSectionVars false
open Go.RowKit

theorem orn_nil (w : World) (B : Nat) : ORn w B (.slice none 0 0) [] := ⟨rfl, .inl ⟨rfl, rfl⟩⟩
/-- the last of a row of the call's own runs: where it lies, both its cells, that it may grow -/
theorem ORn.last2 {w : World} {B m : Nat} {v : Value} {l : Runs} (o : ORn w B v l) (hn : l.length = m + 1) :
    ∃ g cap t s, v = .slice (some ⟨g, 0, none⟩) (m + 1) cap ∧ B ≤ g ∧ g < w.heap.size ∧ w.cell? ⟨g, m * 2, none⟩ = some (.int .i64 t) ∧ w.cell? ⟨g, m * 2 + 1, none⟩ = some (.int .i64 s) ∧ l[m]? = some (t, s) ∧ w.frozen? ⟨g, m * 2, none⟩ = false ∧
    ∀ x : Int, ORn (w.setCell ⟨g, m * 2, none⟩ (.int .i64 x)) B (.slice (some ⟨g, 0, none⟩) (m + 1) cap) (l.modify m fun b => (x, b.2)) := by
  obtain ⟨g, cap, t, rfl, h1, h2, h3, ⟨s, h4⟩, h5, h6⟩ := o.last hn
  obtain ⟨A, c2, e, k1, k2⟩ := o.reads
  obtain ⟨b, off, e2, hb, hc⟩ := k2 (by omega)
  rw [hn] at e
  cases e
  cases e2
  have hm : m < l.length := by omega
  have e4 : l[m] = (t, s) := by rw [List.getElem?_eq_getElem hm] at h4; exact Option.some.inj h4
  have q := (hc m hm).2
  rw [Nat.zero_add, e4] at q
  exact ⟨g, cap, t, s, rfl, h1, h2, h3, q, h4, h5, h6⟩
theorem getLast_at {l : Runs} {m : Nat} {q : Int × Int} (hn : l.length = m + 1) (h : l[m]? = some q) : l.getLast? = some q := by
  rw [List.getLast?_eq_getElem?, hn]; exact h
set_option maxRecDepth 100000 in
set_option maxHeartbeats 3200000 in
theorem ptidy_some (b off n cap c : Nat) (l : Runs) (w : World) (hcc : (sR l).length = c) (hc0 : c ≠ 0) (hl : l.length = n) (hn : n ≤ 90000) (hN : NumsR l) (hb : b < w.heap.size) (hc : ∀ (j : Nat) (h : j < l.length), w.cell? ⟨b, off + j * 2, none⟩ = some (.int .i64 l[j].1) ∧ w.cell? ⟨b, off + j * 2 + 1, none⟩ = some (.int .i64 l[j].2)) :
    Calls Tryd.prog 77 #[.slice (some ⟨b, off, none⟩) n cap] w (RowN w (tidyR l)) := by
  have hs : (stylesR l).length ≤ 16777216 := by
    rcases Nat.lt_or_ge 16777216 (stylesR l).length with h | h
    · exact absurd (by rw [← hcc]; unfold sR; rw [if_neg (by omega)]; rfl) hc0
    · exact h
  have HLen := Lib.hid (plen_some b off n cap l w c hcc hl hn hN hb hc)
  have HL := Lib.hid hl
  have HC := Lib.hid hc
  have HTD : Hid (tidyR l = ofR (stylesR l)) := Lib.hid (by unfold tidyR; rw [sR_small hs])
  have HS0 : Hid (∀ j, (stylesR (l.take j)).length ≤ 16777216) := Lib.hid (fun j => Nat.le_trans (styles_le l j) hs)
  have HTL := Lib.hid (ofR_take_le l)
  have HNN := Lib.hid hN
  clear hl hc hcc hN hs
  have d0 : ((c : Int) == 0) = false := by simpa using hc0
  have HW0 := Lib.hid (AnyLater.refl w)
  go_enter Tryd.func77, Tryd.ntmps77
  go_wp2_with (go_at_call 74; refine HLen.out.mono ?_; rintro e w0 ⟨rfl, b0⟩; have HB0 := Lib.hid (And.intro b0 (Nat.lt_of_lt_of_le hb b0.below.size)); clear b0)
  go_loopg [3, 12] n (fun k v i wr => ∃ j : Nat, k = n - j ∧ j ≤ n ∧ i = .int .i64 j ∧ AnyLater w wr ∧ ORn wr w.heap.size v (ofR (stylesR (l.take j))))
  case atStart => exact ⟨0, by omega, by omega, rfl, HB0.out.1, orn_nil _ _⟩
  case round =>
    obtain ⟨j, hk, hj, rfl, ha, ho⟩ := hrel
    have HA := Lib.hid (And.intro ha ho)
    by_cases hlt : j < n
    · have lj : j < l.length := by rw [HL.out]; exact hlt
      have c0 : wr.cell? ⟨b, off + j * 2, none⟩ = some (.int .i64 l[j].1) := (ha.below.cell hb).trans (HC.out j lj).1
      have c1 : wr.cell? ⟨b, off + j * 2 + 1, none⟩ = some (.int .i64 l[j].2) := (ha.below.cell hb).trans (HC.out j lj).2
      have HS := Lib.hid (styles_take lj)
      have hx := HNN.out l[j] (List.getElem_mem lj)
      generalize l[j] = x at *
      obtain ⟨f, s⟩ := x
      simp only at c0 c1 hx HS
      have HLJ : Hid ((ofR (stylesR (l.take j))).length ≤ j) := Lib.hid (HTL.out j (Nat.le_of_lt lj))
      have HA0 := Lib.hid ((AnyLater.refl wr).alloc (.cells #[.int .i64 f, .int .i64 s] 54))
      cases hf : fairR (f, s) with
      | true =>
        have HF := Lib.hid (fun w => kept_any f s w true hf hx.1 hx.2)
        obtain ⟨f1, f2, _⟩ := fairR_in hf
        simp only at f1 f2
        have HE : Hid (ofR (stylesR (l.take (j + 1))) = addR (ofR (stylesR (l.take j))) (f, s)) := Lib.hid (by rw [HS.out, ofR_step hf])
        have HBND := Lib.hid (ofR_le (stylesR (l.take j)))
        have HS1 := Lib.hid (HS0.out j)
        clear hf hx
        generalize ofR (stylesR (l.take j)) = m at *
        cases hm : m.length with
        | zero =>
          obtain rfl := List.eq_nil_of_length_eq_zero hm
          obtain ⟨A, cb, rfl, _, _⟩ := ho.reads
          have HE2 : Hid (addR [] (f, s) = [] ++ [(f, s)]) := Lib.hid rfl
          clear ha ho
          go_wp2_with (go_at_call 76; refine (HF.out _).mono ?_; rintro e w1 ⟨rfl, b1⟩; obtain ⟨e0, e1⟩ := box_cells b1; have b2 := HA0.out.trans b1; have HA1 := Lib.hid (And.intro (HA.out.1.trans b2) (HA.out.2.later b2)); clear b1 b2)
          go_quiet (fail)
          have b1 : AnyLater w1 (w1.drewN nq) := (AnyLater.refl w1).drewN nq
          obtain ⟨u, w2, k1, k2, k3⟩ := appRun (f, s) (HA1.out.2.later b1) (HA1.out.1.trans b1).below.size (by have := HLJ.out; omega)
          have K1 := Lib.hid k1
          have HB := Lib.hid (And.intro (k3 w (Nat.le_refl _) (HA1.out.1.trans b1)) k2)
          clear k1 k2 k3 b1
          go_wp2_with (at_builtin; refine Lib.wpList_append_run _ rfl _ _ _ _ rfl _ _ rfl rfl _ _ K1.out ?_)
          go_roundg (n - (j + 1))
          case measure => omega
          case rel => exact ⟨j + 1, rfl, hlt, by go_num, HB.out.1, by rw [HE.out, HE2.out]; exact HB.out.2⟩
        | succ i =>
          have hi : i < 90000 := by have := HLJ.out; omega
          obtain ⟨g, cb, t, t2, rfl, hB, hg, _, _, hs, _, _⟩ := ho.last2 hm
          have hbnd := HBND.out _ (List.mem_of_getElem? hs)
          simp only at hbnd
          obtain ⟨t0, t1⟩ := hbnd
          have ht : t ≤ 16777216 := by have := HS1.out; omega
          have HQ := Lib.hid (And.intro hm hs)
          clear ha ho hm hs HBND t1
          by_cases he : t2 = s
          · subst he
            have HE2 : Hid (addR m (f, t2) = m.modify i fun b => (t + f, b.2)) := Lib.hid (addR_grow f t2 t i m HQ.out.1 HQ.out.2)
            go_wp2_with (go_at_call 76; refine (HF.out _).mono ?_; rintro e w1 ⟨rfl, b1⟩; obtain ⟨e0, e1⟩ := box_cells b1; have b2 := HA0.out.trans b1; have HA1 := Lib.hid (And.intro (HA.out.1.trans b2) (HA.out.2.later b2)); clear b1 b2)
            obtain ⟨g2, cb2, t3, t4, q1, _, _, g0, g1, q2, f0, q3⟩ := HA1.out.2.last2 HQ.out.1
            cases q1
            obtain ⟨rfl, rfl⟩ : t3 = t ∧ t4 = t2 := by
              rw [HQ.out.2] at q2
              cases q2
              exact ⟨rfl, rfl⟩
            have HO2 := Lib.hid q3
            clear q2 q3
            go_quiet (fail)
            go_wp2_with fail
            go_region
            go_wp2_with fail
            go_roundg (n - (j + 1))
            case measure => omega
            case rel =>
              have b3 : AnyLater w1 (w1.drewN (nq + 1)) := (AnyLater.refl w1).drewN (nq + 1)
              obtain ⟨_, _, _, _, q1, q2, _, _, _, _, _, q3⟩ := (HA1.out.2.later b3).last2 HQ.out.1
              cases q1
              exact ⟨j + 1, rfl, hlt, by go_num, (HA1.out.1.trans b3).setCell (p := ⟨g, i * 2, none⟩) q2 _, by rw [HE.out, HE2.out]; exact q3 (t3 + f)⟩
          · have he' : (t2 == s) = false := by simpa using he
            have HE2 : Hid (addR m (f, s) = m ++ [(f, s)]) := Lib.hid (addR_new (f, s) m (fun q hq => by
              rw [getLast_at HQ.out.1 HQ.out.2] at hq
              cases hq
              exact he))
            go_wp2_with (go_at_call 76; refine (HF.out _).mono ?_; rintro e w1 ⟨rfl, b1⟩; obtain ⟨e0, e1⟩ := box_cells b1; have b2 := HA0.out.trans b1; have HA1 := Lib.hid (And.intro (HA.out.1.trans b2) (HA.out.2.later b2)); clear b1 b2)
            obtain ⟨g2, cb2, t3, t4, q1, _, _, g0, g1, q2, f0, q3⟩ := HA1.out.2.last2 HQ.out.1
            cases q1
            obtain ⟨rfl, rfl⟩ : t3 = t ∧ t4 = t2 := by
              rw [HQ.out.2] at q2
              cases q2
              exact ⟨rfl, rfl⟩
            clear q2 q3
            go_quiet (fail)
            have b1 : AnyLater w1 (w1.drewN nq) := (AnyLater.refl w1).drewN nq
            obtain ⟨u, w2, k1, k2, k3⟩ := appRun (f, s) (HA1.out.2.later b1) (HA1.out.1.trans b1).below.size (by have := HLJ.out; omega)
            have K1 := Lib.hid k1
            have HB := Lib.hid (And.intro (k3 w (Nat.le_refl _) (HA1.out.1.trans b1)) k2)
            clear k1 k2 k3 b1
            go_wp2_with (at_builtin; refine Lib.wpList_append_run _ rfl _ _ _ _ rfl _ _ rfl rfl _ _ K1.out ?_)
            go_roundg (n - (j + 1))
            case measure => omega
            case rel => exact ⟨j + 1, rfl, hlt, by go_num, HB.out.1, by rw [HE.out, HE2.out]; exact HB.out.2⟩
      | false =>
        have HF := Lib.hid (fun w => kept_any f s w false hf hx.1 hx.2)
        have HE : Hid (stylesR (l.take (j + 1)) = stylesR (l.take j)) := Lib.hid (by rw [HS.out, oneR_no hf, List.append_nil])
        clear hf hx ha ho
        go_wp2_with (go_at_call 76; refine (HF.out _).mono ?_; rintro e w1 ⟨rfl, b1⟩; have b2 := HA0.out.trans b1; have HA1 := Lib.hid (And.intro (HA.out.1.trans b2) (HA.out.2.later b2)); clear b1 b2)
        go_roundg (n - (j + 1))
        case measure => omega
        case rel => exact ⟨j + 1, rfl, hlt, by go_num, HA1.out.1, by rw [HE.out]; exact HA1.out.2⟩
    · obtain rfl : j = n := by omega
      clear ha ho
      go_wp2_with fail
      go_ret
      exact ⟨_, rfl, HA.out.1, by have := HA.out.2; rw [HTD.out]; rwa [List.take_of_length_le (Nat.le_of_eq HL.out)] at this⟩
theorem ptidy_zero (v : Value) (l : Runs) (w : World) (hcc : (sR l).length = 0) (hv : RRn w v l) (hN : NumsR l) (hn : l.length ≤ 90000) : Calls Tryd.prog 77 #[v] w (RowN w (tidyR l)) := by
  have HLen := Lib.hid (plen_any v l w 0 hcc hv hN hn)
  have HTD : Hid (tidyR l = []) := Lib.hid (by unfold tidyR; rw [List.eq_nil_of_length_eq_zero hcc]; rfl)
  clear hcc hv hN hn
  go_enter Tryd.func77, Tryd.ntmps77
  go_wp2_with (go_at_call 74; refine HLen.out.mono ?_; rintro e w0 ⟨rfl, b0⟩; have HB0 := Lib.hid b0; clear b0)
  go_ret
  exact ⟨_, rfl, HB0.out, by rw [HTD.out]; exact orn_nil _ _⟩
/-- Tidy of any runs -/
theorem ptidy_any (v : Value) (l : Runs) (w : World) (h : RRn w v l) (hN : NumsR l) (hn : l.length ≤ 90000) : Calls Tryd.prog 77 #[v] w (RowN w (tidyR l)) := by
  by_cases h0 : (sR l).length = 0
  · exact ptidy_zero v l w h0 h hN hn
  · obtain ⟨A, cap, rfl, h2, h3⟩ := h
    rcases Nat.eq_zero_or_pos l.length with h1 | h1
    · obtain rfl := List.eq_nil_of_length_eq_zero h1
      exact absurd rfl h0
    · obtain ⟨b, off, rfl, hb, hcc⟩ := h3 h1
      exact ptidy_some b off _ cap _ l w rfl h0 rfl hn hN hb hcc
end Go.Proofs.YteplnejnhgmfiaaDoor
namespace Go.Proofs.YteplnejnhgmfiaaDoor
set_option linter.unusedSimpArgs false
set_option linter.unusedVariables false
set_option linter.unusedSectionVars false
open Go.RowKit

/-! ### At -/
theorem at_step {l : Runs} {j k : Nat} {n s : Int} (hj : j < l.length) (hl : l[j] = (n, s)) (hf : fairR (n, s) = true) (h1 : (stylesR (l.take j)).length ≤ k) (h2 : (k : Int) < (stylesR (l.take j)).length + n) : (stylesR l).getD k 0 = s := by
  have e : stylesR l = stylesR (l.take j) ++ (oneR (n, s) ++ stylesR (l.drop (j + 1))) := by
    conv => lhs; rw [← List.take_append_drop (j + 1) l, stylesR_append, styles_take hj, hl]
    rw [List.append_assoc]
  obtain ⟨e1, e2⟩ := oneR_yes hf
  rw [e, List.getD_eq_getElem?_getD, List.getElem?_append_right h1, e1, List.getElem?_append_left (by rw [List.length_replicate]; omega), List.getElem?_replicate, if_pos (by omega)]
  rfl
/-! ### slices.Equal -/
/-! ### Good -/
end Go.Proofs.YteplnejnhgmfiaaDoor
namespace Go.Proofs.YteplnejnhgmfiaaDoor
set_option linter.unusedSimpArgs false
set_option linter.unusedVariables false
set_option linter.unusedSectionVars false
open Go.RowKit

/-! ### what a part has of one run -/
theorem clampI_nat (n : Int) (N : Nat) : clampI n 0 (N : Int) = ((clampZ n N : Nat) : Int) := by
  unfold clampI clampZ
  split
  · omega
  · split <;> omega
theorem clampZ_le (n : Int) (N : Nat) : clampZ n N ≤ N := by unfold clampZ; omega
theorem part_step {D : List Int} {T F n : Nat} {s : Int} (h : D.length < T) : ((D ++ List.replicate n s).take T).drop F = (D.take T).drop F ++ List.replicate (min (T - D.length) n - (F - D.length)) s := by
  rw [List.take_append, List.drop_append, List.take_replicate, List.drop_replicate, List.length_take, Nat.min_eq_right (Nat.le_of_lt h)]
theorem part_done {l : Runs} {T j : Nat} (h : T ≤ (stylesR (l.take j)).length) : (stylesR l).take T = (stylesR (l.take j)).take T := by
  conv => lhs; rw [← List.take_append_drop j l, stylesR_append, List.take_append_of_le_length h]
/-- how many bytes of a run a part has -/
theorem part_num {t T F n : Nat} (h : t < T) : clampI (T : Int) (t : Int) ((t : Int) + n) - clampI (F : Int) (t : Int) ((t : Int) + n) = ((min (T - t) n : Nat) : Int) - ((min (F - t) n : Nat) : Int) := by
  have h1 : clampI (T : Int) (t : Int) ((t : Int) + n) = (t : Int) + ((min (T - t) n : Nat) : Int) := by
    unfold clampI
    rw [if_neg (by omega)]
    split <;> omega
  have h2 : clampI (F : Int) (t : Int) ((t : Int) + n) = (t : Int) + ((min (F - t) n : Nat) : Int) := by
    unfold clampI
    split
    · omega
    · split <;> omega
  omega
theorem oneR_fair {n s : Int} (h1 : 1 ≤ n) (h2 : n ≤ 16777216) (h3 : goodS s = true) : oneR (n, s) = List.replicate n.toNat s := by
  unfold oneR fairR
  rw [if_pos]
  rw [Bool.and_eq_true, decide_eq_true_eq]
  exact ⟨⟨h1, h2⟩, h3⟩
theorem numsR_snoc {m : Runs} {n s : Int} (h : NumsR m) (h1 : I64s n) (h2 : I64s s) : NumsR (m ++ [(n, s)]) := fun r hr => by
  rcases List.mem_append.1 hr with hr | hr
  · exact h r hr
  · cases List.mem_singleton.1 hr
    exact ⟨h1, h2⟩
theorem stylesR_snoc {m : Runs} {r : Int × Int} : stylesR (m ++ [r]) = stylesR m ++ oneR r := by
  rw [stylesR_append, stylesR_cons, stylesR_nil, List.append_nil]
set_option maxRecDepth 100000 in
set_option maxHeartbeats 3200000 in
theorem ppart_some (b off n cap N T F : Nat) (l m : Runs) (f q : Int) (w : World) (hm : partR l f q = m) (hN0 : (sR l).length = N) (hT : clampZ q N = T) (hF : clampZ f N = F) (hl : l.length = n) (hn : n ≤ 90000) (hN : NumsR l) (hb : b < w.heap.size) (hc : ∀ (j : Nat) (h : j < l.length), w.cell? ⟨b, off + j * 2, none⟩ = some (.int .i64 l[j].1) ∧ w.cell? ⟨b, off + j * 2 + 1, none⟩ = some (.int .i64 l[j].2)) :
    Calls Tryd.prog 64 #[.slice (some ⟨b, off, none⟩) n cap, .int .i64 f, .int .i64 q] w (RowN w m) := by
  have hTN : T ≤ N := by rw [← hT]; exact clampZ_le q N
  have hFN : F ≤ N := by rw [← hF]; exact clampZ_le f N
  have hNN : N ≤ 16777216 := by rw [← hN0]; exact sR_len l
  have hpos : 0 < T → sR l = stylesR l := fun h => by
    unfold sR at hN0 ⊢
    split
    · rfl
    · rename_i hx; rw [if_neg hx] at hN0; simp at hN0; omega
  have HLen := Lib.hid (plen_some b off n cap l w N hN0 hl hn hN hb hc)
  have HC1 := Lib.hid (fun w => pclamp_any f 0 N w (F : Int) (by rw [clampI_nat, hF]))
  have HC2 := Lib.hid (fun w => pclamp_any q 0 N w (T : Int) (by rw [clampI_nat, hT]))
  have HL := Lib.hid hl
  have HC := Lib.hid hc
  have HNN := Lib.hid hN
  have HS0 : Hid (0 < T → ∀ j, (stylesR (l.take j)).length ≤ 16777216) := Lib.hid (fun h j => Nat.le_trans (styles_le l j) (by rw [← hpos h, hN0]; exact hNN))
  have HM : Hid (ofR (((stylesR l).take T).drop F) = m) := Lib.hid (by
    rw [← hm]
    unfold partR partL
    rw [hN0, hT, hF]
    rcases Nat.eq_zero_or_pos T with h | h
    · rw [h, List.take_zero, List.take_zero]
    · rw [hpos h])
  have HD := Lib.hid (fun j => @part_done l T j)
  have HML : Hid (((stylesR l).take T).length ≤ 16777216) := Lib.hid (by rw [List.length_take]; omega)
  clear hl hc hN hpos hm hN0 hT hF
  go_enter Tryd.func64, Tryd.ntmps64
  go_wp2_with fail
  refine HLen.out.mono ?_
  rintro e w0 ⟨rfl, b0⟩
  have HB0 := Lib.hid b0
  clear b0
  go_wp2_with fail
  refine (HC1.out _).mono ?_
  rintro e wx ⟨rfl, rfl⟩
  go_wp2_with fail
  refine (HC2.out _).mono ?_
  rintro e wx ⟨rfl, rfl⟩
  go_wp2_with fail
  have HTI := Lib.hid (fun w v O (h : RRn w v O) (hN : NumsR O) (hn : O.length ≤ 90000) => ptidy_any v O w h hN hn)
  have HTO : Hid (∀ O : Runs, stylesR O = ((stylesR l).take T).drop F → tidyR O = m) := Lib.hid (fun O h => by
    unfold tidyR
    rw [sR_small (by rw [h, List.length_drop]; have := HML.out; omega), h, HM.out])
  go_loopg [8, 9, 24] n (fun k v s i wr => ∃ j : Nat, k = n - j ∧ j ≤ n ∧ i = .int .i64 j ∧ AnyLater w wr ∧ (∃ t : Nat, s = .int .i64 t ∧ (stylesR (l.take j)).length = t ∧ t ≤ 16777216) ∧ ∃ O, ORn wr w.heap.size v O ∧ NumsR O ∧ O.length ≤ j ∧ stylesR O = ((stylesR (l.take j)).take T).drop F)
  case atStart => exact ⟨0, by omega, by omega, rfl, HB0.out, ⟨0, rfl, rfl, by omega⟩, [], orn_nil _ _, (fun r hr => by cases hr), by simp, by simp [stylesR]⟩
  case round =>
    obtain ⟨j, hk, hj, rfl, ha, ⟨t, rfl, ht, ht4⟩, O, ho, hON, hOL, hOS⟩ := hrel
    have HT := Lib.hid ht
    have HA := Lib.hid ha
    have HOS := Lib.hid hOS
    have hOL9 : O.length ≤ 90000 := by omega
    obtain ⟨A9, cb9, rfl, hcb, _⟩ := ho.reads
    clear ht hOS hcb
    by_cases hlt : j < n
    · have lj : j < l.length := by rw [HL.out]; exact hlt
      have c0 : wr.cell? ⟨b, off + j * 2, none⟩ = some (.int .i64 l[j].1) := (ha.below.cell hb).trans (HC.out j lj).1
      have c1 : wr.cell? ⟨b, off + j * 2 + 1, none⟩ = some (.int .i64 l[j].2) := (ha.below.cell hb).trans (HC.out j lj).2
      have HS := Lib.hid (styles_take lj)
      have hx := HNN.out l[j] (List.getElem_mem lj)
      have HO : Hid (((oneR l[j]).length : Int) = if fairR l[j] then l[j].1 else 0) := Lib.hid oneR_length
      generalize l[j] = x at *
      obtain ⟨f', s⟩ := x
      simp only at c0 c1 hx HO
      by_cases hbr : T ≤ t
      · have HEND : Hid (tidyR O = m) := Lib.hid (HTO.out O (by rw [HOS.out, HD.out j (by rw [HT.out]; exact hbr)]))
        have HA0 : Hid (∀ c, AnyLater wr (wr.alloc (.cells c 54))) := Lib.hid (fun c => (AnyLater.refl wr).alloc _)
        have HX := Lib.hid (fun w' (h : AnyLater wr w') => HTI.out w' (.slice A9 O.length cb9) O (ho.later h).reads hON hOL9)
        rw [HEND.out] at HX
        clear ho hON hOL hx HO ha
        go_wp2_with fail
        refine (HX.out _ (HA0.out _)).mono ?_
        rintro e wz ⟨u, rfl, b9, o9⟩
        have HZ := Lib.hid (And.intro (HA.out.trans ((HA0.out _).trans b9)) (o9.wide (HA.out.trans (HA0.out _)).below.size))
        clear b9 o9
        go_wp2_with fail
        go_ret
        exact ⟨_, rfl, HZ.out⟩
      · have hbf : decide (T ≤ t) = false := decide_eq_false hbr
        have HA0 := Lib.hid ((AnyLater.refl wr).alloc (.cells #[.int .i64 f', .int .i64 s] 54))
        cases hf : fairR (f', s) with
        | true =>
          have HF := Lib.hid (fun w => kept_any f' s w true hf hx.1 hx.2)
          obtain ⟨f1, f2, hgs⟩ := fairR_in hf
          simp only at f1 f2 hgs
          have HO2 : Hid (((oneR (f', s)).length : Int) = f') := Lib.hid (by rw [HO.out, hf]; rfl)
          have HGS := Lib.hid hgs
          obtain ⟨k', rfl⟩ := Int.eq_ofNat_of_zero_le (show 0 ≤ f' by omega)
          have HST : Hid (((stylesR (l.take (j + 1))).take T).drop F = stylesR O ++ List.replicate (min (T - t) k' - (F - t)) s) := Lib.hid (by
            rw [HS.out, HOS.out, oneR_fair f1 f2 hgs]
            have := part_step (D := stylesR (l.take j)) (T := T) (F := F) (n := k') (s := s) (by rw [HT.out]; omega)
            rw [HT.out] at this
            exact this)
          have HLE : t + k' ≤ 16777216 := by
            have := HS0.out (by omega) (j + 1)
            rw [HS.out, List.length_append, HT.out] at this
            have := HO2.out
            omega
          have HNX : Hid ((stylesR (l.take (j + 1))).length = t + k') := Lib.hid (by rw [HS.out, List.length_append, HT.out]; have := HO2.out; omega)
          have hN2 : NumsR O := hON
          have HON := Lib.hid hON
          have HP := Lib.hid (part_num (t := t) (T := T) (F := F) (n := k') (by omega))
          have H1 := Lib.hid (fun w => pclamp_any (T : Int) (t : Int) ((t : Int) + (k' : Int)) w _ rfl)
          have H2 := Lib.hid (fun w => pclamp_any (F : Int) (t : Int) ((t : Int) + (k' : Int)) w _ rfl)
          have z1 : (t : Int) ≤ clampI (T : Int) (t : Int) ((t : Int) + (k' : Int)) ∧ clampI (T : Int) (t : Int) ((t : Int) + (k' : Int)) ≤ 16777216 := by
            unfold clampI; split <;> try split
            all_goals omega
          have z2 : (t : Int) ≤ clampI (F : Int) (t : Int) ((t : Int) + (k' : Int)) ∧ clampI (F : Int) (t : Int) ((t : Int) + (k' : Int)) ≤ 16777216 := by
            unfold clampI; split <;> try split
            all_goals omega
          generalize clampI (T : Int) (t : Int) ((t : Int) + (k' : Int)) = p1 at *
          generalize clampI (F : Int) (t : Int) ((t : Int) + (k' : Int)) = p2 at *
          obtain ⟨z11, z12⟩ := z1
          obtain ⟨z21, z22⟩ := z2
          have HOO := Lib.hid ho
          clear hf hx HO hgs hON hN2 ho ha
          by_cases hp : 0 < p1 - p2
          · go_wp2_with fail
            refine (HF.out _).mono ?_
            rintro e w1 ⟨rfl, b1⟩
            obtain ⟨e0, e1⟩ := box_cells b1
            have b2 := HA0.out.trans b1
            have HA1 := Lib.hid (And.intro (HA.out.trans b2) (HOO.out.later b2))
            clear b1 b2
            go_wp2_with fail
            refine (H1.out _).mono ?_
            rintro e wx ⟨rfl, rfl⟩
            go_wp2_with fail
            refine (H2.out _).mono ?_
            rintro e wx ⟨rfl, rfl⟩
            obtain ⟨u, w2, k1, k2, k3⟩ := appRun (p1 - p2, s) HA1.out.2 HA1.out.1.below.size hOL9
            have K1 := Lib.hid k1
            have HB := Lib.hid (And.intro (k3 w (Nat.le_refl _) HA1.out.1) k2)
            clear k1 k2 k3
            go_wp2_with (at_builtin; refine Lib.wpList_append_run _ rfl _ _ _ _ rfl _ _ rfl rfl _ _ K1.out ?_)
            go_roundg (n - (j + 1))
            case measure => omega
            case rel => exact ⟨j + 1, rfl, hlt, by go_num, HB.out.1, ⟨t + k', by go_num, HNX.out, HLE⟩, O ++ [(p1 - p2, s)], HB.out.2, numsR_snoc HON.out (by constructor <;> omega) (goodS_i64 HGS.out), by rw [List.length_append]; simpa using hOL, by
              rw [HST.out, stylesR_snoc, oneR_fair (by omega) (by omega) HGS.out]
              have := HP.out
              rw [show (p1 - p2).toNat = min (T - t) k' - (F - t) by omega]⟩
          · have hpf : decide (0 < p1 - p2) = false := decide_eq_false hp
            go_wp2_with fail
            refine (HF.out _).mono ?_
            rintro e w1 ⟨rfl, b1⟩
            obtain ⟨e0, e1⟩ := box_cells b1
            have b2 := HA0.out.trans b1
            have HA1 := Lib.hid (And.intro (HA.out.trans b2) (HOO.out.later b2))
            clear b1 b2
            go_wp2_with fail
            refine (H1.out _).mono ?_
            rintro e wx ⟨rfl, rfl⟩
            go_wp2_with fail
            refine (H2.out _).mono ?_
            rintro e wx ⟨rfl, rfl⟩
            go_wp2_with fail
            go_roundg (n - (j + 1))
            case measure => omega
            case rel => exact ⟨j + 1, rfl, hlt, by go_num, HA1.out.1, ⟨t + k', by go_num, HNX.out, HLE⟩, O, HA1.out.2, HON.out, Nat.le_succ_of_le hOL, by
              have := HP.out
              rw [HST.out, show min (T - t) k' - (F - t) = 0 by omega, List.replicate_zero, List.append_nil]⟩
        | false =>
          have HF := Lib.hid (fun w => kept_any f' s w false hf hx.1 hx.2)
          have HSJ : Hid (stylesR (l.take (j + 1)) = stylesR (l.take j)) := Lib.hid (by rw [HS.out, oneR_no hf, List.append_nil])
          have HOO := Lib.hid ho
          have HON := Lib.hid hON
          clear hf hx HO ho hON ha
          go_wp2_with fail
          refine (HF.out _).mono ?_
          rintro e w1 ⟨rfl, b1⟩
          have b2 := HA0.out.trans b1
          have HA1 := Lib.hid (And.intro (HA.out.trans b2) (HOO.out.later b2))
          clear b1 b2
          go_wp2_with fail
          go_roundg (n - (j + 1))
          case measure => omega
          case rel => exact ⟨j + 1, rfl, hlt, by go_num, HA1.out.1, ⟨t, rfl, by rw [HSJ.out, HT.out], ht4⟩, O, HA1.out.2, HON.out, Nat.le_succ_of_le hOL, by rw [HSJ.out, HOS.out]⟩
    · obtain rfl : j = n := by omega
      have HEND : Hid (tidyR O = m) := Lib.hid (HTO.out O (by rw [HOS.out, List.take_of_length_le (Nat.le_of_eq HL.out)]))
      have HX := Lib.hid (HTI.out wr (.slice A9 O.length cb9) O ho.reads hON hOL9)
      rw [HEND.out] at HX
      clear ho hON hOL ha
      go_wp2_with fail
      refine HX.out.mono ?_
      rintro e wz ⟨u, rfl, b9, o9⟩
      have HZ := Lib.hid (And.intro (HA.out.trans b9) (o9.wide HA.out.below.size))
      clear b9 o9
      go_wp2_with fail
      go_ret
      exact ⟨_, rfl, HZ.out⟩
theorem ppart_none (A : Option Addr) (cap : Nat) (f q : Int) (w : World) : Calls Tryd.prog 64 #[.slice A 0 cap, .int .i64 f, .int .i64 q] w (RowN w []) := by
  have HLen := Lib.hid (fun w => plen_none A cap w)
  have HC1 := Lib.hid (fun w => pclamp_any f 0 0 w 0 (by have := clampI_nat f 0; rw [show clampZ f 0 = 0 from Nat.le_zero.1 (clampZ_le f 0)] at this; exact this))
  have HC2 := Lib.hid (fun w => pclamp_any q 0 0 w 0 (by have := clampI_nat q 0; rw [show clampZ q 0 = 0 from Nat.le_zero.1 (clampZ_le q 0)] at this; exact this))
  have HT := Lib.hid (fun w => ptidy_any (.slice none 0 0) [] w (orn_nil w 0).reads (fun r hr => by cases hr) (by simp))
  go_enter Tryd.func64, Tryd.ntmps64
  go_wp2_with fail
  refine (HLen.out _).mono ?_
  rintro e w0 ⟨rfl, rfl⟩
  go_wp2_with fail
  refine (HC1.out _).mono ?_
  rintro e wx ⟨rfl, rfl⟩
  go_wp2_with fail
  refine (HC2.out _).mono ?_
  rintro e wx ⟨rfl, rfl⟩
  go_wp2_with fail
  refine wp_loop_rounds 1 ?_
  rw [rounds_succ]
  go_wp2_with fail
  refine (HT.out _).mono ?_
  rintro e w9 ⟨u, rfl, b9, o9⟩
  have HZ := Lib.hid (And.intro b9 o9)
  clear b9 o9
  go_wp2_with fail
  go_ret
  exact ⟨_, rfl, HZ.out⟩
/-- Part of any runs -/
theorem ppart_any (v : Value) (l m : Runs) (f q : Int) (w : World) (hm : partR l f q = m) (h : RRn w v l) (hN : NumsR l) (hn : l.length ≤ 90000) : Calls Tryd.prog 64 #[v, .int .i64 f, .int .i64 q] w (RowN w m) := by
  obtain ⟨A, cap, rfl, h2, h3⟩ := h
  rcases Nat.eq_zero_or_pos l.length with hz | hz
  · obtain rfl := List.eq_nil_of_length_eq_zero hz
    obtain rfl : [] = m := by rw [← hm]; unfold partR partL; rw [show sR [] = [] from rfl, List.take_nil, List.drop_nil]; rfl
    exact ppart_none A cap f q w
  · obtain ⟨b, off, rfl, hb, hcc⟩ := h3 hz
    exact ppart_some b off _ cap _ _ _ l m f q w hm rfl rfl rfl rfl hn hN hb hcc
end Go.Proofs.YteplnejnhgmfiaaDoor
