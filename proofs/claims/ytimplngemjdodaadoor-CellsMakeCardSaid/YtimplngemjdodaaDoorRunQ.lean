/- runs, the program: a run that is put onto good runs; Len of any runs. -/
import Derived.Test.YtimplngemjdodaaDoorRunP
import Derived.LoopN
import Derived.BigRegion
import Derived.RegionTactic
namespace Go.Proofs.YtimplngemjdodaaDoor
set_option linter.unusedSimpArgs false
set_option linter.unusedVariables false
set_option linter.unusedSectionVars false
open Go.RowKit

/-! ### one run more onto good runs -/
def addR : Runs → Int × Int → Runs
  | [], p => [p]
  | [q], p => if q.2 = p.2 then [(q.1 + p.1, q.2)] else [q, p]
  | q :: r :: l, p => q :: addR (r :: l) p
theorem consR_addR (x : Int) (p : Int × Int) : ∀ m : Runs, consR x (addR m p) = addR (consR x m) p
  | [] => by
    obtain ⟨n, t⟩ := p
    show consR x [(n, t)] = addR [(1, x)] (n, t)
    rw [consR_cons]
    unfold addR
    by_cases h : t = x
    · rw [if_pos h, if_pos (by exact h.symm), Int.add_comm, h]
    · rw [if_neg h, if_neg (by exact fun e => h e.symm)]
  | [q] => by
    obtain ⟨k, u⟩ := q
    obtain ⟨n, t⟩ := p
    rw [consR_cons]
    by_cases h : u = t
    · subst h
      by_cases h2 : u = x
      · subst h2
        simp [addR, consR, Int.add_right_comm]
      · simp [addR, consR, h2]
    · by_cases h2 : u = x
      · subst h2
        simp [addR, consR, h]
      · simp [addR, consR, h, h2]
  | (k, u) :: r :: l => by
    show consR x ((k, u) :: addR (r :: l) p) = _
    rw [consR_cons, consR_cons]
    by_cases h : u = x
    · rw [if_pos h, if_pos h]; rfl
    · rw [if_neg h, if_neg h]; rfl
theorem ofR_same (s : Int) : ∀ n : Nat, ofR (List.replicate (n + 1) s) = [(((n + 1 : Nat) : Int), s)]
  | 0 => rfl
  | n + 1 => by
    rw [List.replicate_succ]
    show consR s (ofR (List.replicate (n + 1) s)) = _
    rw [ofR_same s n, consR_cons, if_pos rfl]
    rfl
theorem ofR_add (s : Int) (n : Nat) : ∀ A : List Int, ofR (A ++ List.replicate (n + 1) s) = addR (ofR A) (((n + 1 : Nat) : Int), s)
  | [] => ofR_same s n
  | x :: A => by
    show consR x (ofR (A ++ List.replicate (n + 1) s)) = addR (consR x (ofR A)) _
    rw [ofR_add s n A, consR_addR]
theorem addR_len (p : Int × Int) : ∀ m : Runs, (addR m p).length ≤ m.length + 1
  | [] => Nat.le_refl 1
  | [q] => by unfold addR; split <;> simp
  | q :: r :: l => by
    have := addR_len p (r :: l)
    show (addR (r :: l) p).length + 1 ≤ (r :: l).length + 1 + 1
    omega
theorem addR_new (p : Int × Int) : ∀ m : Runs, (∀ q, m.getLast? = some q → q.2 ≠ p.2) → addR m p = m ++ [p]
  | [], _ => rfl
  | [q], h => by unfold addR; rw [if_neg (h q rfl)]; rfl
  | q :: r :: l, h => by
    show q :: addR (r :: l) p = q :: ((r :: l) ++ [p])
    rw [addR_new p (r :: l) (fun x hx => h x (by rw [List.getLast?_cons_cons]; exact hx))]
theorem addR_grow (n s t : Int) : ∀ (k : Nat) (m : Runs), m.length = k + 1 → m[k]? = some (t, s) → addR m (n, s) = m.modify k fun b => (t + n, b.2)
  | 0, [q], _, h => by
    cases h
    simp [addR]
  | k + 1, q :: r :: l, hl, h => by
    show q :: addR (r :: l) (n, s) = _
    rw [addR_grow n s t k (r :: l) (by simpa using hl) (by simpa using h), List.modify_succ_cons]
  | 0, q :: r :: l, hl, _ => by simp at hl
  | k + 1, [q], hl, _ => by simp at hl
theorem oneR_yes {n s : Int} (h : fairR (n, s) = true) : oneR (n, s) = List.replicate ((n - 1).toNat + 1) s ∧ (((n - 1).toNat + 1 : Nat) : Int) = n := by
  obtain ⟨h1, h2, _⟩ := fairR_in h
  simp only at h1 h2
  have e : n.toNat = (n - 1).toNat + 1 := by omega
  refine ⟨?_, by omega⟩
  unfold oneR
  rw [if_pos h]
  show List.replicate n.toNat s = _
  rw [e]
theorem oneR_no {n s : Int} (h : fairR (n, s) = false) : oneR (n, s) = [] := by
  unfold oneR
  rw [h]; rfl
/-- the good runs, a run after the other -/
theorem ofR_step {D : List Int} {n s : Int} (h : fairR (n, s) = true) : ofR (D ++ oneR (n, s)) = addR (ofR D) (n, s) := by
  obtain ⟨h1, h2⟩ := oneR_yes h
  rw [h1, ofR_add, h2]
theorem ofR_take_le (l : Runs) : ∀ j, j ≤ l.length → (ofR (stylesR (l.take j))).length ≤ j
  | 0, _ => by simp [stylesR, ofR]
  | j + 1, hj => by
    have ih := ofR_take_le l j (by omega)
    rw [styles_take (show j < l.length by omega)]
    obtain ⟨n, s⟩ := l[j]
    cases h : fairR (n, s) with
    | true => rw [ofR_step h]; have := addR_len (n, s) (ofR (stylesR (l.take j))); omega
    | false => rw [oneR_no h, List.append_nil]; omega
theorem tidyR_le (l : Runs) : (tidyR l).length ≤ l.length := by
  unfold tidyR sR
  split
  · have := ofR_take_le l l.length (Nat.le_refl _); rwa [List.take_of_length_le (Nat.le_refl _)] at this
  · exact Nat.zero_le _

/-! ### Len -/
/-- the cells of a run that a call made itself -/
theorem box_cells {w w1 : World} {x y : Value} {t : TypeId} (h : AnyLater (w.alloc (.cells #[x, y] t)) w1) : w1.cell? ⟨w.heap.size, 0, none⟩ = some x ∧ w1.cell? ⟨w.heap.size, 1, none⟩ = some y := by
  have h3 : (w.alloc (.cells #[x, y] t)).heap[w.heap.size]? = some (.cells #[x, y] t) := heap_new rfl
  exact ⟨(h.below.cell (own_lt h3)).trans (by rw [own_row h3]; rfl), (h.below.cell (own_lt h3)).trans (by rw [own_row h3]; rfl)⟩
theorem sR_over {l : Runs} {j : Nat} (h : 16777216 < (stylesR (l.take j)).length) : sR l = [] := by
  unfold sR
  rw [if_neg (by have := styles_le l j; omega)]
set_option maxRecDepth 100000 in
set_option maxHeartbeats 3200000 in
theorem plen_some (b off n cap : Nat) (l : Runs) (w : World) (c : Nat) (hcc : (sR l).length = c) (hl : l.length = n) (hn : n ≤ 90000) (hN : NumsR l) (hb : b < w.heap.size) (hc : ∀ (j : Nat) (h : j < l.length), w.cell? ⟨b, off + j * 2, none⟩ = some (.int .i64 l[j].1) ∧ w.cell? ⟨b, off + j * 2 + 1, none⟩ = some (.int .i64 l[j].2)) :
    Calls Tryd.prog 46 #[.slice (some ⟨b, off, none⟩) n cap] w fun e w' => e = .returned (.int .i64 (c : Int)) ∧ AnyLater w w' := by
  have HL := Lib.hid hl
  have HC := Lib.hid hc
  have HCC := Lib.hid hcc
  have HNN := Lib.hid hN
  clear hl hc hcc hN
  go_enter Tryd.func46, Tryd.ntmps46
  go_wp2_with fail
  go_loopg [3, 8] n (fun k s i wr => AnyLater w wr ∧ ∃ j : Nat, k = n - j ∧ j ≤ n ∧ i = .int .i64 j ∧ ∃ t : Nat, s = .int .i64 t ∧ (stylesR (l.take j)).length = t ∧ t ≤ 16777216)
  case atStart => exact ⟨AnyLater.refl _, 0, by omega, by omega, rfl, 0, rfl, rfl, by omega⟩
  case round =>
    obtain ⟨a_wr, j, hk, hj, rfl, t, rfl, ht, ht4⟩ := hrel
    have HT := Lib.hid ht
    have HA := Lib.hid a_wr
    clear ht
    by_cases hlt : j < n
    · have lj : j < l.length := by rw [HL.out]; exact hlt
      have c0 : wr.cell? ⟨b, off + j * 2, none⟩ = some (.int .i64 l[j].1) := (a_wr.below.cell hb).trans (HC.out j lj).1
      have c1 : wr.cell? ⟨b, off + j * 2 + 1, none⟩ = some (.int .i64 l[j].2) := (a_wr.below.cell hb).trans (HC.out j lj).2
      have HS := Lib.hid (styles_take lj)
      have hx := HNN.out l[j] (List.getElem_mem lj)
      have HO : Hid (((oneR l[j]).length : Int) = if fairR l[j] then l[j].1 else 0) := Lib.hid oneR_length
      generalize l[j] = x at *
      obtain ⟨f, s⟩ := x
      simp only at c0 c1 hx HO
      cases hf : fairR (f, s) with
      | true =>
        have HF := Lib.hid (fun w => kept_any f s w true hf hx.1 hx.2)
        obtain ⟨f1, f2, _⟩ := fairR_in hf
        simp only at f1 f2
        have HO2 : Hid (((oneR (f, s)).length : Int) = f) := Lib.hid (by rw [HO.out, hf]; rfl)
        clear hf hx HO
        have HA0 := Lib.hid (a_wr.alloc (.cells #[.int .i64 f, .int .i64 s] 48))
        clear a_wr
        by_cases hg : 16777216 < (t : Int) + f
        · have HZ : Hid (c = 0) := Lib.hid (by
            rw [← HCC.out, sR_over (j := j + 1) (by rw [HS.out, List.length_append, HT.out]; have := HO2.out; omega)]; rfl)
          go_wp2_with (go_at_call 48; refine (HF.out _).mono ?_; rintro e w1 ⟨rfl, b1⟩; obtain ⟨e0, e1⟩ := box_cells b1; have HA1 := Lib.hid (HA0.out.trans b1); clear b1)
          go_ret
          exact ⟨ret_i64 (by rw [HZ.out]; rfl), HA1.out⟩
        · have hgf : decide (16777216 < (t : Int) + f) = false := decide_eq_false hg
          go_wp2_with (go_at_call 48; refine (HF.out _).mono ?_; rintro e w1 ⟨rfl, b1⟩; obtain ⟨e0, e1⟩ := box_cells b1; have HA1 := Lib.hid (HA0.out.trans b1); clear b1)
          go_roundg (n - (j + 1))
          case measure => omega
          case rel => exact ⟨HA1.out, j + 1, rfl, hlt, by go_num, t + f.toNat, by go_num, by rw [HS.out, List.length_append, HT.out]; have := HO2.out; omega, by omega⟩
      | false =>
        have HF := Lib.hid (fun w => kept_any f s w false hf hx.1 hx.2)
        have HO2 : Hid (((oneR (f, s)).length : Int) = 0) := Lib.hid (by rw [HO.out, hf]; rfl)
        clear hf hx HO
        have HA0 := Lib.hid (a_wr.alloc (.cells #[.int .i64 f, .int .i64 s] 48))
        clear a_wr
        go_wp2_with (go_at_call 48; refine (HF.out _).mono ?_; rintro e w1 ⟨rfl, b1⟩; have HA1 := Lib.hid (HA0.out.trans b1); clear b1)
        go_roundg (n - (j + 1))
        case measure => omega
        case rel => exact ⟨HA1.out, j + 1, rfl, hlt, by go_num, t, rfl, by rw [HS.out, List.length_append, HT.out]; have := HO2.out; omega, ht4⟩
    · obtain rfl : j = n := by omega
      have HZ : Hid (t = c) := Lib.hid (by
        rw [← HCC.out]
        have := HT.out
        rw [List.take_of_length_le (Nat.le_of_eq HL.out)] at this
        rw [sR_small (by rw [this]; exact ht4), this])
      clear a_wr
      go_wp2_with fail
      go_ret
      exact ⟨ret_i64 (by rw [HZ.out]), HA.out⟩
theorem plen_none (A : Option Addr) (cap : Nat) (w : World) : Calls Tryd.prog 46 #[.slice A 0 cap] w fun e w' => e = .returned (.int .i64 0) ∧ w = w' := by
  go_enter Tryd.func46, Tryd.ntmps46
  go_wp2_with fail
  refine wp_loop_rounds 1 ?_
  rw [rounds_succ]
  go_wp2_with fail
  go_ret
  exact ⟨rfl, rfl⟩
/-- Len of any runs -/
theorem plen_any (v : Value) (l : Runs) (w : World) (c : Nat) (hc : (sR l).length = c) (h : RRn w v l) (hN : NumsR l) (hn : l.length ≤ 90000) : Calls Tryd.prog 46 #[v] w fun e w' => e = .returned (.int .i64 (c : Int)) ∧ AnyLater w w' := by
  obtain ⟨A, cap, rfl, h2, h3⟩ := h
  rcases Nat.eq_zero_or_pos l.length with h0 | h0
  · obtain rfl := List.eq_nil_of_length_eq_zero h0
    obtain rfl : 0 = c := by rw [← hc]; rfl
    exact same_later (plen_none A cap w)
  · obtain ⟨b, off, rfl, hb, hcc⟩ := h3 h0
    exact plen_some b off _ cap l w c hc rfl hn hN hb hcc
end Go.Proofs.YtimplngemjdodaaDoor
