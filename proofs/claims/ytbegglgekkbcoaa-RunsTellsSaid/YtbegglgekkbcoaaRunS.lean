/- runs, the program: At, slices.Equal, Good of any runs. -/
import Derived.Test.YtbegglgekkbcoaaRunR
namespace Go.Proofs.Ytbegglgekkbcoaa
set_option linter.unusedSimpArgs false
set_option linter.unusedVariables false
set_option linter.unusedSectionVars false
open Go.RowKit

/-! ### At -/
theorem at_step {l : Runs} {j k : Nat} {n s : Int} (hj : j < l.length) (hl : l[j] = (n, s)) (hf : fairR (n, s) = true) (h1 : (stylesR (l.take j)).length ≤ k) (h2 : (k : Int) < (stylesR (l.take j)).length + n) : (stylesR l).getD k 0 = s := by
  have e : stylesR l = stylesR (l.take j) ++ (oneR (n, s) ++ stylesR (l.drop (j + 1))) := by
    conv => lhs; rw [← List.take_append_drop (j + 1) l, stylesR_append, styles_take hj, hl]
    rw [List.append_assoc]
  obtain ⟨e1, e2⟩ := oneR_yes hf
  rw [e, List.getD_eq_getElem?_getD, List.getElem?_append_right h1, e1, List.getElem?_append_left (by rw [List.length_replicate]; omega), List.getElem?_replicate, if_pos (by omega)]
  rfl
set_option maxRecDepth 100000 in
set_option maxHeartbeats 3200000 in
theorem pstyle_in (b off n cap i N : Nat) (l : Runs) (w : World) (c : Int) (hcc : (stylesR l).getD i 0 = c) (hN0 : (sR l).length = N) (hiN : i < N) (hl : l.length = n) (hn : n ≤ 90000) (hN : NumsR l) (hb : b < w.heap.size) (hc : ∀ (j : Nat) (h : j < l.length), w.cell? ⟨b, off + j * 2, none⟩ = some (.int .i64 l[j].1) ∧ w.cell? ⟨b, off + j * 2 + 1, none⟩ = some (.int .i64 l[j].2)) :
    Calls Try.prog 17 #[.slice (some ⟨b, off, none⟩) n cap, .int .i64 (i : Int)] w fun e w' => e = .returned (.int .i64 c) ∧ AnyLater w w' := by
  have hs : (stylesR l).length = N ∧ N ≤ 16777216 := by
    have h1 := sR_len l
    unfold sR at hN0 h1
    split at hN0
    · rename_i h; rw [if_pos h] at h1; exact ⟨hN0, by omega⟩
    · simp at hN0; omega
  have HLen := Lib.hid (plen_some b off n cap l w N hN0 hl hn hN hb hc)
  have HL := Lib.hid hl
  have HC := Lib.hid hc
  have HCC := Lib.hid hcc
  have HNN := Lib.hid hN
  have HST := Lib.hid hs.1
  have HS0 : Hid (∀ j, (stylesR (l.take j)).length ≤ 16777216) := Lib.hid (fun j => Nat.le_trans (styles_le l j) (by omega))
  have HAT := Lib.hid (fun (j : Nat) (n s : Int) (hj : j < l.length) (hl : l[j] = (n, s)) => at_step (k := i) hj hl)
  have hN2 := hs.2
  clear hl hc hcc hN hs hN0
  have q1 : ((i : Int) < 0) = False := by simp
  have q2 : decide (N ≤ i) = false := decide_eq_false (by omega)
  have q3 : i < 16777216 := by omega
  go_enter Try.func17, Try.ntmps17
  go_wp2_with (go_at_call 16; refine HLen.out.mono ?_; rintro e w0 ⟨rfl, b0⟩; have HB0 := Lib.hid b0; clear b0)
  go_loopg [5, 18] n (fun k s i' wr => AnyLater w wr ∧ ∃ j : Nat, k = n - j ∧ j ≤ n ∧ i' = .int .i64 j ∧ ∃ t : Nat, s = .int .i64 t ∧ (stylesR (l.take j)).length = t ∧ t ≤ i)
  case atStart => exact ⟨HB0.out, 0, by omega, by omega, rfl, 0, rfl, rfl, by omega⟩
  case round =>
    obtain ⟨a_wr, j, hk, hj, rfl, t, rfl, ht, ht4⟩ := hrel
    have HT := Lib.hid ht
    have HA := Lib.hid a_wr
    clear ht
    by_cases hlt : j < n
    · have lj : j < l.length := by rw [HL.out]; exact hlt
      have c0 : wr.cell? ⟨b, off + j * 2, none⟩ = some (.int .i64 l[j].1) := (a_wr.below.cell hb).trans (HC.out j lj).1
      have c1 : wr.cell? ⟨b, off + j * 2 + 1, none⟩ = some (.int .i64 l[j].2) := (a_wr.below.cell hb).trans (HC.out j lj).2
      have HS := Lib.hid (styles_take lj)
      have hx := HNN.out l[j] (List.getElem_mem lj)
      have HO : Hid (((oneR l[j]).length : Int) = if fairR l[j] then l[j].1 else 0) := Lib.hid oneR_length
      have HAJ : Hid (∀ n s : Int, l[j] = (n, s) → fairR (n, s) = true → (stylesR (l.take j)).length ≤ i → (i : Int) < (stylesR (l.take j)).length + n → (stylesR l).getD i 0 = s) := Lib.hid (fun n s h => HAT.out j n s lj h)
      generalize l[j] = x at *
      obtain ⟨f, s⟩ := x
      simp only at c0 c1 hx HO
      have HA0 := Lib.hid (a_wr.alloc (.cells #[.int .i64 f, .int .i64 s] 45))
      clear a_wr
      cases hf : fairR (f, s) with
      | true =>
        have HF := Lib.hid (fun w => kept_any f s w true hf hx.1 hx.2)
        have HFT := Lib.hid hf
        obtain ⟨f1, f2, _⟩ := fairR_in hf
        simp only at f1 f2
        have HO2 : Hid (((oneR (f, s)).length : Int) = f) := Lib.hid (by rw [HO.out, hf]; rfl)
        clear hf hx HO
        by_cases hg : (i : Int) < (t : Int) + f
        · have HZ : Hid (s = c) := Lib.hid (by
            rw [← HCC.out]
            exact (HAJ.out f s rfl HFT.out (by rw [HT.out]; omega) (by rw [HT.out]; omega)).symm)
          go_wp2_with (go_at_call 25; refine (HF.out _).mono ?_; rintro e w1 ⟨rfl, b1⟩; obtain ⟨e0, e1⟩ := box_cells b1; have HA1 := Lib.hid (HA0.out.trans b1); clear b1)
          go_ret
          exact ⟨ret_i64 HZ.out, HA1.out⟩
        · have hgf : decide ((i : Int) < (t : Int) + f) = false := decide_eq_false hg
          go_wp2_with (go_at_call 25; refine (HF.out _).mono ?_; rintro e w1 ⟨rfl, b1⟩; obtain ⟨e0, e1⟩ := box_cells b1; have HA1 := Lib.hid (HA0.out.trans b1); clear b1)
          go_roundg (n - (j + 1))
          case measure => omega
          case rel => exact ⟨HA1.out, j + 1, rfl, hlt, by go_num, t + f.toNat, by go_num, by rw [HS.out, List.length_append, HT.out]; have := HO2.out; omega, by omega⟩
      | false =>
        have HF := Lib.hid (fun w => kept_any f s w false hf hx.1 hx.2)
        have HO2 : Hid (((oneR (f, s)).length : Int) = 0) := Lib.hid (by rw [HO.out, hf]; rfl)
        clear hf hx HO
        go_wp2_with (go_at_call 25; refine (HF.out _).mono ?_; rintro e w1 ⟨rfl, b1⟩; have HA1 := Lib.hid (HA0.out.trans b1); clear b1)
        go_roundg (n - (j + 1))
        case measure => omega
        case rel => exact ⟨HA1.out, j + 1, rfl, hlt, by go_num, t, rfl, by rw [HS.out, List.length_append, HT.out]; have := HO2.out; omega, ht4⟩
    · obtain rfl : j = n := by omega
      exfalso
      have h1 := HT.out
      rw [List.take_of_length_le (Nat.le_of_eq HL.out), HST.out] at h1
      omega
theorem pstyle_low (v : Value) (i : Int) (w : World) (hi : i < 0) : Calls Try.prog 17 #[v, .int .i64 i] w fun e w' => e = .returned (.int .i64 0) ∧ w = w' := by
  go_enter Try.func17, Try.ntmps17
  go_wp2_with fail
  go_ret
  exact ⟨rfl, rfl⟩
theorem pstyle_out (v : Value) (l : Runs) (i : Int) (N : Nat) (w : World) (hi : 0 ≤ i) (hN0 : (sR l).length = N) (hiN : (N : Int) ≤ i) (h : RRn w v l) (hN : NumsR l) (hn : l.length ≤ 90000) : Calls Try.prog 17 #[v, .int .i64 i] w fun e w' => e = .returned (.int .i64 0) ∧ AnyLater w w' := by
  have HLen := Lib.hid (plen_any v l w N hN0 h hN hn)
  have q1 : decide (i < 0) = false := decide_eq_false (by omega)
  clear h hN hn hN0
  go_enter Try.func17, Try.ntmps17
  go_wp2_with (go_at_call 16; refine HLen.out.mono ?_; rintro e w0 ⟨rfl, b0⟩; have HB0 := Lib.hid b0; clear b0)
  go_ret
  exact ⟨rfl, HB0.out⟩
/-- At of any runs, at any number -/
theorem pstyle_any (v : Value) (l : Runs) (i c : Int) (w : World) (hc : atR l i = c) (h : RRn w v l) (hN : NumsR l) (hn : l.length ≤ 90000) : Calls Try.prog 17 #[v, .int .i64 i] w fun e w' => e = .returned (.int .i64 c) ∧ AnyLater w w' := by
  by_cases h0 : i < 0
  · obtain rfl : 0 = c := by rw [← hc]; unfold atR; rw [if_neg (by omega)]
    exact same_later (pstyle_low v i w h0)
  · by_cases h1 : ((sR l).length : Int) ≤ i
    · obtain rfl : 0 = c := by
        rw [← hc]; unfold atR; rw [if_pos (by omega), List.getD_eq_getElem?_getD, List.getElem?_eq_none (by omega)]; rfl
      exact pstyle_out v l i _ w (by omega) rfl h1 h hN hn
    · obtain ⟨k, rfl⟩ := Int.eq_ofNat_of_zero_le (show 0 ≤ i by omega)
      obtain ⟨A, cap, rfl, h2, h3⟩ := h
      rcases Nat.eq_zero_or_pos l.length with hz | hz
      · obtain rfl := List.eq_nil_of_length_eq_zero hz
        exact absurd (Int.natCast_nonneg k) h1
      · obtain ⟨b, off, rfl, hb, hcc⟩ := h3 hz
        refine pstyle_in b off _ cap k _ l w c ?_ rfl (by omega) rfl hn hN hb hcc
        rw [← hc]
        unfold atR
        have hs : sR l = stylesR l := by
          unfold sR
          split
          · rfl
          · rename_i h; exfalso; unfold sR at h1; rw [if_neg h] at h1; simp at h1
        rw [if_pos (by omega), hs]; rfl

/-! ### slices.Equal -/
set_option maxRecDepth 100000 in
set_option maxHeartbeats 1600000 in
theorem peq_some (b off n cap b2 off2 cap2 : Nat) (l l2 : Runs) (w : World) (hl : l.length = n) (hl2 : l2.length = n) (hn : n ≤ 100000) (hc : ∀ (j : Nat) (h : j < l.length), w.cell? ⟨b, off + j * 2, none⟩ = some (.int .i64 l[j].1) ∧ w.cell? ⟨b, off + j * 2 + 1, none⟩ = some (.int .i64 l[j].2))
    (hc2 : ∀ (j : Nat) (h : j < l2.length), w.cell? ⟨b2, off2 + j * 2, none⟩ = some (.int .i64 l2[j].1) ∧ w.cell? ⟨b2, off2 + j * 2 + 1, none⟩ = some (.int .i64 l2[j].2)) (hb : b < w.heap.size) (hb2 : b2 < w.heap.size) :
    Calls Try.prog 26 #[.slice (some ⟨b, off, none⟩) n cap, .slice (some ⟨b2, off2, none⟩) n cap2] w fun e w' => e = .returned (.bool (decide (l = l2))) ∧ AnyLater w w' := by
  have HL := Lib.hid hl
  have HL2 := Lib.hid hl2
  have HC := Lib.hid hc
  have HC2 := Lib.hid hc2
  have gb := guard_run
  have nb := neqRun
  clear hl hc hl2 hc2
  go_enter Try.func26, Try.ntmps26
  go_wp2_with fail
  go_loopg [13] n (fun k i wr => AnyLater w wr ∧ ∃ j : Nat, k = n - j ∧ j ≤ n ∧ i = .int .i64 j ∧ l.take j = l2.take j)
  case atStart => exact ⟨AnyLater.refl _, 0, by omega, by omega, rfl, by simp⟩
  case round =>
    obtain ⟨a_wr, j, hk, hj, rfl, hf⟩ := hrel
    have HF := Lib.hid hf
    have HA := Lib.hid a_wr
    clear hf
    by_cases hlt : j < n
    · have lj : j < l.length := by rw [HL.out]; exact hlt
      have lj2 : j < l2.length := by rw [HL2.out]; exact hlt
      have i1 : (j : Int) < (n : Int) := by omega
      have c0 : wr.cell? ⟨b, off + j * 2, none⟩ = some (.int .i64 l[j].1) := (a_wr.below.cell hb).trans (HC.out j lj).1
      have c1 : wr.cell? ⟨b, off + j * 2 + 1, none⟩ = some (.int .i64 l[j].2) := (a_wr.below.cell hb).trans (HC.out j lj).2
      have d0 : wr.cell? ⟨b2, off2 + j * 2, none⟩ = some (.int .i64 l2[j].1) := (a_wr.below.cell hb2).trans (HC2.out j lj2).1
      have d1 : wr.cell? ⟨b2, off2 + j * 2 + 1, none⟩ = some (.int .i64 l2[j].2) := (a_wr.below.cell hb2).trans (HC2.out j lj2).2
      have HT : Hid (l.take (j + 1) = l.take j ++ [l[j]] ∧ l2.take (j + 1) = l2.take j ++ [l2[j]]) := Lib.hid ⟨List.take_succ_eq_append_getElem lj, List.take_succ_eq_append_getElem lj2⟩
      have HD : Hid (l[j] ≠ l2[j] → decide (l = l2) = false) := Lib.hid (fun hx => decide_eq_false (fun e => hx (by subst e; rfl)))
      generalize l[j] = x at *
      generalize l2[j] = x2 at *
      obtain ⟨f, t⟩ := x
      obtain ⟨f2, t2⟩ := x2
      simp only at c0 c1 d0 d1
      clear a_wr
      by_cases h : f = f2 ∧ t = t2
      · obtain ⟨rfl, rfl⟩ := h
        go_wp2_with fail
        go_quiet (fail)
        go_wp2_with fail
        go_roundg (n - (j + 1))
        case measure => omega
        case rel => exact ⟨HA.out.drewN _, j + 1, rfl, hlt, by go_num, by rw [HT.out.1, HT.out.2, HF.out]⟩
      · have hd : (f == f2 && t == t2) = false := by
          rw [Bool.and_eq_false_iff]
          by_cases h1 : f = f2
          · right; simp; exact fun e => h ⟨h1, e⟩
          · left; simpa using h1
        have Q := Lib.hid (HD.out (fun e => h ⟨(Prod.mk.inj e).1, (Prod.mk.inj e).2⟩))
        clear h HD HT
        go_wp2_with fail
        go_quiet (fail)
        go_wp2_with fail
        go_ret
        exact ⟨ret_bool Q.out.symm, HA.out.drewN _⟩
    · obtain rfl : j = n := by omega
      have Q : Hid (decide (l = l2) = true) := Lib.hid (decide_eq_true (by
        have := HF.out
        rwa [List.take_of_length_le (Nat.le_of_eq HL.out), List.take_of_length_le (Nat.le_of_eq HL2.out)] at this))
      clear a_wr
      go_wp2_with fail
      go_ret
      exact ⟨ret_bool Q.out.symm, HA.out⟩
theorem peq_apart (A A2 : Option Addr) (n n2 cap cap2 : Nat) (w : World) (h : n ≠ n2) :
    Calls Try.prog 26 #[.slice A n cap, .slice A2 n2 cap2] w fun e w' => e = .returned (.bool false) ∧ w = w' := by
  have h1 : ((n : Int) != (n2 : Int)) = true := by simp; omega
  clear h
  go_enter Try.func26, Try.ntmps26
  go_wp2_with fail
  go_ret
  exact ⟨rfl, rfl⟩
theorem peq_none (A A2 : Option Addr) (cap cap2 : Nat) (w : World) :
    Calls Try.prog 26 #[.slice A 0 cap, .slice A2 0 cap2] w fun e w' => e = .returned (.bool true) ∧ w = w' := by
  go_enter Try.func26, Try.ntmps26
  go_wp2_with fail
  refine wp_loop_rounds 1 ?_
  rw [rounds_succ]
  go_wp2_with fail
  go_ret
  exact ⟨rfl, rfl⟩
/-- slices.Equal of any two lists of runs -/
theorem peq_any (v v2 : Value) (l l2 : Runs) (w : World) (c : Bool) (hcc : decide (l = l2) = c) (h : RRn w v l) (h2 : RRn w v2 l2) (hn : l.length ≤ 100000) :
    Calls Try.prog 26 #[v, v2] w fun e w' => e = .returned (.bool c) ∧ AnyLater w w' := by
  subst hcc
  obtain ⟨A, cap, rfl, k1, k2⟩ := h
  obtain ⟨A2, cap2, rfl, m1, m2⟩ := h2
  by_cases hl : l.length = l2.length
  · rcases Nat.eq_zero_or_pos l.length with h0 | h0
    · obtain rfl := List.eq_nil_of_length_eq_zero h0
      obtain rfl := List.eq_nil_of_length_eq_zero (hl.symm.trans h0)
      exact same_later (peq_none A A2 cap cap2 w)
    · obtain ⟨b, off, rfl, hb, hc⟩ := k2 h0
      obtain ⟨b2, off2, rfl, hb2, hc2⟩ := m2 (by omega)
      rw [← hl]
      exact peq_some b off _ cap b2 off2 cap2 l l2 w rfl hl.symm hn hc hc2 hb hb2
  · have e : decide (l = l2) = false := decide_eq_false (fun e => hl (by rw [e]))
    rw [e]
    exact same_later (peq_apart A A2 _ _ cap cap2 w hl)

/-! ### Good -/
theorem pgoodl_any (v : Value) (l : Runs) (c : Bool) (w : World) (hc : decide (tidyR l = l) = c) (h : RRn w v l) (hN : NumsR l) (hn : l.length ≤ 90000) : Calls Try.prog 15 #[v] w fun e w' => e = .returned (.bool c) ∧ AnyLater w w' := by
  have HT := Lib.hid (ptidy_any v l w h hN hn)
  have HE : Hid (∀ (w1 : World) (u : Value), AnyLater w w1 → RRn w1 u (tidyR l) → Calls Try.prog 26 #[v, u] w1 fun e w' => e = .returned (.bool c) ∧ AnyLater w1 w') :=
    Lib.hid (fun w1 u ha hu => peq_any v u l (tidyR l) w1 c (by rw [← hc]; exact decide_eq_decide.2 eq_comm) (h.later ha) hu (by omega))
  clear h hN hn hc
  go_enter Try.func15, Try.ntmps15
  go_wp2_with fail
  refine HT.out.mono ?_
  rintro e w1 ⟨u, rfl, b1, o1⟩
  have HE1 := Lib.hid (HE.out w1 u b1 o1.reads)
  have HB1 := Lib.hid b1
  clear b1 o1
  go_wp2_with (go_at_call 26; refine HE1.out.mono ?_; rintro e w2 ⟨rfl, b2⟩; have HB2 := Lib.hid (HB1.out.trans b2); clear b2)
  go_ret
  exact ⟨rfl, HB2.out⟩
end Go.Proofs.Ytbegglgekkbcoaa
