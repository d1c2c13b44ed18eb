/- what the proof stands on: RunS RunT RunU RunV RunX -/
import Derived.Test.YtamhnffokoejjaaGreatDoorKnax
import Derived.Lib.AppendZeros
namespace Go.Proofs.YtamhnffokoejjaaGreatDoor
set_option linter.unusedSimpArgs false
set_option linter.unusedVariables false
set_option linter.unusedSectionVars false
open Go.RowKit
theorem at_step {l : Runs} {j k : Nat} {n s : Int} (hj : j < l.length) (hl : l[j] = (n, s)) (hf : fairR (n, s) = true) (h1 : (stylesR (l.take j)).length ≤ k) (h2 : (k : Int) < (stylesR (l.take j)).length + n) : (stylesR l).getD k 0 = s := by
  have e : stylesR l = stylesR (l.take j) ++ (oneR (n, s) ++ stylesR (l.drop (j + 1))) := by
    conv => lhs; rw [← List.take_append_drop (j + 1) l, stylesR_append, styles_take hj, hl]
    rw [List.append_assoc]
  obtain ⟨e1, e2⟩ := oneR_yes hf
  rw [e, List.getD_eq_getElem?_getD, List.getElem?_append_right h1, e1, List.getElem?_append_left (by rw [List.length_replicate]; omega), List.getElem?_replicate, if_pos (by omega)]
  rfl
set_option maxRecDepth 100000 in
set_option maxHeartbeats 3200000 in
theorem pstyle_in (b off n cap i N : Nat) (l : Runs) (w : World) (c : Int) (hcc : (stylesR l).getD i 0 = c) (hN0 : (sR l).length = N) (hiN : i < N) (hl : l.length = n) (hn : n ≤ 90000) (hN : NumsR l) (hb : b < w.heap.size) (hc : ∀ (j : Nat) (h : j < l.length), w.cell? ⟨b, off + j * 2, none⟩ = some (.int .i64 l[j].1) ∧ w.cell? ⟨b, off + j * 2 + 1, none⟩ = some (.int .i64 l[j].2)) :
    Calls Tryz.prog 171 #[.slice (some ⟨b, off, none⟩) n cap, .int .i64 (i : Int)] w fun e w' => e = .returned (.int .i64 c) ∧ AnyLater w w' := by
  have hs : (stylesR l).length = N ∧ N ≤ 16777216 := by
    have h1 := sR_len l
    unfold sR at hN0 h1
    split at hN0
    · rename_i h; rw [if_pos h] at h1; exact ⟨hN0, by omega⟩
    · simp at hN0; omega
  have HLen := Lib.hid (plen_some b off n cap l w N hN0 hl hn hN hb hc)
  have HL := Lib.hid hl
  have HC := Lib.hid hc
  have HCC := Lib.hid hcc
  have HNN := Lib.hid hN
  have HST := Lib.hid hs.1
  have HS0 : Hid (∀ j, (stylesR (l.take j)).length ≤ 16777216) := Lib.hid (fun j => Nat.le_trans (styles_le l j) (by omega))
  have HAT := Lib.hid (fun (j : Nat) (n s : Int) (hj : j < l.length) (hl : l[j] = (n, s)) => at_step (k := i) hj hl)
  have hN2 := hs.2
  clear hl hc hcc hN hs hN0
  have q1 : ((i : Int) < 0) = False := by simp
  have q2 : decide (N ≤ i) = false := decide_eq_false (by omega)
  have q3 : i < 16777216 := by omega
  go_enter Tryz.func171, Tryz.ntmps171
  go_wp2_with (go_at_call 65; refine HLen.out.mono ?_; rintro e w0 ⟨rfl, b0⟩; have HB0 := Lib.hid b0; clear b0)
  go_loopg [5, 18] n (fun k s i' wr => AnyLater w wr ∧ ∃ j : Nat, k = n - j ∧ j ≤ n ∧ i' = .int .i64 j ∧ ∃ t : Nat, s = .int .i64 t ∧ (stylesR (l.take j)).length = t ∧ t ≤ i)
  case atStart => exact ⟨HB0.out, 0, by omega, by omega, rfl, 0, rfl, rfl, by omega⟩
  case round =>
    obtain ⟨a_wr, j, hk, hj, rfl, t, rfl, ht, ht4⟩ := hrel
    have HT := Lib.hid ht
    have HA := Lib.hid a_wr
    clear ht
    by_cases hlt : j < n
    · have lj : j < l.length := by rw [HL.out]; exact hlt
      have c0 : wr.cell? ⟨b, off + j * 2, none⟩ = some (.int .i64 l[j].1) := (a_wr.below.cell hb).trans (HC.out j lj).1
      have c1 : wr.cell? ⟨b, off + j * 2 + 1, none⟩ = some (.int .i64 l[j].2) := (a_wr.below.cell hb).trans (HC.out j lj).2
      have HS := Lib.hid (styles_take lj)
      have hx := HNN.out l[j] (List.getElem_mem lj)
      have HO : Hid (((oneR l[j]).length : Int) = if fairR l[j] then l[j].1 else 0) := Lib.hid oneR_length
      have HAJ : Hid (∀ n s : Int, l[j] = (n, s) → fairR (n, s) = true → (stylesR (l.take j)).length ≤ i → (i : Int) < (stylesR (l.take j)).length + n → (stylesR l).getD i 0 = s) := Lib.hid (fun n s h => HAT.out j n s lj h)
      generalize l[j] = x at *
      obtain ⟨f, s⟩ := x
      simp only at c0 c1 hx HO
      have HA0 := Lib.hid (a_wr.alloc (.cells #[.int .i64 f, .int .i64 s] 76))
      clear a_wr
      cases hf : fairR (f, s) with
      | true =>
        have HF := Lib.hid (fun w => kept_any f s w true hf hx.1 hx.2)
        have HFT := Lib.hid hf
        obtain ⟨f1, f2, _⟩ := fairR_in hf
        simp only at f1 f2
        have HO2 : Hid (((oneR (f, s)).length : Int) = f) := Lib.hid (by rw [HO.out, hf]; rfl)
        clear hf hx HO
        by_cases hg : (i : Int) < (t : Int) + f
        · have HZ : Hid (s = c) := Lib.hid (by
            rw [← HCC.out]
            exact (HAJ.out f s rfl HFT.out (by rw [HT.out]; omega) (by rw [HT.out]; omega)).symm)
          go_wp2_with (go_at_call 88; refine (HF.out _).mono ?_; rintro e w1 ⟨rfl, b1⟩; obtain ⟨e0, e1⟩ := box_cells b1; have HA1 := Lib.hid (HA0.out.trans b1); clear b1)
          go_ret
          exact ⟨ret_i64 HZ.out, HA1.out⟩
        · have hgf : decide ((i : Int) < (t : Int) + f) = false := decide_eq_false hg
          go_wp2_with (go_at_call 88; refine (HF.out _).mono ?_; rintro e w1 ⟨rfl, b1⟩; obtain ⟨e0, e1⟩ := box_cells b1; have HA1 := Lib.hid (HA0.out.trans b1); clear b1)
          go_roundg (n - (j + 1))
          case measure => omega
          case rel => exact ⟨HA1.out, j + 1, rfl, hlt, by go_num, t + f.toNat, by go_num, by rw [HS.out, List.length_append, HT.out]; have := HO2.out; omega, by omega⟩
      | false =>
        have HF := Lib.hid (fun w => kept_any f s w false hf hx.1 hx.2)
        have HO2 : Hid (((oneR (f, s)).length : Int) = 0) := Lib.hid (by rw [HO.out, hf]; rfl)
        clear hf hx HO
        go_wp2_with (go_at_call 88; refine (HF.out _).mono ?_; rintro e w1 ⟨rfl, b1⟩; have HA1 := Lib.hid (HA0.out.trans b1); clear b1)
        go_roundg (n - (j + 1))
        case measure => omega
        case rel => exact ⟨HA1.out, j + 1, rfl, hlt, by go_num, t, rfl, by rw [HS.out, List.length_append, HT.out]; have := HO2.out; omega, ht4⟩
    · obtain rfl : j = n := by omega
      exfalso
      have h1 := HT.out
      rw [List.take_of_length_le (Nat.le_of_eq HL.out), HST.out] at h1
      omega
theorem pstyle_low (v : Value) (i : Int) (w : World) (hi : i < 0) : Calls Tryz.prog 171 #[v, .int .i64 i] w fun e w' => e = .returned (.int .i64 0) ∧ w = w' := by
  go_enter Tryz.func171, Tryz.ntmps171
  go_wp2_with fail
  go_ret
  exact ⟨rfl, rfl⟩
theorem pstyle_out (v : Value) (l : Runs) (i : Int) (N : Nat) (w : World) (hi : 0 ≤ i) (hN0 : (sR l).length = N) (hiN : (N : Int) ≤ i) (h : RRn w v l) (hN : NumsR l) (hn : l.length ≤ 90000) : Calls Tryz.prog 171 #[v, .int .i64 i] w fun e w' => e = .returned (.int .i64 0) ∧ AnyLater w w' := by
  have HLen := Lib.hid (plen_any v l w N hN0 h hN hn)
  have q1 : decide (i < 0) = false := decide_eq_false (by omega)
  clear h hN hn hN0
  go_enter Tryz.func171, Tryz.ntmps171
  go_wp2_with (go_at_call 65; refine HLen.out.mono ?_; rintro e w0 ⟨rfl, b0⟩; have HB0 := Lib.hid b0; clear b0)
  go_ret
  exact ⟨rfl, HB0.out⟩
theorem pstyle_any (v : Value) (l : Runs) (i c : Int) (w : World) (hc : atR l i = c) (h : RRn w v l) (hN : NumsR l) (hn : l.length ≤ 90000) : Calls Tryz.prog 171 #[v, .int .i64 i] w fun e w' => e = .returned (.int .i64 c) ∧ AnyLater w w' := by
  by_cases h0 : i < 0
  · obtain rfl : 0 = c := by rw [← hc]; unfold atR; rw [if_neg (by omega)]
    exact same_later (pstyle_low v i w h0)
  · by_cases h1 : ((sR l).length : Int) ≤ i
    · obtain rfl : 0 = c := by
        rw [← hc]; unfold atR; rw [if_pos (by omega), List.getD_eq_getElem?_getD, List.getElem?_eq_none (by omega)]; rfl
      exact pstyle_out v l i _ w (by omega) rfl h1 h hN hn
    · obtain ⟨k, rfl⟩ := Int.eq_ofNat_of_zero_le (show 0 ≤ i by omega)
      obtain ⟨A, cap, rfl, h2, h3⟩ := h
      rcases Nat.eq_zero_or_pos l.length with hz | hz
      · obtain rfl := List.eq_nil_of_length_eq_zero hz
        exact absurd (Int.natCast_nonneg k) h1
      · obtain ⟨b, off, rfl, hb, hcc⟩ := h3 hz
        refine pstyle_in b off _ cap k _ l w c ?_ rfl (by omega) rfl hn hN hb hcc
        rw [← hc]
        unfold atR
        have hs : sR l = stylesR l := by
          unfold sR
          split
          · rfl
          · rename_i h; exfalso; unfold sR at h1; rw [if_neg h] at h1; simp at h1
        rw [if_pos (by omega), hs]; rfl
set_option maxRecDepth 100000 in
set_option maxHeartbeats 1600000 in
theorem peq_some (b off n cap b2 off2 cap2 : Nat) (l l2 : Runs) (w : World) (hl : l.length = n) (hl2 : l2.length = n) (hn : n ≤ 100000) (hc : ∀ (j : Nat) (h : j < l.length), w.cell? ⟨b, off + j * 2, none⟩ = some (.int .i64 l[j].1) ∧ w.cell? ⟨b, off + j * 2 + 1, none⟩ = some (.int .i64 l[j].2))
    (hc2 : ∀ (j : Nat) (h : j < l2.length), w.cell? ⟨b2, off2 + j * 2, none⟩ = some (.int .i64 l2[j].1) ∧ w.cell? ⟨b2, off2 + j * 2 + 1, none⟩ = some (.int .i64 l2[j].2)) (hb : b < w.heap.size) (hb2 : b2 < w.heap.size) :
    Calls Tryz.prog 105 #[.slice (some ⟨b, off, none⟩) n cap, .slice (some ⟨b2, off2, none⟩) n cap2] w fun e w' => e = .returned (.bool (decide (l = l2))) ∧ AnyLater w w' := by
  have HL := Lib.hid hl
  have HL2 := Lib.hid hl2
  have HC := Lib.hid hc
  have HC2 := Lib.hid hc2
  have gb := guard_run
  have nb := neqRun
  clear hl hc hl2 hc2
  go_enter Tryz.func105, Tryz.ntmps105
  go_wp2_with fail
  go_loopg [13] n (fun k i wr => AnyLater w wr ∧ ∃ j : Nat, k = n - j ∧ j ≤ n ∧ i = .int .i64 j ∧ l.take j = l2.take j)
  case atStart => exact ⟨AnyLater.refl _, 0, by omega, by omega, rfl, by simp⟩
  case round =>
    obtain ⟨a_wr, j, hk, hj, rfl, hf⟩ := hrel
    have HF := Lib.hid hf
    have HA := Lib.hid a_wr
    clear hf
    by_cases hlt : j < n
    · have lj : j < l.length := by rw [HL.out]; exact hlt
      have lj2 : j < l2.length := by rw [HL2.out]; exact hlt
      have i1 : (j : Int) < (n : Int) := by omega
      have c0 : wr.cell? ⟨b, off + j * 2, none⟩ = some (.int .i64 l[j].1) := (a_wr.below.cell hb).trans (HC.out j lj).1
      have c1 : wr.cell? ⟨b, off + j * 2 + 1, none⟩ = some (.int .i64 l[j].2) := (a_wr.below.cell hb).trans (HC.out j lj).2
      have d0 : wr.cell? ⟨b2, off2 + j * 2, none⟩ = some (.int .i64 l2[j].1) := (a_wr.below.cell hb2).trans (HC2.out j lj2).1
      have d1 : wr.cell? ⟨b2, off2 + j * 2 + 1, none⟩ = some (.int .i64 l2[j].2) := (a_wr.below.cell hb2).trans (HC2.out j lj2).2
      have HT : Hid (l.take (j + 1) = l.take j ++ [l[j]] ∧ l2.take (j + 1) = l2.take j ++ [l2[j]]) := Lib.hid ⟨List.take_succ_eq_append_getElem lj, List.take_succ_eq_append_getElem lj2⟩
      have HD : Hid (l[j] ≠ l2[j] → decide (l = l2) = false) := Lib.hid (fun hx => decide_eq_false (fun e => hx (by subst e; rfl)))
      generalize l[j] = x at *
      generalize l2[j] = x2 at *
      obtain ⟨f, t⟩ := x
      obtain ⟨f2, t2⟩ := x2
      simp only at c0 c1 d0 d1
      clear a_wr
      by_cases h : f = f2 ∧ t = t2
      · obtain ⟨rfl, rfl⟩ := h
        go_wp2_with fail
        go_quiet (fail)
        go_wp2_with fail
        go_roundg (n - (j + 1))
        case measure => omega
        case rel => exact ⟨HA.out.drewN _, j + 1, rfl, hlt, by go_num, by rw [HT.out.1, HT.out.2, HF.out]⟩
      · have hd : (f == f2 && t == t2) = false := by
          rw [Bool.and_eq_false_iff]
          by_cases h1 : f = f2
          · right; simp; exact fun e => h ⟨h1, e⟩
          · left; simpa using h1
        have Q := Lib.hid (HD.out (fun e => h ⟨(Prod.mk.inj e).1, (Prod.mk.inj e).2⟩))
        clear h HD HT
        go_wp2_with fail
        go_quiet (fail)
        go_wp2_with fail
        go_ret
        exact ⟨ret_bool Q.out.symm, HA.out.drewN _⟩
    · obtain rfl : j = n := by omega
      have Q : Hid (decide (l = l2) = true) := Lib.hid (decide_eq_true (by
        have := HF.out
        rwa [List.take_of_length_le (Nat.le_of_eq HL.out), List.take_of_length_le (Nat.le_of_eq HL2.out)] at this))
      clear a_wr
      go_wp2_with fail
      go_ret
      exact ⟨ret_bool Q.out.symm, HA.out⟩
theorem peq_apart (A A2 : Option Addr) (n n2 cap cap2 : Nat) (w : World) (h : n ≠ n2) :
    Calls Tryz.prog 105 #[.slice A n cap, .slice A2 n2 cap2] w fun e w' => e = .returned (.bool false) ∧ w = w' := by
  have h1 : ((n : Int) != (n2 : Int)) = true := by simp; omega
  clear h
  go_enter Tryz.func105, Tryz.ntmps105
  go_wp2_with fail
  go_ret
  exact ⟨rfl, rfl⟩
theorem peq_none (A A2 : Option Addr) (cap cap2 : Nat) (w : World) :
    Calls Tryz.prog 105 #[.slice A 0 cap, .slice A2 0 cap2] w fun e w' => e = .returned (.bool true) ∧ w = w' := by
  go_enter Tryz.func105, Tryz.ntmps105
  go_wp2_with fail
  refine wp_loop_rounds 1 ?_
  rw [rounds_succ]
  go_wp2_with fail
  go_ret
  exact ⟨rfl, rfl⟩
theorem peq_any (v v2 : Value) (l l2 : Runs) (w : World) (c : Bool) (hcc : decide (l = l2) = c) (h : RRn w v l) (h2 : RRn w v2 l2) (hn : l.length ≤ 100000) :
    Calls Tryz.prog 105 #[v, v2] w fun e w' => e = .returned (.bool c) ∧ AnyLater w w' := by
  subst hcc
  obtain ⟨A, cap, rfl, k1, k2⟩ := h
  obtain ⟨A2, cap2, rfl, m1, m2⟩ := h2
  by_cases hl : l.length = l2.length
  · rcases Nat.eq_zero_or_pos l.length with h0 | h0
    · obtain rfl := List.eq_nil_of_length_eq_zero h0
      obtain rfl := List.eq_nil_of_length_eq_zero (hl.symm.trans h0)
      exact same_later (peq_none A A2 cap cap2 w)
    · obtain ⟨b, off, rfl, hb, hc⟩ := k2 h0
      obtain ⟨b2, off2, rfl, hb2, hc2⟩ := m2 (by omega)
      rw [← hl]
      exact peq_some b off _ cap b2 off2 cap2 l l2 w rfl hl.symm hn hc hc2 hb hb2
  · have e : decide (l = l2) = false := decide_eq_false (fun e => hl (by rw [e]))
    rw [e]
    exact same_later (peq_apart A A2 _ _ cap cap2 w hl)
theorem pgoodl_any (v : Value) (l : Runs) (c : Bool) (w : World) (hc : decide (tidyR l = l) = c) (h : RRn w v l) (hN : NumsR l) (hn : l.length ≤ 90000) : Calls Tryz.prog 64 #[v] w fun e w' => e = .returned (.bool c) ∧ AnyLater w w' := by
  have HT := Lib.hid (ptidy_any v l w h hN hn)
  have HE : Hid (∀ (w1 : World) (u : Value), AnyLater w w1 → RRn w1 u (tidyR l) → Calls Tryz.prog 105 #[v, u] w1 fun e w' => e = .returned (.bool c) ∧ AnyLater w1 w') :=
    Lib.hid (fun w1 u ha hu => peq_any v u l (tidyR l) w1 c (by rw [← hc]; exact decide_eq_decide.2 eq_comm) (h.later ha) hu (by omega))
  clear h hN hn hc
  go_enter Tryz.func64, Tryz.ntmps64
  go_wp2_with fail
  refine HT.out.mono ?_
  rintro e w1 ⟨u, rfl, b1, o1⟩
  have HE1 := Lib.hid (HE.out w1 u b1 o1.reads)
  have HB1 := Lib.hid b1
  clear b1 o1
  go_wp2_with (go_at_call 105; refine HE1.out.mono ?_; rintro e w2 ⟨rfl, b2⟩; have HB2 := Lib.hid (HB1.out.trans b2); clear b2)
  go_ret
  exact ⟨rfl, HB2.out⟩
end Go.Proofs.YtamhnffokoejjaaGreatDoor
namespace Go.Proofs.YtamhnffokoejjaaGreatDoor
set_option linter.unusedSimpArgs false
set_option linter.unusedVariables false
set_option linter.unusedSectionVars false
open Go.RowKit
theorem clampI_nat (n : Int) (N : Nat) : clampI n 0 (N : Int) = ((clampZ n N : Nat) : Int) := by
  unfold clampI clampZ
  split
  · omega
  · split <;> omega
theorem clampZ_le (n : Int) (N : Nat) : clampZ n N ≤ N := by unfold clampZ; omega
theorem part_step {D : List Int} {T F n : Nat} {s : Int} (h : D.length < T) : ((D ++ List.replicate n s).take T).drop F = (D.take T).drop F ++ List.replicate (min (T - D.length) n - (F - D.length)) s := by
  rw [List.take_append, List.drop_append, List.take_replicate, List.drop_replicate, List.length_take, Nat.min_eq_right (Nat.le_of_lt h)]
theorem part_done {l : Runs} {T j : Nat} (h : T ≤ (stylesR (l.take j)).length) : (stylesR l).take T = (stylesR (l.take j)).take T := by
  conv => lhs; rw [← List.take_append_drop j l, stylesR_append, List.take_append_of_le_length h]
theorem part_num {t T F n : Nat} (h : t < T) : clampI (T : Int) (t : Int) ((t : Int) + n) - clampI (F : Int) (t : Int) ((t : Int) + n) = ((min (T - t) n : Nat) : Int) - ((min (F - t) n : Nat) : Int) := by
  have h1 : clampI (T : Int) (t : Int) ((t : Int) + n) = (t : Int) + ((min (T - t) n : Nat) : Int) := by
    unfold clampI
    rw [if_neg (by omega)]
    split <;> omega
  have h2 : clampI (F : Int) (t : Int) ((t : Int) + n) = (t : Int) + ((min (F - t) n : Nat) : Int) := by
    unfold clampI
    split
    · omega
    · split <;> omega
  omega
theorem oneR_fair {n s : Int} (h1 : 1 ≤ n) (h2 : n ≤ 16777216) (h3 : goodS s = true) : oneR (n, s) = List.replicate n.toNat s := by
  unfold oneR fairR
  rw [if_pos]
  rw [Bool.and_eq_true, decide_eq_true_eq]
  exact ⟨⟨h1, h2⟩, h3⟩
theorem numsR_snoc {m : Runs} {n s : Int} (h : NumsR m) (h1 : I64s n) (h2 : I64s s) : NumsR (m ++ [(n, s)]) := fun r hr => by
  rcases List.mem_append.1 hr with hr | hr
  · exact h r hr
  · cases List.mem_singleton.1 hr
    exact ⟨h1, h2⟩
theorem stylesR_snoc {m : Runs} {r : Int × Int} : stylesR (m ++ [r]) = stylesR m ++ oneR r := by
  rw [stylesR_append, stylesR_cons, stylesR_nil, List.append_nil]
set_option maxRecDepth 100000 in
set_option maxHeartbeats 3200000 in
theorem ppart_some (b off n cap N T F : Nat) (l m : Runs) (f q : Int) (w : World) (hm : partR l f q = m) (hN0 : (sR l).length = N) (hT : clampZ q N = T) (hF : clampZ f N = F) (hl : l.length = n) (hn : n ≤ 90000) (hN : NumsR l) (hb : b < w.heap.size) (hc : ∀ (j : Nat) (h : j < l.length), w.cell? ⟨b, off + j * 2, none⟩ = some (.int .i64 l[j].1) ∧ w.cell? ⟨b, off + j * 2 + 1, none⟩ = some (.int .i64 l[j].2)) :
    Calls Tryz.prog 128 #[.slice (some ⟨b, off, none⟩) n cap, .int .i64 f, .int .i64 q] w (RowN w m) := by
  have hTN : T ≤ N := by rw [← hT]; exact clampZ_le q N
  have hFN : F ≤ N := by rw [← hF]; exact clampZ_le f N
  have hNN : N ≤ 16777216 := by rw [← hN0]; exact sR_len l
  have hpos : 0 < T → sR l = stylesR l := fun h => by
    unfold sR at hN0 ⊢
    split
    · rfl
    · rename_i hx; rw [if_neg hx] at hN0; simp at hN0; omega
  have HLen := Lib.hid (plen_some b off n cap l w N hN0 hl hn hN hb hc)
  have HC1 := Lib.hid (fun w => pclamp_any f 0 N w (F : Int) (by rw [clampI_nat, hF]))
  have HC2 := Lib.hid (fun w => pclamp_any q 0 N w (T : Int) (by rw [clampI_nat, hT]))
  have HL := Lib.hid hl
  have HC := Lib.hid hc
  have HNN := Lib.hid hN
  have HS0 : Hid (0 < T → ∀ j, (stylesR (l.take j)).length ≤ 16777216) := Lib.hid (fun h j => Nat.le_trans (styles_le l j) (by rw [← hpos h, hN0]; exact hNN))
  have HM : Hid (ofR (((stylesR l).take T).drop F) = m) := Lib.hid (by
    rw [← hm]
    unfold partR partL
    rw [hN0, hT, hF]
    rcases Nat.eq_zero_or_pos T with h | h
    · rw [h, List.take_zero, List.take_zero]
    · rw [hpos h])
  have HD := Lib.hid (fun j => @part_done l T j)
  have HML : Hid (((stylesR l).take T).length ≤ 16777216) := Lib.hid (by rw [List.length_take]; omega)
  clear hl hc hN hpos hm hN0 hT hF
  go_enter Tryz.func128, Tryz.ntmps128
  go_wp2_with fail
  refine HLen.out.mono ?_
  rintro e w0 ⟨rfl, b0⟩
  have HB0 := Lib.hid b0
  clear b0
  go_wp2_with fail
  refine (HC1.out _).mono ?_
  rintro e wx ⟨rfl, rfl⟩
  go_wp2_with fail
  refine (HC2.out _).mono ?_
  rintro e wx ⟨rfl, rfl⟩
  go_wp2_with fail
  have HTI := Lib.hid (fun w v O (h : RRn w v O) (hN : NumsR O) (hn : O.length ≤ 90000) => ptidy_any v O w h hN hn)
  have HTO : Hid (∀ O : Runs, stylesR O = ((stylesR l).take T).drop F → tidyR O = m) := Lib.hid (fun O h => by
    unfold tidyR
    rw [sR_small (by rw [h, List.length_drop]; have := HML.out; omega), h, HM.out])
  go_loopg [8, 9, 24] n (fun k v s i wr => ∃ j : Nat, k = n - j ∧ j ≤ n ∧ i = .int .i64 j ∧ AnyLater w wr ∧ (∃ t : Nat, s = .int .i64 t ∧ (stylesR (l.take j)).length = t ∧ t ≤ 16777216) ∧ ∃ O, ORn wr w.heap.size v O ∧ NumsR O ∧ O.length ≤ j ∧ stylesR O = ((stylesR (l.take j)).take T).drop F)
  case atStart => exact ⟨0, by omega, by omega, rfl, HB0.out, ⟨0, rfl, rfl, by omega⟩, [], orn_nil _ _, (fun r hr => by cases hr), by simp, by simp [stylesR]⟩
  case round =>
    obtain ⟨j, hk, hj, rfl, ha, ⟨t, rfl, ht, ht4⟩, O, ho, hON, hOL, hOS⟩ := hrel
    have HT := Lib.hid ht
    have HA := Lib.hid ha
    have HOS := Lib.hid hOS
    have hOL9 : O.length ≤ 90000 := by omega
    obtain ⟨A9, cb9, rfl, hcb, _⟩ := ho.reads
    clear ht hOS hcb
    by_cases hlt : j < n
    · have lj : j < l.length := by rw [HL.out]; exact hlt
      have c0 : wr.cell? ⟨b, off + j * 2, none⟩ = some (.int .i64 l[j].1) := (ha.below.cell hb).trans (HC.out j lj).1
      have c1 : wr.cell? ⟨b, off + j * 2 + 1, none⟩ = some (.int .i64 l[j].2) := (ha.below.cell hb).trans (HC.out j lj).2
      have HS := Lib.hid (styles_take lj)
      have hx := HNN.out l[j] (List.getElem_mem lj)
      have HO : Hid (((oneR l[j]).length : Int) = if fairR l[j] then l[j].1 else 0) := Lib.hid oneR_length
      generalize l[j] = x at *
      obtain ⟨f', s⟩ := x
      simp only at c0 c1 hx HO
      by_cases hbr : T ≤ t
      · have HEND : Hid (tidyR O = m) := Lib.hid (HTO.out O (by rw [HOS.out, HD.out j (by rw [HT.out]; exact hbr)]))
        have HA0 : Hid (∀ c, AnyLater wr (wr.alloc (.cells c 76))) := Lib.hid (fun c => (AnyLater.refl wr).alloc _)
        have HX := Lib.hid (fun w' (h : AnyLater wr w') => HTI.out w' (.slice A9 O.length cb9) O (ho.later h).reads hON hOL9)
        rw [HEND.out] at HX
        clear ho hON hOL hx HO ha
        go_wp2_with fail
        refine (HX.out _ (HA0.out _)).mono ?_
        rintro e wz ⟨u, rfl, b9, o9⟩
        have HZ := Lib.hid (And.intro (HA.out.trans ((HA0.out _).trans b9)) (o9.wide (HA.out.trans (HA0.out _)).below.size))
        clear b9 o9
        go_wp2_with fail
        go_ret
        exact ⟨_, rfl, HZ.out⟩
      · have hbf : decide (T ≤ t) = false := decide_eq_false hbr
        have HA0 := Lib.hid ((AnyLater.refl wr).alloc (.cells #[.int .i64 f', .int .i64 s] 76))
        cases hf : fairR (f', s) with
        | true =>
          have HF := Lib.hid (fun w => kept_any f' s w true hf hx.1 hx.2)
          obtain ⟨f1, f2, hgs⟩ := fairR_in hf
          simp only at f1 f2 hgs
          have HO2 : Hid (((oneR (f', s)).length : Int) = f') := Lib.hid (by rw [HO.out, hf]; rfl)
          have HGS := Lib.hid hgs
          obtain ⟨k', rfl⟩ := Int.eq_ofNat_of_zero_le (show 0 ≤ f' by omega)
          have HST : Hid (((stylesR (l.take (j + 1))).take T).drop F = stylesR O ++ List.replicate (min (T - t) k' - (F - t)) s) := Lib.hid (by
            rw [HS.out, HOS.out, oneR_fair f1 f2 hgs]
            have := part_step (D := stylesR (l.take j)) (T := T) (F := F) (n := k') (s := s) (by rw [HT.out]; omega)
            rw [HT.out] at this
            exact this)
          have HLE : t + k' ≤ 16777216 := by
            have := HS0.out (by omega) (j + 1)
            rw [HS.out, List.length_append, HT.out] at this
            have := HO2.out
            omega
          have HNX : Hid ((stylesR (l.take (j + 1))).length = t + k') := Lib.hid (by rw [HS.out, List.length_append, HT.out]; have := HO2.out; omega)
          have hN2 : NumsR O := hON
          have HON := Lib.hid hON
          have HP := Lib.hid (part_num (t := t) (T := T) (F := F) (n := k') (by omega))
          have H1 := Lib.hid (fun w => pclamp_any (T : Int) (t : Int) ((t : Int) + (k' : Int)) w _ rfl)
          have H2 := Lib.hid (fun w => pclamp_any (F : Int) (t : Int) ((t : Int) + (k' : Int)) w _ rfl)
          have z1 : (t : Int) ≤ clampI (T : Int) (t : Int) ((t : Int) + (k' : Int)) ∧ clampI (T : Int) (t : Int) ((t : Int) + (k' : Int)) ≤ 16777216 := by
            unfold clampI; split <;> try split
            all_goals omega
          have z2 : (t : Int) ≤ clampI (F : Int) (t : Int) ((t : Int) + (k' : Int)) ∧ clampI (F : Int) (t : Int) ((t : Int) + (k' : Int)) ≤ 16777216 := by
            unfold clampI; split <;> try split
            all_goals omega
          generalize clampI (T : Int) (t : Int) ((t : Int) + (k' : Int)) = p1 at *
          generalize clampI (F : Int) (t : Int) ((t : Int) + (k' : Int)) = p2 at *
          obtain ⟨z11, z12⟩ := z1
          obtain ⟨z21, z22⟩ := z2
          have HOO := Lib.hid ho
          clear hf hx HO hgs hON hN2 ho ha
          by_cases hp : 0 < p1 - p2
          · go_wp2_with fail
            refine (HF.out _).mono ?_
            rintro e w1 ⟨rfl, b1⟩
            obtain ⟨e0, e1⟩ := box_cells b1
            have b2 := HA0.out.trans b1
            have HA1 := Lib.hid (And.intro (HA.out.trans b2) (HOO.out.later b2))
            clear b1 b2
            go_wp2_with fail
            refine (H1.out _).mono ?_
            rintro e wx ⟨rfl, rfl⟩
            go_wp2_with fail
            refine (H2.out _).mono ?_
            rintro e wx ⟨rfl, rfl⟩
            obtain ⟨u, w2, k1, k2, k3⟩ := appRun (p1 - p2, s) HA1.out.2 HA1.out.1.below.size hOL9
            have K1 := Lib.hid k1
            have HB := Lib.hid (And.intro (k3 w (Nat.le_refl _) HA1.out.1) k2)
            clear k1 k2 k3
            go_wp2_with (at_builtin; refine Lib.wpList_append_run _ rfl _ _ _ _ rfl _ _ rfl rfl _ _ K1.out ?_)
            go_roundg (n - (j + 1))
            case measure => omega
            case rel => exact ⟨j + 1, rfl, hlt, by go_num, HB.out.1, ⟨t + k', by go_num, HNX.out, HLE⟩, O ++ [(p1 - p2, s)], HB.out.2, numsR_snoc HON.out (by constructor <;> omega) (goodS_i64 HGS.out), by rw [List.length_append]; simpa using hOL, by
              rw [HST.out, stylesR_snoc, oneR_fair (by omega) (by omega) HGS.out]
              have := HP.out
              rw [show (p1 - p2).toNat = min (T - t) k' - (F - t) by omega]⟩
          · have hpf : decide (0 < p1 - p2) = false := decide_eq_false hp
            go_wp2_with fail
            refine (HF.out _).mono ?_
            rintro e w1 ⟨rfl, b1⟩
            obtain ⟨e0, e1⟩ := box_cells b1
            have b2 := HA0.out.trans b1
            have HA1 := Lib.hid (And.intro (HA.out.trans b2) (HOO.out.later b2))
            clear b1 b2
            go_wp2_with fail
            refine (H1.out _).mono ?_
            rintro e wx ⟨rfl, rfl⟩
            go_wp2_with fail
            refine (H2.out _).mono ?_
            rintro e wx ⟨rfl, rfl⟩
            go_wp2_with fail
            go_roundg (n - (j + 1))
            case measure => omega
            case rel => exact ⟨j + 1, rfl, hlt, by go_num, HA1.out.1, ⟨t + k', by go_num, HNX.out, HLE⟩, O, HA1.out.2, HON.out, Nat.le_succ_of_le hOL, by
              have := HP.out
              rw [HST.out, show min (T - t) k' - (F - t) = 0 by omega, List.replicate_zero, List.append_nil]⟩
        | false =>
          have HF := Lib.hid (fun w => kept_any f' s w false hf hx.1 hx.2)
          have HSJ : Hid (stylesR (l.take (j + 1)) = stylesR (l.take j)) := Lib.hid (by rw [HS.out, oneR_no hf, List.append_nil])
          have HOO := Lib.hid ho
          have HON := Lib.hid hON
          clear hf hx HO ho hON ha
          go_wp2_with fail
          refine (HF.out _).mono ?_
          rintro e w1 ⟨rfl, b1⟩
          have b2 := HA0.out.trans b1
          have HA1 := Lib.hid (And.intro (HA.out.trans b2) (HOO.out.later b2))
          clear b1 b2
          go_wp2_with fail
          go_roundg (n - (j + 1))
          case measure => omega
          case rel => exact ⟨j + 1, rfl, hlt, by go_num, HA1.out.1, ⟨t, rfl, by rw [HSJ.out, HT.out], ht4⟩, O, HA1.out.2, HON.out, Nat.le_succ_of_le hOL, by rw [HSJ.out, HOS.out]⟩
    · obtain rfl : j = n := by omega
      have HEND : Hid (tidyR O = m) := Lib.hid (HTO.out O (by rw [HOS.out, List.take_of_length_le (Nat.le_of_eq HL.out)]))
      have HX := Lib.hid (HTI.out wr (.slice A9 O.length cb9) O ho.reads hON hOL9)
      rw [HEND.out] at HX
      clear ho hON hOL ha
      go_wp2_with fail
      refine HX.out.mono ?_
      rintro e wz ⟨u, rfl, b9, o9⟩
      have HZ := Lib.hid (And.intro (HA.out.trans b9) (o9.wide HA.out.below.size))
      clear b9 o9
      go_wp2_with fail
      go_ret
      exact ⟨_, rfl, HZ.out⟩
theorem ppart_none (A : Option Addr) (cap : Nat) (f q : Int) (w : World) : Calls Tryz.prog 128 #[.slice A 0 cap, .int .i64 f, .int .i64 q] w (RowN w []) := by
  have HLen := Lib.hid (fun w => plen_none A cap w)
  have HC1 := Lib.hid (fun w => pclamp_any f 0 0 w 0 (by have := clampI_nat f 0; rw [show clampZ f 0 = 0 from Nat.le_zero.1 (clampZ_le f 0)] at this; exact this))
  have HC2 := Lib.hid (fun w => pclamp_any q 0 0 w 0 (by have := clampI_nat q 0; rw [show clampZ q 0 = 0 from Nat.le_zero.1 (clampZ_le q 0)] at this; exact this))
  have HT := Lib.hid (fun w => ptidy_any (.slice none 0 0) [] w (orn_nil w 0).reads (fun r hr => by cases hr) (by simp))
  go_enter Tryz.func128, Tryz.ntmps128
  go_wp2_with fail
  refine (HLen.out _).mono ?_
  rintro e w0 ⟨rfl, rfl⟩
  go_wp2_with fail
  refine (HC1.out _).mono ?_
  rintro e wx ⟨rfl, rfl⟩
  go_wp2_with fail
  refine (HC2.out _).mono ?_
  rintro e wx ⟨rfl, rfl⟩
  go_wp2_with fail
  refine wp_loop_rounds 1 ?_
  rw [rounds_succ]
  go_wp2_with fail
  refine (HT.out _).mono ?_
  rintro e w9 ⟨u, rfl, b9, o9⟩
  have HZ := Lib.hid (And.intro b9 o9)
  clear b9 o9
  go_wp2_with fail
  go_ret
  exact ⟨_, rfl, HZ.out⟩
theorem ppart_any (v : Value) (l m : Runs) (f q : Int) (w : World) (hm : partR l f q = m) (h : RRn w v l) (hN : NumsR l) (hn : l.length ≤ 90000) : Calls Tryz.prog 128 #[v, .int .i64 f, .int .i64 q] w (RowN w m) := by
  obtain ⟨A, cap, rfl, h2, h3⟩ := h
  rcases Nat.eq_zero_or_pos l.length with hz | hz
  · obtain rfl := List.eq_nil_of_length_eq_zero hz
    obtain rfl : [] = m := by rw [← hm]; unfold partR partL; rw [show sR [] = [] from rfl, List.take_nil, List.drop_nil]; rfl
    exact ppart_none A cap f q w
  · obtain ⟨b, off, rfl, hb, hcc⟩ := h3 hz
    exact ppart_some b off _ cap _ _ _ l m f q w hm rfl rfl rfl rfl hn hN hb hcc
end Go.Proofs.YtamhnffokoejjaaGreatDoor
namespace Go.Proofs.YtamhnffokoejjaaGreatDoor
set_option linter.unusedSimpArgs false
set_option linter.unusedVariables false
set_option linter.unusedSectionVars false
open Go.RowKit
theorem zeroRow (w : World) (n : Nat) (h0 : 0 < n) (hn : n ≤ 300000) :
    ∃ g cap w2, (Builtin.append_ #[35, 3] 35 #[.slice none 0 0, .int .i64 (n : Int)]).run Tryz.prog w = .ok (.slice (some ⟨g, 0, none⟩) n cap) w2 ∧ AnyLater w w2 ∧ ORn w2 w.heap.size (.slice (some ⟨g, 0, none⟩) 0 cap) [] := by
  obtain ⟨i0, hi0, hz0, hz1, hz2⟩ := info_parts info_run
  have hcap := grownCap_ge w n 0 76
  have hcap2 := grownCap_le_maxLen w n 0 76 (by unfold maxLen; omega)
  refine ⟨_, _, _, Lib.run_append_nil_zeros (P := Tryz.prog) w 35 3 35 76 i0 (.agg #[.int .i64 0, .int .i64 0]) .i64 .i64 Tryz.underlying35 (by kernel_rfl) hi0 hz0 n h0 (by rw [hz1]; decide) (by omega) (by rw [hz2]; omega), ?_, rfl, .inr ⟨w.heap.size, _, _, rfl, Nat.le_refl _, heap_new rfl, Nat.zero_le _, hcap2, ?_, rfl⟩⟩
  · exact (((AnyLater.refl w).drewN 1).alloc _)
  · rw [Array.size_append, size_zeroCells, size_zeroCells]
    show n * 2 + (grownCap w n 0 76 - n) * 2 = _
    omega
set_option maxRecDepth 100000 in
theorem pgrow_none (n : Int) (w : World) (h0 : 1 ≤ n) (hn : n ≤ 300000) : Calls Tryz.prog 219 #[.slice none 0 0, .int .i64 n] w (RowN w []) := by
  obtain ⟨N, rfl⟩ := Int.eq_ofNat_of_zero_le (show 0 ≤ n by omega)
  obtain ⟨g, cap, w2, k1, k2, k3⟩ := zeroRow w N (by omega) (by omega)
  have K1 := Lib.hid k1
  have HB := Lib.hid (And.intro k2 k3)
  have hcap : N ≤ 300000 := by omega
  have hpos : 0 < N := by omega
  clear k1 k2 k3
  go_enter Tryz.func219, Tryz.ntmps219
  go_wp2_with (at_builtin; refine Lib.wpList_append_run _ rfl _ _ _ _ rfl _ _ rfl rfl _ _ K1.out ?_)
  go_ret
  exact ⟨_, rfl, HB.out⟩
set_option maxRecDepth 100000 in
set_option maxHeartbeats 3200000 in
theorem pcat_any (g : Nat) (v1 v2 v3 : Value) (a b c : Runs) (w : World) (hg : g < w.heap.size) (c1 : w.cell? ⟨g, 0, none⟩ = some v1) (c2 : w.cell? ⟨g, 1, none⟩ = some v2) (c3 : w.cell? ⟨g, 2, none⟩ = some v3) (h1 : RRn w v1 a) (h2 : RRn w v2 b) (h3 : RRn w v3 c) (hp : 1 ≤ b.length) (hs : a.length + b.length + c.length ≤ 90000) :
    Calls Tryz.prog 176 #[.slice (some ⟨g, 0, none⟩) 3 3] w (RowN w (a ++ b ++ c)) := by
  have H1 := Lib.hid h1
  have H2 := Lib.hid h2
  have H3 := Lib.hid h3
  obtain ⟨A1, q1, rfl, _, _⟩ := h1
  obtain ⟨A2, q2, rfl, _, _⟩ := h2
  obtain ⟨A3, q3, rfl, _, _⟩ := h3
  have HC1 := Lib.hid c1
  have HC2 := Lib.hid c2
  have HC3 := Lib.hid c3
  have HG := Lib.hid (fun n w => pgrow_none n w)
  have s1 : a.length ≤ 90000 := by omega
  have s2 : b.length ≤ 90000 := by omega
  have s3 : c.length ≤ 90000 := by omega
  go_enter Tryz.func176, Tryz.ntmps176
  go_wp2_with fail
  refine wp_loop_rounds 4 ?_
  rw [rounds_succ]
  go_wp2_with fail
  rw [rounds_succ]
  go_wp2_with fail
  rw [rounds_succ]
  go_wp2_with fail
  rw [rounds_succ]
  go_wp2_with fail
  refine (HG.out _ _ (by omega) (by omega)).mono ?_
  rintro e w1 ⟨x1, rfl, b1, o1⟩
  have HB1 := Lib.hid (And.intro b1 o1)
  clear b1 o1 c1 c2 c3
  obtain ⟨A9, q9, rfl, _, _⟩ := HB1.out.2.reads
  go_wp2_with fail
  refine wp_loop_rounds 4 ?_
  rw [rounds_succ]
  have c1 : w1.cell? ⟨g, 0, none⟩ = some (.slice A1 a.length q1) := (HB1.out.1.below.cell hg).trans HC1.out
  obtain ⟨x2, w2, k1, k2, k3⟩ := appRuns HB1.out.2 (H1.out.later HB1.out.1) HB1.out.1.below.size (by simp only [List.length_append, List.length_nil]; omega)
  have K1 := Lib.hid k1
  have HB2 := Lib.hid (And.intro (ORn.grown HB1.out.2 (Nat.le_refl _) HB1.out.1 k3) k2)
  clear k1 k2 k3
  go_wp2_with (at_builtin; refine Lib.wpList_append_run _ rfl _ _ _ _ rfl _ _ rfl rfl _ _ K1.out ?_)
  rw [rounds_succ]
  have c2 : w2.cell? ⟨g, 1, none⟩ = some (.slice A2 b.length q2) := (HB2.out.1.below.cell hg).trans HC2.out
  obtain ⟨x3, w3, k1, k2, k3⟩ := appRuns HB2.out.2 (H2.out.later HB2.out.1) HB2.out.1.below.size (by simp only [List.length_append, List.length_nil]; omega)
  have K2 := Lib.hid k1
  have HB3 := Lib.hid (And.intro (ORn.grown HB2.out.2 (Nat.le_refl _) HB2.out.1 k3) k2)
  clear k1 k2 k3
  go_wp2_with (at_builtin; refine Lib.wpList_append_run _ rfl _ _ _ _ rfl _ _ rfl rfl _ _ K2.out ?_)
  rw [rounds_succ]
  have c3 : w3.cell? ⟨g, 2, none⟩ = some (.slice A3 c.length q3) := (HB3.out.1.below.cell hg).trans HC3.out
  obtain ⟨x4, w4, k1, k2, k3⟩ := appRuns HB3.out.2 (H3.out.later HB3.out.1) HB3.out.1.below.size (by simp only [List.length_append, List.length_nil]; omega)
  have K3 := Lib.hid k1
  have HB4 := Lib.hid (And.intro (ORn.grown HB3.out.2 (Nat.le_refl _) HB3.out.1 k3) k2)
  clear k1 k2 k3
  go_wp2_with (at_builtin; refine Lib.wpList_append_run _ rfl _ _ _ _ rfl _ _ rfl rfl _ _ K3.out ?_)
  rw [rounds_succ]
  go_wp2_with fail
  go_ret
  exact ⟨_, rfl, HB4.out⟩
set_option maxRecDepth 100000 in
theorem pbetween_any (v1 v3 : Value) (a c m : Runs) (n s : Int) (w : World) (hm : tidyR (a ++ [(n, s)] ++ c) = m) (h1 : RRn w v1 a) (h3 : RRn w v3 c) (ha : NumsR a) (hc : NumsR c) (hn : I64s n) (hs : I64s s) (hl : a.length + c.length ≤ 89000) :
    Calls Tryz.prog 127 #[v1, .agg #[.int .i64 n, .int .i64 s], v3] w (RowN w m) := by
  have HCAT : Hid (∀ (w' : World) (g : Nat) (v2 : Value), AnyLater w w' → g < w'.heap.size → w'.cell? ⟨g, 0, none⟩ = some v1 → w'.cell? ⟨g, 1, none⟩ = some v2 → w'.cell? ⟨g, 2, none⟩ = some v3 → RRn w' v2 [(n, s)] → Calls Tryz.prog 176 #[.slice (some ⟨g, 0, none⟩) 3 3] w' (RowN w' (a ++ [(n, s)] ++ c))) :=
    Lib.hid (fun w' g v2 hw hg c1 c2 c3 h2 => pcat_any g v1 v2 v3 a [(n, s)] c w' hg c1 c2 c3 (h1.later hw) h2 (h3.later hw) (Nat.le_refl 1) (by simp only [List.length_cons, List.length_nil]; omega))
  have hN : NumsR (a ++ [(n, s)] ++ c) := fun r hr => by
    rcases List.mem_append.1 hr with hr | hr
    · exact numsR_snoc ha hn hs r hr
    · exact hc r hr
  have HT := Lib.hid (fun (w' : World) u (h : RRn w' u (a ++ [(n, s)] ++ c)) => ptidy_any u _ w' h hN (by simp only [List.length_append, List.length_cons, List.length_nil]; omega))
  have HM := Lib.hid hm
  obtain ⟨A1, q1, rfl, _, _⟩ := h1
  obtain ⟨A3, q3, rfl, _, _⟩ := h3
  clear ha hc hn hs hl hN hm
  go_enter Tryz.func127, Tryz.ntmps127
  go_wp2_with fail
  have hw : AnyLater w (((w.alloc (.cells #[.int .i64 n, .int .i64 s] 76)).alloc (.cells #[.int .i64 n, .int .i64 s] 76)).alloc (.cells #[.slice A1 a.length q1, .slice (some ⟨w.heap.size + 1, 0, none⟩) 1 1, .slice A3 c.length q3] 35)) := (((AnyLater.refl w).alloc _).alloc _).alloc _
  have hz : (((w.alloc (.cells #[.int .i64 n, .int .i64 s] 76)).alloc (.cells #[.int .i64 n, .int .i64 s] 76)).alloc (.cells #[.slice A1 a.length q1, .slice (some ⟨w.heap.size + 1, 0, none⟩) 1 1, .slice A3 c.length q3] 35)).heap[w.heap.size + 1 + 1]? = some (.cells #[.slice A1 a.length q1, .slice (some ⟨w.heap.size + 1, 0, none⟩) 1 1, .slice A3 c.length q3] 35) := heap_new (by simp)
  have hy : RRn (((w.alloc (.cells #[.int .i64 n, .int .i64 s] 76)).alloc (.cells #[.int .i64 n, .int .i64 s] 76)).alloc (.cells #[.slice A1 a.length q1, .slice (some ⟨w.heap.size + 1, 0, none⟩) 1 1, .slice A3 c.length q3] 35)) (.slice (some ⟨w.heap.size + 1, 0, none⟩) 1 1) [(n, s)] :=
    (ORn.one (B := 0) (r := (n, s)) (Nat.zero_le _) (heap_new (w := w.alloc (.cells #[.int .i64 n, .int .i64 s] 76)) (by simp))).reads.later ((AnyLater.refl _).alloc _)
  refine (HCAT.out _ _ _ hw (own_lt hz) ((own_row hz 0).trans rfl) ((own_row hz 1).trans rfl) ((own_row hz 2).trans rfl) hy).mono ?_
  rintro e w1 ⟨u, rfl, b1, o1⟩
  have HB1 := Lib.hid (And.intro (hw.trans b1) o1.reads)
  clear hw hz hy b1 o1
  go_wp2_with fail
  refine (HT.out _ _ HB1.out.2).mono ?_
  rintro e w2 ⟨u2, rfl, b2, o2⟩
  have HB2 := Lib.hid (And.intro (HB1.out.1.trans b2) (o2.wide HB1.out.1.below.size))
  clear b2 o2
  go_wp2_with fail
  go_ret
  exact ⟨_, rfl, HB2.out.1, by rw [← HM.out]; exact HB2.out.2⟩
end Go.Proofs.YtamhnffokoejjaaGreatDoor
namespace Go.Proofs.YtamhnffokoejjaaGreatDoor
set_option linter.unusedSimpArgs false
set_option linter.unusedVariables false
set_option linter.unusedSectionVars false
open Go.RowKit
theorem ofR_drop_le (s : List Int) : ∀ k, (ofR (s.drop k)).length ≤ (ofR s).length
  | 0 => Nat.le_refl _
  | k + 1 => by
    refine Nat.le_trans ?_ (ofR_drop_le s k)
    cases h : s.drop k with
    | nil => rw [List.drop_eq_nil_of_le (by have := List.drop_eq_nil_iff.1 h; omega)]; exact Nat.le_refl _
    | cons x r =>
      rw [show s.drop (k + 1) = r by rw [← List.drop_drop, h]; rfl]
      show (ofR r).length ≤ (consR x (ofR r)).length
      cases ofR r with
      | nil => exact Nat.zero_le _
      | cons y q => obtain ⟨n, t⟩ := y; rw [consR_cons]; split <;> simp
theorem ofR_take_le2 : ∀ (s : List Int) (k : Nat), (ofR (s.take k)).length ≤ (ofR s).length
  | [], k => by rw [List.take_nil]; exact Nat.le_refl _
  | x :: s, 0 => Nat.zero_le _
  | x :: [], k + 1 => by rw [List.take_succ_cons, List.take_nil]; exact Nat.le_refl _
  | x :: y :: s, 1 => (consR_length x (ofR (y :: s))).2
  | x :: y :: s, k + 2 => by
    have ih := ofR_take_le2 (y :: s) (k + 1)
    show (consR x (ofR (y :: s.take k))).length ≤ (consR x (ofR (y :: s))).length
    rw [List.take_succ_cons] at ih
    obtain ⟨n1, r1, e1, _⟩ := ofR_head y (s.take k)
    obtain ⟨n2, r2, e2, _⟩ := ofR_head y s
    rw [e1, e2] at ih
    rw [e1, e2, consR_cons, consR_cons]
    simp only [List.length_cons] at ih
    split <;> simp only [List.length_cons] <;> omega
theorem partR_le (l : Runs) (f q : Int) : (partR l f q).length ≤ l.length := by
  unfold partR partL
  refine Nat.le_trans (ofR_drop_le _ _) (Nat.le_trans (ofR_take_le2 _ _) ?_)
  exact tidyR_le l
theorem part_good (l : Runs) (f q : Int) : ∀ x ∈ partL (sR l) f q, goodS x = true := fun x hx => sR_good x (List.mem_of_mem_take (List.mem_of_mem_drop hx))
theorem part_len (l : Runs) (f q : Int) : (partL (sR l) f q).length ≤ 16777216 := by
  have := sR_len l
  unfold partL
  rw [List.length_drop, List.length_take]; omega
theorem part_ahead {s : List Int} {f : Int} (h0 : 0 ≤ f) (h1 : f ≤ s.length) : partL s 0 f = s.take f.toNat := by
  unfold partL
  rw [show clampZ f s.length = f.toNat by unfold clampZ; omega, show clampZ 0 s.length = 0 by unfold clampZ; omega, List.drop_zero]
theorem part_behind {s : List Int} {t : Int} (h0 : 0 ≤ t) (h1 : t ≤ s.length) : partL s t s.length = s.drop t.toNat := by
  unfold partL
  rw [show clampZ (s.length : Int) s.length = s.length by unfold clampZ; omega, show clampZ t s.length = t.toNat by unfold clampZ; omega, List.take_of_length_le (Nat.le_refl _)]
theorem oneR_all {n s : Int} (h1 : 0 ≤ n) (h2 : n ≤ 16777216) (h3 : goodS s = true) : oneR (n, s) = List.replicate n.toNat s := by
  by_cases h : 1 ≤ n
  · exact oneR_fair h h2 h3
  · obtain rfl : n = 0 := by omega
    unfold oneR fairR
    rw [if_neg (by simp)]; rfl
theorem tidy_three {A B : List Int} {n s : Int} (hA : ∀ x ∈ A, goodS x = true) (hB : ∀ x ∈ B, goodS x = true) (h1 : 0 ≤ n) (h3 : goodS s = true) (hl : A.length + n.toNat + B.length ≤ 16777216) :
    tidyR (ofR A ++ [(n, s)] ++ ofR B) = ofR (A ++ List.replicate n.toNat s ++ B) := by
  have e : stylesR (ofR A ++ [(n, s)] ++ ofR B) = A ++ List.replicate n.toNat s ++ B := by
    rw [stylesR_append, stylesR_append, stylesR_cons, stylesR_nil, List.append_nil, styles_of hA (by omega), styles_of hB (by omega), oneR_all h1 (by omega) h3]
  unfold tidyR
  rw [sR_small (by rw [e, List.length_append, List.length_append, List.length_replicate]; omega), e]
theorem rr_none (w : World) : RRt w (.slice none 0 0) [] := (orn_nil w 0).typed
theorem make_three (l : Runs) (a b n s : Int) (ha : 0 ≤ a) (ha2 : a ≤ (sR l).length) (hb : 0 ≤ b) (hb2 : b ≤ (sR l).length) (hn : 0 ≤ n) (hs : goodS s = true) (hl : a + n + (((sR l).length : Int) - b) ≤ 16777216) :
    tidyR (partR l 0 a ++ [(n, s)] ++ partR l b (sR l).length) = ofR ((sR l).take a.toNat ++ List.replicate n.toNat s ++ (sR l).drop b.toNat) := by
  unfold partR
  rw [part_ahead ha ha2, part_behind hb hb2]
  refine tidy_three (fun x hx => sR_good x (List.mem_of_mem_take hx)) (fun x hx => sR_good x (List.mem_of_mem_drop hx)) hn hs ?_
  rw [List.length_take, List.length_drop]; omega
def Three (w : World) (v : Value) (l : Runs) : Prop :=
  (∀ (w' : World) (f q : Int), AnyLater w w' → Calls Tryz.prog 128 #[v, .int .i64 f, .int .i64 q] w' (RowN w' (partR l f q))) ∧
  (∀ (w' : World) (v1 v3 : Value) (a b n s : Int), RRn w' v1 (partR l 0 a) → RRn w' v3 (partR l b (sR l).length) → I64s n → I64s s → Calls Tryz.prog 127 #[v1, .agg #[.int .i64 n, .int .i64 s], v3] w' (RowN w' (tidyR (partR l 0 a ++ [(n, s)] ++ partR l b (sR l).length))))
theorem three_of {w : World} {v : Value} {l : Runs} (h : Asks w v l) : Three w v l :=
  ⟨fun w' f q ha => ppart_any v l _ f q w' rfl (h.1.1.later ha) h.2.1 (by have := h.2.2; omega),
   fun w' v1 v3 a b n s h1 h3 hn hs => pbetween_any v1 v3 _ _ _ n s w' rfl h1 h3 (nums_of (part_good l _ _) (part_len l _ _)) (nums_of (part_good l _ _) (part_len l _ _)) hn hs (by
    have e1 := partR_le l 0 a
    have e2 := partR_le l b (sR l).length
    have := h.2.2
    omega)⟩
set_option maxRecDepth 100000 in
theorem pset_bad (v : Value) (l : Runs) (f t s : Int) (N : Nat) (w : World) (hN : (sR l).length = N) (hx : f < 0 ∨ t < f ∨ (N : Int) < t) (h : Asks w v l) : Calls Tryz.prog 84 #[v, .int .i64 f, .int .i64 t, .int .i64 s] w (Tells2 w [] 1) := by
  have HLen := Lib.hid (plen_any v l w N hN h.1.1 h.2.1 (by have := h.2.2; omega))
  clear h hN
  by_cases h1 : f < 0
  · clear hx
    go_enter Tryz.func84, Tryz.ntmps84
    go_wp2_with (go_at_call 65; refine HLen.out.mono ?_; rintro e w0 ⟨rfl, b0⟩; have HB0 := Lib.hid b0; clear b0)
    refine bodyPost_ret (v := .tuple #[.slice none 0 0, .int .i64 1]) (by simp [results, Tryz.results84, go_sem]) rfl ?_
    exact ⟨_, rfl, HB0.out, rr_none _⟩
  · have d1 : decide (f < 0) = false := decide_eq_false h1
    by_cases h2 : t < f
    · clear hx
      go_enter Tryz.func84, Tryz.ntmps84
      go_wp2_with (go_at_call 65; refine HLen.out.mono ?_; rintro e w0 ⟨rfl, b0⟩; have HB0 := Lib.hid b0; clear b0)
      refine bodyPost_ret (v := .tuple #[.slice none 0 0, .int .i64 1]) (by simp [results, Tryz.results84, go_sem]) rfl ?_
      exact ⟨_, rfl, HB0.out, rr_none _⟩
    · have d2 : decide (t < f) = false := decide_eq_false h2
      have h3 : (N : Int) < t := by omega
      clear hx
      go_enter Tryz.func84, Tryz.ntmps84
      go_wp2_with (go_at_call 65; refine HLen.out.mono ?_; rintro e w0 ⟨rfl, b0⟩; have HB0 := Lib.hid b0; clear b0)
      refine bodyPost_ret (v := .tuple #[.slice none 0 0, .int .i64 1]) (by simp [results, Tryz.results84, go_sem]) rfl ?_
      exact ⟨_, rfl, HB0.out, rr_none _⟩
set_option maxRecDepth 100000 in
theorem pset_kind (v : Value) (l : Runs) (f t s : Int) (N : Nat) (w : World) (hN : (sR l).length = N) (h1 : 0 ≤ f) (h2 : f ≤ t) (h3 : t ≤ N) (hs : goodS s = false) (h : Asks w v l) : Calls Tryz.prog 84 #[v, .int .i64 f, .int .i64 t, .int .i64 s] w (Tells2 w [] 5) := by
  have HLen := Lib.hid (plen_any v l w N hN h.1.1 h.2.1 (by have := h.2.2; omega))
  have HG := Lib.hid (fun w => pgood_any s w false hs)
  have d1 : decide (f < 0) = false := decide_eq_false (by omega)
  have d2 : decide (t < f) = false := decide_eq_false (by omega)
  have d3 : decide ((N : Int) < t) = false := decide_eq_false (by omega)
  clear h hN hs
  go_enter Tryz.func84, Tryz.ntmps84
  go_wp2_with (go_at_call 65; refine HLen.out.mono ?_; rintro e w0 ⟨rfl, b0⟩; have HB0 := Lib.hid b0; clear b0)
  refine (HG.out _).mono ?_
  rintro e wx ⟨rfl, rfl⟩
  go_wp2_with fail
  refine bodyPost_ret (v := .tuple #[.slice none 0 0, .int .i64 5]) (by simp [results, Tryz.results84, go_sem]) rfl ?_
  exact ⟨_, rfl, HB0.out, rr_none _⟩
set_option maxRecDepth 100000 in
theorem pset_good (v : Value) (l m : Runs) (f t s : Int) (N : Nat) (w : World) (hN : (sR l).length = N) (h1 : 0 ≤ f) (h2 : f ≤ t) (h3 : t ≤ N) (hs : goodS s = true) (hi : I64s t) (hm : ofR (setL (sR l) f t s) = m) (h : Asks w v l) : Calls Tryz.prog 84 #[v, .int .i64 f, .int .i64 t, .int .i64 s] w (Tells2 w m 0) := by
  have HLen := Lib.hid (plen_any v l w N hN h.1.1 h.2.1 (by have := h.2.2; omega))
  have HG := Lib.hid (fun w => pgood_any s w true hs)
  have HT := Lib.hid (three_of h)
  have hN2 : N ≤ 16777216 := by rw [← hN]; exact sR_len l
  have HM : Hid (tidyR (partR l 0 f ++ [(t - f, s)] ++ partR l t (sR l).length) = m) := Lib.hid (by
    rw [make_three l f t (t - f) s h1 (by omega) (by omega) (by omega) (by omega) hs (by omega), ← hm]
    rfl)
  have HNN := Lib.hid hN
  have HSI := Lib.hid (goodS_i64 hs)
  have d1 : decide (f < 0) = false := decide_eq_false (by omega)
  have d2 : decide (t < f) = false := decide_eq_false (by omega)
  have d3 : decide ((N : Int) < t) = false := decide_eq_false (by omega)
  clear h hN hs hm hi
  go_enter Tryz.func84, Tryz.ntmps84
  go_wp2_with (go_at_call 65; refine HLen.out.mono ?_; rintro e w0 ⟨rfl, b0⟩; have HB0 := Lib.hid b0; clear b0)
  refine (HG.out _).mono ?_
  rintro e wx ⟨rfl, rfl⟩
  go_wp2_with fail
  refine (HT.out.1 _ 0 f HB0.out).mono ?_
  rintro e w1 ⟨u1, rfl, b1, o1⟩
  have HB1 := Lib.hid (And.intro (HB0.out.trans b1) o1.reads)
  clear b1 o1
  go_wp2_with fail
  refine (HT.out.1 _ t N HB1.out.1).mono ?_
  rintro e w2 ⟨u2, rfl, b2, o2⟩
  have HB2 := Lib.hid (And.intro (HB1.out.1.trans b2) (And.intro (HB1.out.2.later b2) o2.reads))
  clear b2 o2
  go_wp2_with fail
  refine (HT.out.2 _ u1 u2 f t _ _ HB2.out.2.1 (by rw [HNN.out]; exact HB2.out.2.2) (by constructor <;> omega) HSI.out).mono ?_
  rintro e w3 ⟨u3, rfl, b3, o3⟩
  have HB3 := Lib.hid (And.intro (HB2.out.1.trans b3) o3.typed)
  clear b3 o3
  go_wp2_with fail
  refine bodyPost_ret (v := .tuple #[u3, .int .i64 0]) (by simp [results, Tryz.results84, go_sem]) rfl ?_
  exact ⟨_, rfl, HB3.out.1, by rw [← HM.out]; exact HB3.out.2⟩
theorem pset_any (v : Value) (l m : Runs) (f t s c : Int) (w : World) (hm : setR l f t s = (m, c)) (h : Asks w v l) (hi : I64s t) : Calls Tryz.prog 84 #[v, .int .i64 f, .int .i64 t, .int .i64 s] w (Tells2 w m c) := by
  unfold setR at hm
  split at hm
  · rename_i hx
    cases hm
    exact pset_bad v l f t s _ w rfl hx h
  · rename_i hx
    split at hm
    · rename_i hs
      cases hm
      exact pset_good v l _ f t s _ w rfl (by omega) (by omega) (by omega) hs hi rfl h
    · rename_i hs
      cases hm
      exact pset_kind v l f t s _ w rfl (by omega) (by omega) (by omega) (by simpa using hs) h
end Go.Proofs.YtamhnffokoejjaaGreatDoor
namespace Go.Proofs.YtamhnffokoejjaaGreatDoor
set_option linter.unusedSimpArgs false
set_option linter.unusedVariables false
set_option linter.unusedSectionVars false
open Go.RowKit
set_option maxRecDepth 100000 in
theorem pins_bad (v : Value) (l : Runs) (a n : Int) (N : Nat) (w : World) (hN : (sR l).length = N) (hx : a < 0 ∨ (N : Int) < a ∨ n < 0) (h : Asks w v l) : Calls Tryz.prog 123 #[v, .int .i64 a, .int .i64 n] w (Tells2 w [] 1) := by
  have HLen := Lib.hid (plen_any v l w N hN h.1.1 h.2.1 (by have := h.2.2; omega))
  clear h hN
  by_cases h1 : a < 0
  · clear hx
    go_enter Tryz.func123, Tryz.ntmps123
    go_wp2_with (go_at_call 65; refine HLen.out.mono ?_; rintro e w0 ⟨rfl, b0⟩; have HB0 := Lib.hid b0; clear b0)
    refine bodyPost_ret (v := .tuple #[.slice none 0 0, .int .i64 1]) (by simp [results, Tryz.results123, go_sem]) rfl ?_
    exact ⟨_, rfl, HB0.out, rr_none _⟩
  · have d1 : decide (a < 0) = false := decide_eq_false h1
    by_cases h2 : (N : Int) < a
    · clear hx
      go_enter Tryz.func123, Tryz.ntmps123
      go_wp2_with (go_at_call 65; refine HLen.out.mono ?_; rintro e w0 ⟨rfl, b0⟩; have HB0 := Lib.hid b0; clear b0)
      refine bodyPost_ret (v := .tuple #[.slice none 0 0, .int .i64 1]) (by simp [results, Tryz.results123, go_sem]) rfl ?_
      exact ⟨_, rfl, HB0.out, rr_none _⟩
    · have d2 : decide ((N : Int) < a) = false := decide_eq_false h2
      have h3 : n < 0 := by omega
      clear hx
      go_enter Tryz.func123, Tryz.ntmps123
      go_wp2_with (go_at_call 65; refine HLen.out.mono ?_; rintro e w0 ⟨rfl, b0⟩; have HB0 := Lib.hid b0; clear b0)
      refine bodyPost_ret (v := .tuple #[.slice none 0 0, .int .i64 1]) (by simp [results, Tryz.results123, go_sem]) rfl ?_
      exact ⟨_, rfl, HB0.out, rr_none _⟩
set_option maxRecDepth 100000 in
theorem pins_many (v : Value) (l : Runs) (a n : Int) (N : Nat) (w : World) (hN : (sR l).length = N) (h1 : 0 ≤ a) (h2 : a ≤ N) (h3 : 0 ≤ n) (h4 : 16777216 - (N : Int) < n) (h : Asks w v l) : Calls Tryz.prog 123 #[v, .int .i64 a, .int .i64 n] w (Tells2 w [] 2) := by
  have HLen := Lib.hid (plen_any v l w N hN h.1.1 h.2.1 (by have := h.2.2; omega))
  have hN2 : N ≤ 16777216 := by rw [← hN]; exact sR_len l
  have d1 : decide (a < 0) = false := decide_eq_false (by omega)
  have d2 : decide ((N : Int) < a) = false := decide_eq_false (by omega)
  have d3 : decide (n < 0) = false := decide_eq_false (by omega)
  clear h hN
  go_enter Tryz.func123, Tryz.ntmps123
  go_wp2_with (go_at_call 65; refine HLen.out.mono ?_; rintro e w0 ⟨rfl, b0⟩; have HB0 := Lib.hid b0; clear b0)
  refine bodyPost_ret (v := .tuple #[.slice none 0 0, .int .i64 2]) (by simp [results, Tryz.results123, go_sem]) rfl ?_
  exact ⟨_, rfl, HB0.out, rr_none _⟩
theorem ahead_good (l : Runs) (a : Int) : goodS (aheadL (sR l) a) = true := by
  unfold aheadL
  rw [List.getD_eq_getElem?_getD]
  cases h : (sR l)[(a - 1).toNat]? with
  | none => rfl
  | some x => exact sR_good x (List.mem_of_getElem? h)
set_option maxRecDepth 100000 in
theorem pins_good (v : Value) (l m : Runs) (a n : Int) (N : Nat) (w : World) (hN : (sR l).length = N) (h1 : 0 ≤ a) (h2 : a ≤ N) (h3 : 0 ≤ n) (h4 : n ≤ 16777216 - (N : Int)) (hm : ofR (insL (sR l) a n) = m) (h : Asks w v l) : Calls Tryz.prog 123 #[v, .int .i64 a, .int .i64 n] w (Tells2 w m 0) := by
  have HLen := Lib.hid (plen_any v l w N hN h.1.1 h.2.1 (by have := h.2.2; omega))
  have HT := Lib.hid (three_of h)
  have hN2 : N ≤ 16777216 := by rw [← hN]; exact sR_len l
  have HM : Hid (tidyR (partR l 0 a ++ [(n, aheadL (sR l) a)] ++ partR l a (sR l).length) = m) := Lib.hid (by
    rw [make_three l a a n _ h1 (by omega) h1 (by omega) h3 (ahead_good l a) (by omega), ← hm]
    rfl)
  have HNN := Lib.hid hN
  have HSI := Lib.hid (goodS_i64 (ahead_good l a))
  have HAT : Hid (∀ (w' : World) (i : Int), AnyLater w w' → i = max (a - 1) 0 → Calls Tryz.prog 171 #[v, .int .i64 i] w' fun e w2 => e = .returned (.int .i64 (aheadL (sR l) a)) ∧ AnyLater w' w2) := Lib.hid (fun w' i ha hi => pstyle_any v l i _ w' (by
    subst hi
    unfold atR aheadL
    rw [if_pos (by omega), show (max (a - 1) 0).toNat = (a - 1).toNat by omega]) (h.1.1.later ha) h.2.1 (by have := h.2.2; omega))
  have d1 : decide (a < 0) = false := decide_eq_false (by omega)
  have d2 : decide ((N : Int) < a) = false := decide_eq_false (by omega)
  have d3 : decide (n < 0) = false := decide_eq_false (by omega)
  have d4 : decide (16777216 - (N : Int) < n) = false := decide_eq_false (by omega)
  have h5 : a ≤ 16777216 := by omega
  have h6 : n ≤ 16777216 := by omega
  generalize aheadL (sR l) a = s at *
  clear h hN hm
  go_enter Tryz.func123, Tryz.ntmps123
  go_wp2_with (go_at_call 65; refine HLen.out.mono ?_; rintro e w0 ⟨rfl, b0⟩; have HB0 := Lib.hid b0; clear b0)
  all_goals
    refine (HAT.out _ _ HB0.out (by omega)).mono ?_
    rintro e wx ⟨rfl, bx⟩
    have HBX := Lib.hid (HB0.out.trans bx)
    clear bx
    go_wp2_with fail
    refine (HT.out.1 _ 0 a HBX.out).mono ?_
    rintro e w1 ⟨u1, rfl, b1, o1⟩
    have HB1 := Lib.hid (And.intro (HBX.out.trans b1) o1.reads)
    clear b1 o1
    go_wp2_with fail
    refine (HT.out.1 _ a N HB1.out.1).mono ?_
    rintro e w2 ⟨u2, rfl, b2, o2⟩
    have HB2 := Lib.hid (And.intro (HB1.out.1.trans b2) (And.intro (HB1.out.2.later b2) o2.reads))
    clear b2 o2
    go_wp2_with fail
    refine (HT.out.2 _ u1 u2 a a _ _ HB2.out.2.1 (by rw [HNN.out]; exact HB2.out.2.2) (by constructor <;> omega) HSI.out).mono ?_
    rintro e w3 ⟨u3, rfl, b3, o3⟩
    have HB3 := Lib.hid (And.intro (HB2.out.1.trans b3) o3.typed)
    clear b3 o3
    go_wp2_with fail
    refine bodyPost_ret (v := .tuple #[u3, .int .i64 0]) (by simp [results, Tryz.results123, go_sem]) rfl ?_
    exact ⟨_, rfl, HB3.out.1, by rw [← HM.out]; exact HB3.out.2⟩
theorem pins_any (v : Value) (l m : Runs) (a n c : Int) (w : World) (hm : insR l a n = (m, c)) (h : Asks w v l) : Calls Tryz.prog 123 #[v, .int .i64 a, .int .i64 n] w (Tells2 w m c) := by
  unfold insR at hm
  split at hm
  · rename_i hx
    cases hm
    exact pins_bad v l a n _ w rfl hx h
  · rename_i hx
    split at hm
    · rename_i hs
      cases hm
      exact pins_many v l a n _ w rfl (by omega) (by omega) (by omega) (by omega) h
    · rename_i hs
      cases hm
      exact pins_good v l _ a n _ w rfl (by omega) (by omega) (by omega) (by omega) rfl h
set_option maxRecDepth 100000 in
theorem pdel_bad (v : Value) (l : Runs) (a n : Int) (N : Nat) (w : World) (hN : (sR l).length = N) (hx : ¬ Span3 a n N) (h : Asks w v l) : Calls Tryz.prog 122 #[v, .int .i64 a, .int .i64 n] w (Tells2 w [] 1) := by
  have HLen := Lib.hid (plen_any v l w N hN h.1.1 h.2.1 (by have := h.2.2; omega))
  have HS := Lib.hid (fun w => pspan_no a n N w hx (by have := sR_len l; omega) (by omega))
  clear h hN hx
  go_enter Tryz.func122, Tryz.ntmps122
  go_wp2_with (go_at_call 65; refine HLen.out.mono ?_; rintro e w0 ⟨rfl, b0⟩; have HB0 := Lib.hid b0; clear b0)
  refine (HS.out _).mono ?_
  rintro e wx ⟨rfl, rfl⟩
  go_wp2_with fail
  refine bodyPost_ret (v := .tuple #[.slice none 0 0, .int .i64 1]) (by simp [results, Tryz.results122, go_sem]) rfl ?_
  exact ⟨_, rfl, HB0.out, rr_none _⟩
set_option maxRecDepth 100000 in
theorem pdel_good (v : Value) (l m : Runs) (a n : Int) (N : Nat) (w : World) (hN : (sR l).length = N) (hx : Span3 a n N) (hm : ofR (delL (sR l) a n) = m) (h : Asks w v l) : Calls Tryz.prog 122 #[v, .int .i64 a, .int .i64 n] w (Tells2 w m 0) := by
  have HLen := Lib.hid (plen_any v l w N hN h.1.1 h.2.1 (by have := h.2.2; omega))
  have hN2 : N ≤ 16777216 := by rw [← hN]; exact sR_len l
  have HS := Lib.hid (fun w => pspan_yes a n N w hx (by omega))
  have HT := Lib.hid (three_of h)
  obtain ⟨h1, h2, h3, h4⟩ := hx
  have HM : Hid (tidyR (partR l 0 a ++ [(0, 0)] ++ partR l (a + n) (sR l).length) = m) := Lib.hid (by
    rw [make_three l a (a + n) 0 0 h1 (by omega) (by omega) (by omega) (by omega) rfl (by omega), ← hm]
    unfold delL
    rw [show (0 : Int).toNat = 0 from rfl, List.replicate_zero, List.append_nil])
  have HNN := Lib.hid hN
  clear h hN hm
  go_enter Tryz.func122, Tryz.ntmps122
  go_wp2_with (go_at_call 65; refine HLen.out.mono ?_; rintro e w0 ⟨rfl, b0⟩; have HB0 := Lib.hid b0; clear b0)
  refine (HS.out _).mono ?_
  rintro e wx ⟨rfl, rfl⟩
  go_wp2_with fail
  refine (HT.out.1 _ 0 a HB0.out).mono ?_
  rintro e w1 ⟨u1, rfl, b1, o1⟩
  have HB1 := Lib.hid (And.intro (HB0.out.trans b1) o1.reads)
  clear b1 o1
  go_wp2_with fail
  refine (HT.out.1 _ (a + n) N HB1.out.1).mono ?_
  rintro e w2 ⟨u2, rfl, b2, o2⟩
  have HB2 := Lib.hid (And.intro (HB1.out.1.trans b2) (And.intro (HB1.out.2.later b2) o2.reads))
  clear b2 o2
  go_wp2_with fail
  refine (HT.out.2 _ u1 u2 a (a + n) 0 0 HB2.out.2.1 (by rw [HNN.out]; exact HB2.out.2.2) (by constructor <;> omega) (by constructor <;> omega)).mono ?_
  rintro e w3 ⟨u3, rfl, b3, o3⟩
  have HB3 := Lib.hid (And.intro (HB2.out.1.trans b3) o3.typed)
  clear b3 o3
  go_wp2_with fail
  refine bodyPost_ret (v := .tuple #[u3, .int .i64 0]) (by simp [results, Tryz.results122, go_sem]) rfl ?_
  exact ⟨_, rfl, HB3.out.1, by rw [← HM.out]; exact HB3.out.2⟩
theorem pdel_any (v : Value) (l m : Runs) (a n c : Int) (w : World) (hm : delR l a n = (m, c)) (h : Asks w v l) : Calls Tryz.prog 122 #[v, .int .i64 a, .int .i64 n] w (Tells2 w m c) := by
  unfold delR at hm
  split at hm
  · rename_i hx
    cases hm
    exact pdel_bad v l a n _ w rfl (fun hs => by unfold Span3 at hs; omega) h
  · rename_i hx
    cases hm
    exact pdel_good v l _ a n _ w rfl (by unfold Span3; omega) rfl h
theorem tells_of {w : World} {p : Program} {f : FuncId} {args : Array Value} {m : Runs} (h : Calls p f args w (RowN w m)) : Calls p f args w (Tells1 w m) :=
  h.mono fun _ _ ⟨u, h1, h2, h3⟩ => ⟨u, h1, h2, h3.typed⟩
theorem rsays : RSays where
  good l c hc h := pgoodl_any _ l c _ hc h.1.1 h.2.1 (by have := h.2.2; omega)
  tidy l m hm h := by
    subst hm
    exact tells_of (ptidy_any _ l _ h.1.1 h.2.1 (by have := h.2.2; omega))
  len l n hn h := plen_any _ l _ n hn h.1.1 h.2.1 (by have := h.2.2; omega)
  style l i c hc h _ := pstyle_any _ l i c _ hc h.1.1 h.2.1 (by have := h.2.2; omega)
  set l m f t s c hm h _ ht _ := pset_any _ l m f t s c _ hm h ht
  ins l m a n c hm h _ _ := pins_any _ l m a n c _ hm h
  del l m a n c hm h _ _ := pdel_any _ l m a n c _ hm h
  part l m f t hm h _ _ := tells_of (ppart_any _ l m f t _ hm h.1.1 h.2.1 (by have := h.2.2; omega))
end Go.Proofs.YtamhnffokoejjaaGreatDoor
