/- runs, the program: Part of any runs. -/
import Derived.Test.YtimplngemjdodaaDoorRunS
namespace Go.Proofs.YtimplngemjdodaaDoor
set_option linter.unusedSimpArgs false
set_option linter.unusedVariables false
set_option linter.unusedSectionVars false
open Go.RowKit

/-! ### what a part has of one run -/
theorem clampI_nat (n : Int) (N : Nat) : clampI n 0 (N : Int) = ((clampZ n N : Nat) : Int) := by
  unfold clampI clampZ
  split
  · omega
  · split <;> omega
theorem clampZ_le (n : Int) (N : Nat) : clampZ n N ≤ N := by unfold clampZ; omega
theorem part_step {D : List Int} {T F n : Nat} {s : Int} (h : D.length < T) : ((D ++ List.replicate n s).take T).drop F = (D.take T).drop F ++ List.replicate (min (T - D.length) n - (F - D.length)) s := by
  rw [List.take_append, List.drop_append, List.take_replicate, List.drop_replicate, List.length_take, Nat.min_eq_right (Nat.le_of_lt h)]
theorem part_done {l : Runs} {T j : Nat} (h : T ≤ (stylesR (l.take j)).length) : (stylesR l).take T = (stylesR (l.take j)).take T := by
  conv => lhs; rw [← List.take_append_drop j l, stylesR_append, List.take_append_of_le_length h]
/-- how many bytes of a run a part has -/
theorem part_num {t T F n : Nat} (h : t < T) : clampI (T : Int) (t : Int) ((t : Int) + n) - clampI (F : Int) (t : Int) ((t : Int) + n) = ((min (T - t) n : Nat) : Int) - ((min (F - t) n : Nat) : Int) := by
  have h1 : clampI (T : Int) (t : Int) ((t : Int) + n) = (t : Int) + ((min (T - t) n : Nat) : Int) := by
    unfold clampI
    rw [if_neg (by omega)]
    split <;> omega
  have h2 : clampI (F : Int) (t : Int) ((t : Int) + n) = (t : Int) + ((min (F - t) n : Nat) : Int) := by
    unfold clampI
    split
    · omega
    · split <;> omega
  omega
theorem oneR_fair {n s : Int} (h1 : 1 ≤ n) (h2 : n ≤ 16777216) (h3 : goodS s = true) : oneR (n, s) = List.replicate n.toNat s := by
  unfold oneR fairR
  rw [if_pos]
  rw [Bool.and_eq_true, decide_eq_true_eq]
  exact ⟨⟨h1, h2⟩, h3⟩
theorem numsR_snoc {m : Runs} {n s : Int} (h : NumsR m) (h1 : I64s n) (h2 : I64s s) : NumsR (m ++ [(n, s)]) := fun r hr => by
  rcases List.mem_append.1 hr with hr | hr
  · exact h r hr
  · cases List.mem_singleton.1 hr
    exact ⟨h1, h2⟩
theorem stylesR_snoc {m : Runs} {r : Int × Int} : stylesR (m ++ [r]) = stylesR m ++ oneR r := by
  rw [stylesR_append, stylesR_cons, stylesR_nil, List.append_nil]
set_option maxRecDepth 100000 in
set_option maxHeartbeats 3200000 in
theorem ppart_some (b off n cap N T F : Nat) (l m : Runs) (f q : Int) (w : World) (hm : partR l f q = m) (hN0 : (sR l).length = N) (hT : clampZ q N = T) (hF : clampZ f N = F) (hl : l.length = n) (hn : n ≤ 90000) (hN : NumsR l) (hb : b < w.heap.size) (hc : ∀ (j : Nat) (h : j < l.length), w.cell? ⟨b, off + j * 2, none⟩ = some (.int .i64 l[j].1) ∧ w.cell? ⟨b, off + j * 2 + 1, none⟩ = some (.int .i64 l[j].2)) :
    Calls Tryd.prog 39 #[.slice (some ⟨b, off, none⟩) n cap, .int .i64 f, .int .i64 q] w (RowN w m) := by
  have hTN : T ≤ N := by rw [← hT]; exact clampZ_le q N
  have hFN : F ≤ N := by rw [← hF]; exact clampZ_le f N
  have hNN : N ≤ 16777216 := by rw [← hN0]; exact sR_len l
  have hpos : 0 < T → sR l = stylesR l := fun h => by
    unfold sR at hN0 ⊢
    split
    · rfl
    · rename_i hx; rw [if_neg hx] at hN0; simp at hN0; omega
  have HLen := Lib.hid (plen_some b off n cap l w N hN0 hl hn hN hb hc)
  have HC1 := Lib.hid (fun w => pclamp_any f 0 N w (F : Int) (by rw [clampI_nat, hF]))
  have HC2 := Lib.hid (fun w => pclamp_any q 0 N w (T : Int) (by rw [clampI_nat, hT]))
  have HL := Lib.hid hl
  have HC := Lib.hid hc
  have HNN := Lib.hid hN
  have HS0 : Hid (0 < T → ∀ j, (stylesR (l.take j)).length ≤ 16777216) := Lib.hid (fun h j => Nat.le_trans (styles_le l j) (by rw [← hpos h, hN0]; exact hNN))
  have HM : Hid (ofR (((stylesR l).take T).drop F) = m) := Lib.hid (by
    rw [← hm]
    unfold partR partL
    rw [hN0, hT, hF]
    rcases Nat.eq_zero_or_pos T with h | h
    · rw [h, List.take_zero, List.take_zero]
    · rw [hpos h])
  have HD := Lib.hid (fun j => @part_done l T j)
  have HML : Hid (((stylesR l).take T).length ≤ 16777216) := Lib.hid (by rw [List.length_take]; omega)
  clear hl hc hN hpos hm hN0 hT hF
  go_enter Tryd.func39, Tryd.ntmps39
  go_wp2_with fail
  refine HLen.out.mono ?_
  rintro e w0 ⟨rfl, b0⟩
  have HB0 := Lib.hid b0
  clear b0
  go_wp2_with fail
  refine (HC1.out _).mono ?_
  rintro e wx ⟨rfl, rfl⟩
  go_wp2_with fail
  refine (HC2.out _).mono ?_
  rintro e wx ⟨rfl, rfl⟩
  go_wp2_with fail
  have HTI := Lib.hid (fun w v O (h : RRn w v O) (hN : NumsR O) (hn : O.length ≤ 90000) => ptidy_any v O w h hN hn)
  have HTO : Hid (∀ O : Runs, stylesR O = ((stylesR l).take T).drop F → tidyR O = m) := Lib.hid (fun O h => by
    unfold tidyR
    rw [sR_small (by rw [h, List.length_drop]; have := HML.out; omega), h, HM.out])
  go_loopg [8, 9, 24] n (fun k v s i wr => ∃ j : Nat, k = n - j ∧ j ≤ n ∧ i = .int .i64 j ∧ AnyLater w wr ∧ (∃ t : Nat, s = .int .i64 t ∧ (stylesR (l.take j)).length = t ∧ t ≤ 16777216) ∧ ∃ O, ORn wr w.heap.size v O ∧ NumsR O ∧ O.length ≤ j ∧ stylesR O = ((stylesR (l.take j)).take T).drop F)
  case atStart => exact ⟨0, by omega, by omega, rfl, HB0.out, ⟨0, rfl, rfl, by omega⟩, [], orn_nil _ _, (fun r hr => by cases hr), by simp, by simp [stylesR]⟩
  case round =>
    obtain ⟨j, hk, hj, rfl, ha, ⟨t, rfl, ht, ht4⟩, O, ho, hON, hOL, hOS⟩ := hrel
    have HT := Lib.hid ht
    have HA := Lib.hid ha
    have HOS := Lib.hid hOS
    have hOL9 : O.length ≤ 90000 := by omega
    obtain ⟨A9, cb9, rfl, hcb, _⟩ := ho.reads
    clear ht hOS hcb
    by_cases hlt : j < n
    · have lj : j < l.length := by rw [HL.out]; exact hlt
      have c0 : wr.cell? ⟨b, off + j * 2, none⟩ = some (.int .i64 l[j].1) := (ha.below.cell hb).trans (HC.out j lj).1
      have c1 : wr.cell? ⟨b, off + j * 2 + 1, none⟩ = some (.int .i64 l[j].2) := (ha.below.cell hb).trans (HC.out j lj).2
      have HS := Lib.hid (styles_take lj)
      have hx := HNN.out l[j] (List.getElem_mem lj)
      have HO : Hid (((oneR l[j]).length : Int) = if fairR l[j] then l[j].1 else 0) := Lib.hid oneR_length
      generalize l[j] = x at *
      obtain ⟨f', s⟩ := x
      simp only at c0 c1 hx HO
      by_cases hbr : T ≤ t
      · have HEND : Hid (tidyR O = m) := Lib.hid (HTO.out O (by rw [HOS.out, HD.out j (by rw [HT.out]; exact hbr)]))
        have HA0 : Hid (∀ c, AnyLater wr (wr.alloc (.cells c 48))) := Lib.hid (fun c => (AnyLater.refl wr).alloc _)
        have HX := Lib.hid (fun w' (h : AnyLater wr w') => HTI.out w' (.slice A9 O.length cb9) O (ho.later h).reads hON hOL9)
        rw [HEND.out] at HX
        clear ho hON hOL hx HO ha
        go_wp2_with fail
        refine (HX.out _ (HA0.out _)).mono ?_
        rintro e wz ⟨u, rfl, b9, o9⟩
        have HZ := Lib.hid (And.intro (HA.out.trans ((HA0.out _).trans b9)) (o9.wide (HA.out.trans (HA0.out _)).below.size))
        clear b9 o9
        go_wp2_with fail
        go_ret
        exact ⟨_, rfl, HZ.out⟩
      · have hbf : decide (T ≤ t) = false := decide_eq_false hbr
        have HA0 := Lib.hid ((AnyLater.refl wr).alloc (.cells #[.int .i64 f', .int .i64 s] 48))
        cases hf : fairR (f', s) with
        | true =>
          have HF := Lib.hid (fun w => kept_any f' s w true hf hx.1 hx.2)
          obtain ⟨f1, f2, hgs⟩ := fairR_in hf
          simp only at f1 f2 hgs
          have HO2 : Hid (((oneR (f', s)).length : Int) = f') := Lib.hid (by rw [HO.out, hf]; rfl)
          have HGS := Lib.hid hgs
          obtain ⟨k', rfl⟩ := Int.eq_ofNat_of_zero_le (show 0 ≤ f' by omega)
          have HST : Hid (((stylesR (l.take (j + 1))).take T).drop F = stylesR O ++ List.replicate (min (T - t) k' - (F - t)) s) := Lib.hid (by
            rw [HS.out, HOS.out, oneR_fair f1 f2 hgs]
            have := part_step (D := stylesR (l.take j)) (T := T) (F := F) (n := k') (s := s) (by rw [HT.out]; omega)
            rw [HT.out] at this
            exact this)
          have HLE : t + k' ≤ 16777216 := by
            have := HS0.out (by omega) (j + 1)
            rw [HS.out, List.length_append, HT.out] at this
            have := HO2.out
            omega
          have HNX : Hid ((stylesR (l.take (j + 1))).length = t + k') := Lib.hid (by rw [HS.out, List.length_append, HT.out]; have := HO2.out; omega)
          have hN2 : NumsR O := hON
          have HON := Lib.hid hON
          have HP := Lib.hid (part_num (t := t) (T := T) (F := F) (n := k') (by omega))
          have H1 := Lib.hid (fun w => pclamp_any (T : Int) (t : Int) ((t : Int) + (k' : Int)) w _ rfl)
          have H2 := Lib.hid (fun w => pclamp_any (F : Int) (t : Int) ((t : Int) + (k' : Int)) w _ rfl)
          have z1 : (t : Int) ≤ clampI (T : Int) (t : Int) ((t : Int) + (k' : Int)) ∧ clampI (T : Int) (t : Int) ((t : Int) + (k' : Int)) ≤ 16777216 := by
            unfold clampI; split <;> try split
            all_goals omega
          have z2 : (t : Int) ≤ clampI (F : Int) (t : Int) ((t : Int) + (k' : Int)) ∧ clampI (F : Int) (t : Int) ((t : Int) + (k' : Int)) ≤ 16777216 := by
            unfold clampI; split <;> try split
            all_goals omega
          generalize clampI (T : Int) (t : Int) ((t : Int) + (k' : Int)) = p1 at *
          generalize clampI (F : Int) (t : Int) ((t : Int) + (k' : Int)) = p2 at *
          obtain ⟨z11, z12⟩ := z1
          obtain ⟨z21, z22⟩ := z2
          have HOO := Lib.hid ho
          clear hf hx HO hgs hON hN2 ho ha
          by_cases hp : 0 < p1 - p2
          · go_wp2_with fail
            refine (HF.out _).mono ?_
            rintro e w1 ⟨rfl, b1⟩
            obtain ⟨e0, e1⟩ := box_cells b1
            have b2 := HA0.out.trans b1
            have HA1 := Lib.hid (And.intro (HA.out.trans b2) (HOO.out.later b2))
            clear b1 b2
            go_wp2_with fail
            refine (H1.out _).mono ?_
            rintro e wx ⟨rfl, rfl⟩
            go_wp2_with fail
            refine (H2.out _).mono ?_
            rintro e wx ⟨rfl, rfl⟩
            obtain ⟨u, w2, k1, k2, k3⟩ := appRun (p1 - p2, s) HA1.out.2 HA1.out.1.below.size hOL9
            have K1 := Lib.hid k1
            have HB := Lib.hid (And.intro (k3 w (Nat.le_refl _) HA1.out.1) k2)
            clear k1 k2 k3
            go_wp2_with (at_builtin; refine Lib.wpList_append_run _ rfl _ _ _ _ rfl _ _ rfl rfl _ _ K1.out ?_)
            go_roundg (n - (j + 1))
            case measure => omega
            case rel => exact ⟨j + 1, rfl, hlt, by go_num, HB.out.1, ⟨t + k', by go_num, HNX.out, HLE⟩, O ++ [(p1 - p2, s)], HB.out.2, numsR_snoc HON.out (by constructor <;> omega) (goodS_i64 HGS.out), by rw [List.length_append]; simpa using hOL, by
              rw [HST.out, stylesR_snoc, oneR_fair (by omega) (by omega) HGS.out]
              have := HP.out
              rw [show (p1 - p2).toNat = min (T - t) k' - (F - t) by omega]⟩
          · have hpf : decide (0 < p1 - p2) = false := decide_eq_false hp
            go_wp2_with fail
            refine (HF.out _).mono ?_
            rintro e w1 ⟨rfl, b1⟩
            obtain ⟨e0, e1⟩ := box_cells b1
            have b2 := HA0.out.trans b1
            have HA1 := Lib.hid (And.intro (HA.out.trans b2) (HOO.out.later b2))
            clear b1 b2
            go_wp2_with fail
            refine (H1.out _).mono ?_
            rintro e wx ⟨rfl, rfl⟩
            go_wp2_with fail
            refine (H2.out _).mono ?_
            rintro e wx ⟨rfl, rfl⟩
            go_wp2_with fail
            go_roundg (n - (j + 1))
            case measure => omega
            case rel => exact ⟨j + 1, rfl, hlt, by go_num, HA1.out.1, ⟨t + k', by go_num, HNX.out, HLE⟩, O, HA1.out.2, HON.out, Nat.le_succ_of_le hOL, by
              have := HP.out
              rw [HST.out, show min (T - t) k' - (F - t) = 0 by omega, List.replicate_zero, List.append_nil]⟩
        | false =>
          have HF := Lib.hid (fun w => kept_any f' s w false hf hx.1 hx.2)
          have HSJ : Hid (stylesR (l.take (j + 1)) = stylesR (l.take j)) := Lib.hid (by rw [HS.out, oneR_no hf, List.append_nil])
          have HOO := Lib.hid ho
          have HON := Lib.hid hON
          clear hf hx HO ho hON ha
          go_wp2_with fail
          refine (HF.out _).mono ?_
          rintro e w1 ⟨rfl, b1⟩
          have b2 := HA0.out.trans b1
          have HA1 := Lib.hid (And.intro (HA.out.trans b2) (HOO.out.later b2))
          clear b1 b2
          go_wp2_with fail
          go_roundg (n - (j + 1))
          case measure => omega
          case rel => exact ⟨j + 1, rfl, hlt, by go_num, HA1.out.1, ⟨t, rfl, by rw [HSJ.out, HT.out], ht4⟩, O, HA1.out.2, HON.out, Nat.le_succ_of_le hOL, by rw [HSJ.out, HOS.out]⟩
    · obtain rfl : j = n := by omega
      have HEND : Hid (tidyR O = m) := Lib.hid (HTO.out O (by rw [HOS.out, List.take_of_length_le (Nat.le_of_eq HL.out)]))
      have HX := Lib.hid (HTI.out wr (.slice A9 O.length cb9) O ho.reads hON hOL9)
      rw [HEND.out] at HX
      clear ho hON hOL ha
      go_wp2_with fail
      refine HX.out.mono ?_
      rintro e wz ⟨u, rfl, b9, o9⟩
      have HZ := Lib.hid (And.intro (HA.out.trans b9) (o9.wide HA.out.below.size))
      clear b9 o9
      go_wp2_with fail
      go_ret
      exact ⟨_, rfl, HZ.out⟩
theorem ppart_none (A : Option Addr) (cap : Nat) (f q : Int) (w : World) : Calls Tryd.prog 39 #[.slice A 0 cap, .int .i64 f, .int .i64 q] w (RowN w []) := by
  have HLen := Lib.hid (fun w => plen_none A cap w)
  have HC1 := Lib.hid (fun w => pclamp_any f 0 0 w 0 (by have := clampI_nat f 0; rw [show clampZ f 0 = 0 from Nat.le_zero.1 (clampZ_le f 0)] at this; exact this))
  have HC2 := Lib.hid (fun w => pclamp_any q 0 0 w 0 (by have := clampI_nat q 0; rw [show clampZ q 0 = 0 from Nat.le_zero.1 (clampZ_le q 0)] at this; exact this))
  have HT := Lib.hid (fun w => ptidy_any (.slice none 0 0) [] w (orn_nil w 0).reads (fun r hr => by cases hr) (by simp))
  go_enter Tryd.func39, Tryd.ntmps39
  go_wp2_with fail
  refine (HLen.out _).mono ?_
  rintro e w0 ⟨rfl, rfl⟩
  go_wp2_with fail
  refine (HC1.out _).mono ?_
  rintro e wx ⟨rfl, rfl⟩
  go_wp2_with fail
  refine (HC2.out _).mono ?_
  rintro e wx ⟨rfl, rfl⟩
  go_wp2_with fail
  refine wp_loop_rounds 1 ?_
  rw [rounds_succ]
  go_wp2_with fail
  refine (HT.out _).mono ?_
  rintro e w9 ⟨u, rfl, b9, o9⟩
  have HZ := Lib.hid (And.intro b9 o9)
  clear b9 o9
  go_wp2_with fail
  go_ret
  exact ⟨_, rfl, HZ.out⟩
/-- Part of any runs -/
theorem ppart_any (v : Value) (l m : Runs) (f q : Int) (w : World) (hm : partR l f q = m) (h : RRn w v l) (hN : NumsR l) (hn : l.length ≤ 90000) : Calls Tryd.prog 39 #[v, .int .i64 f, .int .i64 q] w (RowN w m) := by
  obtain ⟨A, cap, rfl, h2, h3⟩ := h
  rcases Nat.eq_zero_or_pos l.length with hz | hz
  · obtain rfl := List.eq_nil_of_length_eq_zero hz
    obtain rfl : [] = m := by rw [← hm]; unfold partR partL; rw [show sR [] = [] from rfl, List.take_nil, List.drop_nil]; rfl
    exact ppart_none A cap f q w
  · obtain ⟨b, off, rfl, hb, hcc⟩ := h3 hz
    exact ppart_some b off _ cap _ _ _ l m f q w hm rfl rfl rfl rfl hn hN hb hcc
end Go.Proofs.YtimplngemjdodaaDoor
