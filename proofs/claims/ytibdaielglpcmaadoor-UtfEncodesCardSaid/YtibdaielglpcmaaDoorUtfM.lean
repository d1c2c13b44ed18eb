/- utf: UtfEncodes, walked. -/
import Derived.Test.YtibdaielglpcmaaDoorUtfL
namespace Go.Proofs.YtibdaielglpcmaaDoor
set_option linter.unusedSimpArgs false
set_option linter.unusedVariables false
set_option linter.unusedSectionVars false
open Go.RowKit

theorem dec_encU (r : Int) (rest : List Int) : decU (encU r ++ rest) = (fixR r, (encU r).length) := dec_enc (fixR_good r) rest
theorem fixR_in (r : Int) : 0 ≤ fixR r ∧ fixR r ≤ 1114111 := by
  have := goodR_in (fixR_good r)
  exact ⟨this.1, this.2.1⟩
set_option maxRecDepth 100000 in
set_option maxHeartbeats 3200000 in
theorem utfEncodes_any (W : World) (r : Int) (v : Value) (l : List Int) (hr : -2147483648 ≤ r ∧ r ≤ 2147483647) (hv : RU8 W v l) (hb : Bytes l) (hg : GlobU W) : Calls Tryd.prog 4 #[.int .i32 r, v] W fun e w' => e = .returned (.bool true) ∧ AnyLater W w' := by
  have HG := Lib.hid hg
  have HE := Lib.hid (enc_any r W hr hg)
  have HRE : Hid (∀ w', Calls Tryd.prog 13 #[.int .i32 r] w' (Gives (fun u w => RU8 w u (encU r)) w')) := Lib.hid (fun w' => (refEnc_any r w' hr).mono fun e w'' ⟨u, h1, h2, h3⟩ => ⟨u, h1, h2, h3.rn, h3.gives⟩)
  have HF : Hid (∀ w', AnyLater W w' → Calls Tryd.prog 8 #[v, .int .i64 9] w' fun e w'' => ∃ u, e = .returned u ∧ AnyLater w' w'' ∧ ON .u8 5 w'' w'.heap.size u (l.take 9)) := Lib.hid (fun w' h => few8_any v l 9 w' (hv.later h) (by omega))
  obtain ⟨A, cap, rfl, hcap⟩ := hv.form
  have HB := Lib.hid (hb.take 9)
  have HL9 : Hid ((l.take 9).length ≤ 9) := Lib.hid (by rw [List.length_take]; omega)
  have HDE := Lib.hid (dec_encU r)
  have HBE := Lib.hid (encU_bytes r)
  have HLE := Lib.hid (encU_len r)
  have HFX := Lib.hid (fixR_in r)
  generalize l.take 9 = m at *
  generalize l.length = n0 at *
  generalize fixR r = x at *
  obtain ⟨E, hE⟩ : ∃ E, encU r = E := ⟨_, rfl⟩
  rw [hE] at HE HRE HDE HBE HLE
  clear hg hv hb hE
  obtain ⟨r1, r2⟩ := hr
  go_enter Tryd.func4, Tryd.ntmps4
  go_wp2_with fail
  refine HE.out.mono ?_
  rintro e w1 ⟨u1, rfl, a1, o1⟩
  have HA1 := Lib.hid a1
  have HO1 := Lib.hid o1
  obtain ⟨A1, c1, rfl, h1⟩ := o1.form
  obtain ⟨S, hS⟩ : ∃ S, strOfNums E = S := ⟨_, rfl⟩
  have HStr : Hid (∀ (w' : World) u, RU8 w' u E → (convert 22 9 u).run Tryd.prog w' = .ok (.string S) w') := Lib.hid (fun w' u h => by rw [← hS]; exact h.str)
  clear o1 hS
  have a_w1 := a1
  clear a1
  go_wp2_with fail
  apply wp_region_free (6) [⟨1, 13, .string S, false, fun v _ => v = .string S⟩, ⟨3, 15, undef, true, fun u w => RU8 w u E⟩, ⟨4, 16, .string S, false, fun v _ => v = .string S⟩] [⟨3, 15, fun u w => RU8 w u E⟩] rfl (by kernel_rfl) (by kernel_rfl) (by kernel_rfl) (by simp) (by kernel_rfl)
  case hstab =>
    intro c hc
    simp only [List.mem_cons, List.not_mem_nil, or_false] at hc
    rcases hc with rfl | rfl | rfl
    · intro v x y hxy hv; exact hv
    · intro v x y hxy hv; exact (fun h k => RN.later k h) hxy hv
    · intro v x y hxy hv; exact hv
  case hfix =>
    intro c hc
    simp only [List.mem_cons, List.not_mem_nil, or_false] at hc
    rcases hc with rfl | rfl | rfl
    · exact .inr fun u x h => h
    · exact .inl rfl
    · exact .inr fun u x h => h
  case hlex =>
    intro U hU
    simp only [List.map_cons, List.map_nil, CA.act, actFrom, actOp, List.lookup, Nat.reduceBEq, Nat.reduceLeDiff, Nat.reduceAdd, if_false, if_true]
    repeat (go_big_quiet_step (first | fail))
    exact wpQuiet_nil rfl
  case hstep =>
    intro j hj o ho
    have hj2 : j = 0 ∨ j = 1 ∨ j = 2 := by simp at hj; omega
    rcases hj2 with rfl | rfl | rfl
    · cases ho
      refine ⟨rfl, fun g x hx hp => ?_⟩
      clear hp
      simp only [fillAll, Act.put, List.setIfInBounds_toArray, List.set_cons_zero, List.set_cons_succ]
      refine free_op ?_
      have hrun := HStr.out x _ (HO1.out.rn.later hx)
      simp [go_sem, execOp, hrun]
    · cases ho
      refine ⟨rfl, fun g x hx hp => ?_⟩
      clear hp
      simp only [fillAll, Act.put, List.setIfInBounds_toArray, List.set_cons_zero, List.set_cons_succ]
      refine chain_go ?_ (free_gives (HRE.out x))
      simp [go_sem, execOp]
    · cases ho
      refine ⟨rfl, fun g x hx hp => ?_⟩
      have p15 : (fun u w => RU8 w u E) (g 3) x := hp _ (List.mem_of_getElem? (i := 0) rfl) (List.contains_iff_mem.1 (by kernel_rfl))
      clear hp
      simp only [fillAll, Act.put, List.setIfInBounds_toArray, List.set_cons_zero, List.set_cons_succ]
      refine free_op ?_
      have hrun := HStr.out x _ p15
      simp [go_sem, execOp, hrun]
  case htail =>
    intro g u hst hne
    have b_w2 : AnyLater w1 (later u) := ⟨u, rfl⟩
    generalize later u = w2 at *
    clear u
    obtain ⟨p15_w2, o15_w2⟩ := hst _ (List.mem_of_getElem? (i := 0) rfl)
    dsimp only at p15_w2 o15_w2
    clear hst hne
    simp only [fillAll, Act.put, List.setIfInBounds_toArray, List.set_cons_zero, List.set_cons_succ, List.drop_succ_cons, List.drop_zero, List.drop_nil]
    generalize g 3 = v15 at *
    have z_w2 := b_w2.below.size
    have a_w2 := a_w1.trans b_w2
    have hr1 : RU8 w2 (.slice A1 E.length c1) E := HO1.out.rn.later b_w2
    have hle := HLE.out
    have hlm := HL9.out
    obtain ⟨u2, w3, k1, k2, k3⟩ := copy8 hr1 (by omega)
    have K1 := Lib.hid k1
    have HO2 := Lib.hid k3
    have HA3 := Lib.hid (a_w2.trans k2)
    have H23 := Lib.hid k2
    have HR1 := Lib.hid hr1
    have HFw := Lib.hid (HF.out w3 HA3.out)
    clear k1 k2 k3 hr1 p15_w2 o15_w2
    go_wp2_with (at_builtin; refine Lib.wpList_append_run _ rfl _ _ _ _ rfl _ _ rfl rfl _ _ K1.out ?_)
    refine HFw.out.mono ?_
    rintro e w4 ⟨u3, rfl, b4, o3⟩
    have ho2 := HO2.out.later b4
    obtain ⟨u4, w5, q1, q2, q3⟩ := appN (s := 22) Tryd.underlying22 info_u8 (by decide) ho2 o3.rn (Nat.le_trans (H23.out.trans b4).below.size (Nat.le_refl _)) (by omega)
    have b25 : AnyLater w2 w5 := ON.grown ho2 (Nat.le_refl _) (H23.out.trans b4) q3
    have K2 := Lib.hid q1
    have HO4 := Lib.hid q2
    have HA5 := Lib.hid (a_w2.trans b25)
    have HD : Hid (Calls Tryd.prog 9 #[u4] w5 fun e w'' => e = .returned (.tuple #[.int .i32 x, .int .i64 (E.length : Int)]) ∧ AnyLater w5 w'') := Lib.hid (dec_any u4 (E ++ m) w5 x E.length (HDE.out m) q2.rn (HBE.out.append HB.out) (by rw [List.length_append]; omega) (HG.out.later HA5.out))
    have HRD : Hid (∀ w', AnyLater w5 w' → Calls Tryd.prog 10 #[.slice A1 E.length c1] w' fun e w'' => e = .returned (.tuple #[.int .i32 x, .int .i64 (E.length : Int)]) ∧ AnyLater w' w'') := Lib.hid (fun w' h => refDec_any _ E w' x E.length (by have := HDE.out []; rwa [List.append_nil] at this) (HR1.out.later (b25.trans h)) HBE.out (by omega))
    have hfx := HFX.out
    clear q1 q2 q3 ho2 b25 b4 o3
    obtain ⟨n, hn⟩ : ∃ n, E.length = n := ⟨_, rfl⟩
    rw [hn] at hle HD HRD h1 ⊢
    clear hn
    go_wp2_with (at_builtin; refine Lib.wpList_append_run _ rfl _ _ _ _ rfl _ _ rfl rfl _ _ K2.out ?_)
    refine HD.out.mono ?_
    rintro e w6 ⟨rfl, b6⟩
    have HR6 := Lib.hid (HRD.out w6 b6)
    have HA6 := Lib.hid (HA5.out.trans b6)
    clear b6
    go_wp2_with fail
    refine HR6.out.mono ?_
    rintro e w7 ⟨rfl, b7⟩
    have HA7 := Lib.hid (HA6.out.trans b7)
    have HLv := Lib.hid (ulives_any w7 (HG.out.later HA7.out))
    clear b7
    go_wp2_with fail
    refine HLv.out.mono ?_
    rintro e w8 ⟨rfl, b8⟩
    have HA8 := Lib.hid (HA7.out.trans b8)
    clear b8
    go_wp2_with fail
    go_ret
    exact ⟨rfl, HA8.out⟩
end Go.Proofs.YtibdaielglpcmaaDoor
