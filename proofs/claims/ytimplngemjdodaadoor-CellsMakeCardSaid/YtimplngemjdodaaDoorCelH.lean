/- cells: CellsMake, walked. -/
import Derived.Test.YtimplngemjdodaaDoorCelE
import Derived.Test.YtimplngemjdodaaDoorCelF
import Derived.Test.YtimplngemjdodaaDoorRunD
import Derived.Test.YtimplngemjdodaaDoorWild
namespace Go.Proofs.YtimplngemjdodaaDoor
set_option linter.unusedSimpArgs false
set_option linter.unusedVariables false
set_option linter.unusedSectionVars false
open Go.RowKit

set_option maxRecDepth 100000 in
set_option maxHeartbeats 1600000 in
theorem cellsMake_any (W : World) (v0 v1 : Value) (z0 : List Int) (z1 : Runs) (f : Int) (hb : RU8 W v0 z0) (hby : Bytes z0) (hv : RRn W v1 z1) (hN : NumsR z1) (hf : I64s f) (hg : GlobU W) :
    Calls Tryd.prog 3 #[v0, v1, .int .i64 f] W fun e w' => e = .returned (.bool true) ∧ AnyLater W w' := by
  have HF8 := Lib.hid (few8_any v0 z0 80 W hb (by omega))
  have HF0 := Lib.hid (fun w (a : AnyLater W w) => cruns_any v1 z1 w (hv.later a))
  obtain ⟨l, hl⟩ : ∃ l, z0.take 80 = l := ⟨_, rfl⟩
  obtain ⟨m, hm⟩ : ∃ m, z1.take 40 = m := ⟨_, rfl⟩
  rw [hl] at HF8
  rw [hm] at HF0
  have hll : l.length ≤ 80 := by rw [← hl, List.length_take]; omega
  have hlb : Bytes l := by rw [← hl]; exact hby.take 80
  have hml : m.length ≤ 40 := by rw [← hm, List.length_take]; omega
  have hmN : NumsR m := by rw [← hm]; exact hN.take 40
  have HF := Lib.hid (fun w u (h : RRn w u m) => cruns_any u m w h)
  rw [List.take_of_length_le hml] at HF
  obtain ⟨sm, hsm⟩ : ∃ sm, smallR m = sm := ⟨_, rfl⟩
  have HSm := Lib.hid (fun w u (h : RRn w u m) => small_any u m w sm hsm h hmN (by omega))
  have HLv := Lib.hid (fun w (a : AnyLater W w) => celives_any w (hg.later a))
  obtain ⟨c, hc, hcl⟩ := cnt_ex hlb
  have h4 : sm = true → (stylesR m).length ≤ 4000 := fun h => by
    rw [h] at hsm
    unfold smallR at hsm
    rw [Bool.and_eq_true, decide_eq_true_eq] at hsm
    exact hsm.1
  obtain ⟨CL, hCL⟩ : ∃ CL, celsU l (stA (stylesR m) f) c = CL := ⟨_, rfl⟩
  have hCLl : CL.length = c := by rw [← hCL, celsU_length]
  have HOf : Hid (sm = true → ∀ w u v, AnyLater W w → RU8 w u l → RRn w v m → Calls Tryd.prog 10 #[u, v, .int .i64 f] w fun e w' => ∃ u, e = .returned u ∧ AnyLater w w' ∧ OF celF 41 w' w.heap.size u CL) := Lib.hid (fun h w u v a hu hv => by
    have := cof_any u v l m f c w hu hlb (by omega) (hg.later a) hc hv hmN (by omega) hf
    rw [celsU_congr hc (fun p hp => stA_part (Nat.le_trans (h4 h) (by decide)) f hp), hCL] at this
    exact this)
  have HSt : Hid (sm = true → ∀ w u, RRn w u m → Calls Tryd.prog 13 #[u] w fun e w' => ∃ v, e = .returned v ∧ AnyLater w w' ∧ RI w' v (stylesR m)) := Lib.hid (fun h w u hu =>
    (styles_any u m w hu hmN (by omega) (h4 h)).mono fun _ _ ⟨x, q1, q2, q3⟩ => ⟨x, q1, q2, ON.rn q3⟩)
  have HXo : Hid (sm = true → ∀ w u v, RU8 w u l → RI w v (stylesR m) → Calls Tryd.prog 12 #[u, v, .int .i64 f] w fun e w' => ∃ u, e = .returned u ∧ AnyLater w w' ∧ FR celF w' u CL) := Lib.hid (fun h w u v hu hv => by
    have := cxof_any u v l (stylesR m) f c w hu hlb (by omega) hc hv (by have := h4 h; omega) hf
    rw [hCL] at this
    exact this.mono fun _ _ ⟨x, q1, q2, q3⟩ => ⟨x, q1, q2, OF.fr q3⟩)
  have HSa := Lib.hid (fun w u v (h : FR celF w u CL) (k : FR celF w v CL) => csame_yes u v CL w h k (by omega))
  have hby2 : bytesC l CL = l := by rw [← hCL, bytesC_of hlb, hc.fin, List.take_length]
  have HBy : Hid (∀ w u v, FR celF w u CL → RU8 w v l → Calls Tryd.prog 14 #[u, v] w fun e w' => ∃ u, e = .returned u ∧ AnyLater w w' ∧ RU8 w' u l) := Lib.hid (fun w u v hu hv => by
    have := cbytes_any u v CL l w hu hv (by omega) (by omega)
    rw [hby2] at this
    exact this.mono fun _ _ ⟨x, q1, q2, q3⟩ => ⟨x, q1, q2, ON.rn q3⟩)
  obtain ⟨S, hS⟩ : ∃ S, strOfNums l = S := ⟨_, rfl⟩
  have HStr : Hid (∀ w v, RU8 w v l → (convert 22 9 v).run Tryd.prog w = .ok (.string S) w) := Lib.hid (fun w v h => by rw [← hS]; exact RN.str h)
  have hse : (S.toList == S.toList) = true := by simp
  obtain ⟨A0, p0, rfl, -⟩ := hb.form
  obtain ⟨A1, p1, rfl, -, -⟩ := hv
  generalize z0.length = n0 at *
  generalize z1.length = n1 at *
  obtain ⟨L, hL⟩ : ∃ L, l.length = L := ⟨_, rfl⟩
  have HL := Lib.hid hL
  have HLL : Hid (l.length ≤ 80) := Lib.hid hll
  obtain ⟨f1, f2⟩ := hf
  clear hb hby hN hg hl hm hll hlb hml hmN hc hcl h4 hCL hCLl hby2 hS hsm hL
  go_enter Tryd.func3, Tryd.ntmps3
  go_wp2_with fail
  refine HF8.out.mono ?_
  rintro e w1 ⟨u1, rfl, b1, o1⟩
  have H1 := Lib.hid (And.intro b1 o1.rn)
  obtain ⟨A2, p2, rfl, -⟩ := o1.form
  rw [HL.out] at H1 ⊢
  clear b1 o1
  go_wp2_with fail
  refine (HF0.out _ H1.out.1).mono ?_
  rintro e w2 ⟨u2, rfl, b2, o2⟩
  have H2 := Lib.hid (And.intro (H1.out.1.trans b2) (And.intro (H1.out.2.later b2) o2.reads))
  clear b2 o2 H1
  go_wp2_with fail
  refine (HSm.out _ _ H2.out.2.2).mono ?_
  rintro e w3 ⟨rfl, b3⟩
  have H3 := Lib.hid (And.intro (H2.out.1.trans b3) (And.intro (H2.out.2.1.later b3) (H2.out.2.2.later b3)))
  clear b3 H2
  cases sm with
  | false =>
    go_wp2_with fail
    refine (HLv.out _ H3.out.1).mono ?_
    rintro e w4 ⟨rfl, b4⟩
    have H4 := Lib.hid (H3.out.1.trans b4)
    clear b4
    go_wp2_with fail
    go_ret
    exact ⟨rfl, H4.out⟩
  | true =>
    have HOf2 : Hid (∀ w u v, AnyLater W w → RU8 w u l → RRn w v m → Calls Tryd.prog 10 #[u, v, .int .i64 f] w fun e w' => ∃ u, e = .returned u ∧ AnyLater w w' ∧ OF celF 41 w' w.heap.size u CL) := Lib.hid (HOf.out rfl)
    have HSt2 : Hid (∀ w u, RRn w u m → Calls Tryd.prog 13 #[u] w fun e w' => ∃ v, e = .returned v ∧ AnyLater w w' ∧ RI w' v (stylesR m)) := Lib.hid (HSt.out rfl)
    have HXo2 : Hid (∀ w u v, RU8 w u l → RI w v (stylesR m) → Calls Tryd.prog 12 #[u, v, .int .i64 f] w fun e w' => ∃ u, e = .returned u ∧ AnyLater w w' ∧ FR celF w' u CL) := Lib.hid (HXo.out rfl)
    clear HOf HSt HXo
    obtain ⟨u4, w4, k1, k2, k3⟩ := copy8 H3.out.2.1 (by have := HLL.out; omega)
    have K1 := Lib.hid k1
    have H4 := Lib.hid (And.intro (H3.out.1.trans k2) (And.intro (H3.out.2.1.later k2) (And.intro (H3.out.2.2.later k2) k3.rn)))
    clear k1 k2 k3 H3
    go_wp2_with (at_builtin; refine Lib.wpList_append_run _ rfl _ _ _ _ rfl _ _ rfl rfl _ _ K1.out ?_)
    refine (HF.out _ _ H4.out.2.2.1).mono ?_
    rintro e w5 ⟨u5, rfl, b5, o5⟩
    have H5 := Lib.hid (And.intro (H4.out.1.trans b5) (And.intro (H4.out.2.1.later b5) (And.intro (H4.out.2.2.1.later b5) (And.intro (H4.out.2.2.2.later b5) o5.reads))))
    clear b5 o5 H4
    go_wp2_with fail
    refine (HOf2.out _ _ _ H5.out.1 H5.out.2.2.2.1 H5.out.2.2.2.2).mono ?_
    rintro e w6 ⟨u6, rfl, b6, o6⟩
    have H6 := Lib.hid (And.intro (H5.out.1.trans b6) (And.intro (H5.out.2.1.later b6) (And.intro (H5.out.2.2.1.later b6) o6.fr)))
    have a_w6 := H5.out.1.trans b6
    clear b6 o6 H5
    go_wp2_with fail
    apply Wild.wp_region_free (19) [⟨3, 26, undef, true, fun u w => RI w u (stylesR m)⟩, ⟨5, 28, undef, true, fun u w => FR celF w u CL⟩, ⟨6, 29, .bool true, false, fun v _ => v = .bool true⟩, ⟨10, 33, undef, true, fun u w => RU8 w u l⟩, ⟨11, 34, .string S, false, fun v _ => v = .string S⟩, ⟨13, 36, .string S, false, fun v _ => v = .string S⟩, ⟨17, 40, .bool true, false, fun v _ => v = .bool true⟩] [⟨3, 26, fun u w => RI w u (stylesR m)⟩, ⟨5, 28, fun u w => FR celF w u CL⟩, ⟨10, 33, fun u w => RU8 w u l⟩] rfl (by kernel_rfl) (by kernel_rfl) (by kernel_rfl) (by simp) (by kernel_rfl)
    case hstab =>
      intro c hc
      simp only [List.mem_cons, List.not_mem_nil, or_false] at hc
      rcases hc with rfl | rfl | rfl | rfl | rfl | rfl | rfl
      · intro v x y hxy hv; exact (fun k h => RN.later h k) hxy hv
      · intro v x y hxy hv; exact (fun k h => FR.later h k) hxy hv
      · intro v x y hxy hv; exact hv
      · intro v x y hxy hv; exact (fun k h => RN.later h k) hxy hv
      · intro v x y hxy hv; exact hv
      · intro v x y hxy hv; exact hv
      · intro v x y hxy hv; exact hv
    case hfix =>
      intro c hc
      simp only [List.mem_cons, List.not_mem_nil, or_false] at hc
      rcases hc with rfl | rfl | rfl | rfl | rfl | rfl | rfl
      · exact .inl rfl
      · exact .inl rfl
      · exact .inr fun u x h => h
      · exact .inl rfl
      · exact .inr fun u x h => h
      · exact .inr fun u x h => h
      · exact .inr fun u x h => h
    case hlex =>
      intro U hU
      simp only [List.map_cons, List.map_nil, CA.act, actFrom, actOp, List.lookup, Nat.reduceBEq, Nat.reduceLeDiff, Nat.reduceAdd, if_false, if_true]
      repeat (go_big_quiet_step (fail))
      exact wpQuiet_nil rfl
    case hstep =>
      intro j hj o ho
      have hj2 : j = 0 ∨ j = 1 ∨ j = 2 ∨ j = 3 ∨ j = 4 ∨ j = 5 ∨ j = 6 := by simp at hj; omega
      rcases hj2 with rfl | rfl | rfl | rfl | rfl | rfl | rfl
      · cases ho
        refine ⟨rfl, fun g x hx hp => ?_⟩
        clear hp
        simp only [fillAll, Act.put, List.setIfInBounds_toArray, List.set_cons_zero, List.set_cons_succ]
        refine chain_go ?_ (Wild.free_tells (HSt2.out x _ (H6.out.2.2.1.later hx)))
        first | (simp [go_sem, execOp]; done) | simp [go_sem, execOp, hcf]
      · cases ho
        refine ⟨rfl, fun g x hx hp => ?_⟩
        have p26 : (fun u w => RI w u (stylesR m)) (g 3) x := hp _ (List.mem_of_getElem? (i := 0) rfl) (List.contains_iff_mem.1 (by kernel_rfl))
        clear hp
        simp only [fillAll, Act.put, List.setIfInBounds_toArray, List.set_cons_zero, List.set_cons_succ]
        refine chain_go ?_ (Wild.free_tells (HXo2.out x _ _ (H6.out.2.1.later hx) p26))
        first | (simp [go_sem, execOp]; done) | simp [go_sem, execOp, hcf]
      · cases ho
        refine ⟨rfl, fun g x hx hp => ?_⟩
        have p28 : (fun u w => FR celF w u CL) (g 5) x := hp _ (List.mem_of_getElem? (i := 1) rfl) (List.contains_iff_mem.1 (by kernel_rfl))
        clear hp
        simp only [fillAll, Act.put, List.setIfInBounds_toArray, List.set_cons_zero, List.set_cons_succ]
        refine chain_go ?_ (Wild.free_fix (HSa.out x _ _ (H6.out.2.2.2.later hx) p28))
        first | (simp [go_sem, execOp]; done) | simp [go_sem, execOp, hcf]
      · cases ho
        refine ⟨rfl, fun g x hx hp => ?_⟩
        clear hp
        simp only [fillAll, Act.put, List.setIfInBounds_toArray, List.set_cons_zero, List.set_cons_succ]
        refine chain_go ?_ (Wild.free_tells (HBy.out x _ _ (H6.out.2.2.2.later hx) (H6.out.2.1.later hx)))
        first | (simp [go_sem, execOp]; done) | simp [go_sem, execOp, hcf]
      · cases ho
        refine ⟨rfl, fun g x hx hp => ?_⟩
        have p33 : (fun u w => RU8 w u l) (g 10) x := hp _ (List.mem_of_getElem? (i := 2) rfl) (List.contains_iff_mem.1 (by kernel_rfl))
        clear hp
        simp only [fillAll, Act.put, List.setIfInBounds_toArray, List.set_cons_zero, List.set_cons_succ]
        (have hr := HStr.out x _ p33; refine Wild.free_op ?_; simp [go_sem, execOp, hr])
      · cases ho
        refine ⟨rfl, fun g x hx hp => ?_⟩
        clear hp
        simp only [fillAll, Act.put, List.setIfInBounds_toArray, List.set_cons_zero, List.set_cons_succ]
        (have hr := HStr.out x _ (H6.out.2.1.later hx); refine Wild.free_op ?_; simp [go_sem, execOp, hr])
      · cases ho
        refine ⟨rfl, fun g x hx hp => ?_⟩
        clear hp
        simp only [fillAll, Act.put, List.setIfInBounds_toArray, List.set_cons_zero, List.set_cons_succ]
        refine chain_go ?_ (Wild.free_fix (HLv.out x (a_w6.trans hx)))
        first | (simp [go_sem, execOp]; done) | simp [go_sem, execOp, hcf]
    case htail =>
      intro g u hst hne
      have b_w7 : AnyLater w6 (later u) := ⟨u, rfl⟩
      generalize later u = w7 at *
      clear u hne
      obtain ⟨p26_w7, -⟩ := hst _ (List.mem_of_getElem? (i := 0) rfl)
      (try dsimp only at p26_w7)
      obtain ⟨p28_w7, -⟩ := hst _ (List.mem_of_getElem? (i := 1) rfl)
      (try dsimp only at p28_w7)
      obtain ⟨p33_w7, -⟩ := hst _ (List.mem_of_getElem? (i := 2) rfl)
      (try dsimp only at p33_w7)
      clear hst
      simp only [fillAll, Act.put, List.setIfInBounds_toArray, List.set_cons_zero, List.set_cons_succ, List.drop_succ_cons, List.drop_zero, List.drop_nil]
      generalize g 3 = v26 at *
      generalize g 5 = v28 at *
      generalize g 10 = v33 at *
      have z_w7 := b_w7.below.size
      have a_w7 := a_w6.trans b_w7
      go_wp2_with fail
      go_ret
      exact ⟨rfl, a_w7⟩
end Go.Proofs.YtimplngemjdodaaDoor
