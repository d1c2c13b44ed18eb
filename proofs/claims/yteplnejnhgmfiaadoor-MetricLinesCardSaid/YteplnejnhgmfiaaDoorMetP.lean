/- metric, the document: Up, Down, Line: by contract. -/
import Derived.Test.YteplnejnhgmfiaaDoorMetO
import Derived.Test.YteplnejnhgmfiaaDoorWrpD
import Derived.Test.YteplnejnhgmfiaaDoorCelE
import Derived.BigRegion
import Derived.BigQuiet
namespace Go.Proofs.YteplnejnhgmfiaaDoor
set_option linter.unusedSimpArgs false
set_option linter.unusedVariables false
set_option linter.unusedSectionVars false
open Go.RowKit

set_option maxRecDepth 100000 in
theorem xup_any (f : Int) (w : World) (u : Int) (hu : upF f = u) (hf : 0 ≤ f ∧ f ≤ 2) : Calls Tryd.prog 36 #[.int .i64 f] w fun e w' => e = .returned (.int .i64 u) ∧ w = w' := by
  have hff : f = 0 ∨ f = 1 ∨ f = 2 := by omega
  clear hf
  rcases hff with rfl | rfl | rfl
  all_goals
    have H := Lib.hid hu
    clear hu
    go_enter Tryd.func36, Tryd.ntmps36
    go_wp2_with fail
    refine bodyPost_ret (v := .int .i64 u) (by rw [← H.out]; simp [results, Tryd.results36, go_sem, upF]) rfl ⟨rfl, rfl⟩
set_option maxRecDepth 100000 in
theorem xdown_any (f : Int) (w : World) (u : Int) (hu : dnF f = u) (hf : 0 ≤ f ∧ f ≤ 2) : Calls Tryd.prog 37 #[.int .i64 f] w fun e w' => e = .returned (.int .i64 u) ∧ w = w' := by
  have hff : f = 0 ∨ f = 1 ∨ f = 2 := by omega
  clear hf
  rcases hff with rfl | rfl | rfl
  all_goals
    have H := Lib.hid hu
    clear hu
    go_enter Tryd.func37, Tryd.ntmps37
    go_wp2_with fail
    refine bodyPost_ret (v := .int .i64 u) (by rw [← H.out]; simp [results, Tryd.results37, go_sem, dnF]) rfl ⟨rfl, rfl⟩

/-! ### rows whose cells lay there before -/
def IsMix (W w : World) (x : LdV) (r : Ld) : Prop :=
  (FR celF W (.slice x.a1 x.n1 x.c1) r.cs ∧ ON .i64 3 w W.heap.size (.slice x.a2 x.n2 x.c2) r.xs) ∧ x.up = r.up ∧ x.dn = r.dn ∧ x.fr = r.fr ∧ x.en = r.en ∧ x.la = r.la
def Mix (W w : World) (v : Value) (L : List Ld) : Prop := ∃ lv, OF ldF 43 w W.heap.size v lv ∧ lv.length = L.length ∧ ∀ (j : Nat) (h : j < lv.length) (h' : j < L.length), IsMix W w lv[j] L[j]
theorem Mix.lr {W w : World} {v : Value} {L : List Ld} (h : Mix W w v L) (a : AnyLater W w) : LR w v L := by
  obtain ⟨lv, h1, h2, h3⟩ := h
  exact ⟨lv, h1.fr, h2, fun j k k' => ⟨⟨(h3 j k k').1.1.later a, (h3 j k k').1.2.rn⟩, (h3 j k k').2⟩⟩
theorem Mix.later {W w w' : World} {v : Value} {L : List Ld} (h : Mix W w v L) (a : AnyLater w w') : Mix W w' v L := by
  obtain ⟨lv, h1, h2, h3⟩ := h
  exact ⟨lv, h1.later a, h2, fun j k k' => ⟨⟨(h3 j k k').1.1, ON.later a (h3 j k k').1.2⟩, (h3 j k k').2⟩⟩
theorem Mix.form {W w : World} {v : Value} {L : List Ld} (h : Mix W w v L) : ∃ A cap, v = .slice A L.length cap ∧ L.length ≤ cap := by
  obtain ⟨lv, h1, h2, h3⟩ := h
  obtain ⟨A, cap, e, hc⟩ := h1.form
  exact ⟨A, cap, by rw [e, h2], by omega⟩
theorem Mix.app {W w : World} {v : Value} {L : List Ld} (h : Mix W w v L) (x : LdV) (r : Ld) {cs : Array Value} (hr : (ldF.fl x).toArray = cs) (hx : IsMix W w x r) (hW : AnyLater W w) (hl : L.length ≤ 190000) :
    ∃ u w2, (Builtin.append_ #[29, 29] 29 #[v, .slice (some ⟨w.heap.size, 0, none⟩) 1 1]).run Tryd.prog (w.alloc (.cells cs 43)) = .ok u w2 ∧ Mix W w2 u (L ++ [r]) ∧ AnyLater W w2 ∧
      ∀ {B e size v' n xs}, e ≠ 43 → w.ownsRow B e size v' n xs → w2.ownsRow B e size v' n xs := by
  obtain ⟨lv, h1, h2, h3⟩ := h
  obtain ⟨u, w2, k1, k2, k3, k4⟩ := appF1 ldFT x hr h1 hW.below.size (by omega)
  have keep : ∀ y q, IsMix W w y q → IsMix W w2 y q := fun y q hy => ⟨⟨hy.1.1, ld_grown hy.1.2 (by decide) h1 k4⟩, hy.2⟩
  refine ⟨u, w2, k1, ⟨lv ++ [x], k2, by rw [List.length_append, List.length_append, h2]; rfl, fun j hj hj' => ?_⟩, k3 W (Nat.le_refl _) hW, fun hne ho => ld_grown ho hne h1 k4⟩
  rw [List.length_append] at hj
  by_cases e : j < lv.length
  · rw [List.getElem_append_left e, List.getElem_append_left (by omega)]
    exact keep _ _ (h3 j e (by omega))
  · have e2 : j = lv.length := by simp at hj; omega
    subst e2
    rw [List.getElem_append_right (Nat.le_refl _), List.getElem_append_right (by omega)]
    simp only [Nat.sub_self, h2, List.getElem_cons_zero]
    exact keep _ _ hx

/-! ### Line -/
set_option maxRecDepth 100000 in
set_option maxHeartbeats 3200000 in
theorem xline_any (v vs : Value) (l T : List Int) (f x : Int) (c : Nat) (w : World) (hv : RU8 w v l) (hb : Bytes l) (hl : l.length ≤ 200) (hc : Cnt l c) (hs : RI w vs T) (hT : T.length ≤ 100000) (hTN : NumsI T) (hf : I64s f) (hx : I64s x) :
    Calls Tryd.prog 13 #[v, vs, .int .i64 f, .int .i64 x] w fun e w' => ∃ u, e = .returned u ∧ AnyLater w w' ∧ LR w' u (linesL (celsU l (stA T f) c) x) := by
  have HCO := Lib.hid (cxof_any v vs l T f c w hv hb hl hc hs hT hf)
  have hcl := hc.le hb
  have hC1 := celsU_ok (sty := stA T f) hb (stA_in hTN f) (by omega) c
  have hC3 := celsU_length l (stA T f) c
  have hC2 := celsU_small (sty := stA T f) hb (by omega) c
  obtain ⟨C, hC⟩ : ∃ C, celsU l (stA T f) c = C := ⟨_, rfl⟩
  rw [hC] at HCO hC1 hC2 hC3 ⊢
  have HOK := Lib.hid hC1
  have HSM := Lib.hid hC2
  have HCL := Lib.hid hC3
  have hRN := rowsW_pos C x
  have HRA := Lib.hid (rowsW_at C x)
  obtain ⟨RW, hRW⟩ : ∃ RW, rowsW C x = RW := ⟨_, rfl⟩
  have HWR := Lib.hid (fun v w (hv : FR celF w v C) => xrows_any v C x w hv hC1 (by omega) hx)
  rw [hRW] at hRN HRA HWR
  obtain ⟨n, hn⟩ : ∃ n, RW.length = n := ⟨_, rfl⟩
  have HNN := Lib.hid hn
  have HLI := Lib.hid (linesL_eq hRW hn)
  rw [hn] at hRN
  have hn1 := hRN.1
  have hn2 : n ≤ 300 := by omega
  have hc200 : c ≤ 200 := by omega
  obtain ⟨ALL, hALL⟩ : ∃ ALL, linesL C x = ALL := ⟨_, rfl⟩
  rw [hALL] at HLI ⊢
  obtain ⟨A, cap, rfl, hcap⟩ := hv.form
  obtain ⟨A2, cap2, rfl, -⟩ := hs.form
  generalize l.length = L at *
  generalize T.length = TT at *
  clear hv hb hl hc hs hf hC1 hC2 hC3 hC hRN hRW hn hcl hx hT hTN hALL
  go_enter Tryd.func13, Tryd.ntmps13
  go_wp2_with fail
  refine HCO.out.mono ?_
  rintro e w1 ⟨u1, rfl, b1, o1⟩
  obtain ⟨A3, c3, rfl, h3⟩ := o1.form
  rw [HCL.out] at o1 h3 ⊢
  have H1 := Lib.hid (And.intro b1 (OF.fr o1))
  clear b1 o1
  go_wp2_with fail
  have aA : AnyLater w1 (w1.alloc (.cells #[] 43)) := (AnyLater.refl w1).alloc _
  have hM0 : Mix w1 (w1.alloc (.cells #[] 43)) (.slice (some ⟨w1.heap.size, 0, none⟩) 0 0) [] := ⟨[], OF.empty (Nat.le_refl _) (heap_new rfl), rfl, fun j h => absurd h (by simp)⟩
  have H2 := Lib.hid (And.intro aA (And.intro (H1.out.2.later aA) hM0))
  refine (HWR.out _ _ H2.out.2.1).mono ?_
  rintro e w3 ⟨u3, rfl, b3, o3⟩
  obtain ⟨A4, c4, rfl, h4⟩ := o3.form
  have o3' : OF rowF 59 w3 w1.heap.size (.slice A4 n c4) RW := by
    have hsl : Value.slice A4 RW.length c4 = .slice A4 n c4 := by rw [HNN.out]
    exact hsl ▸ (OF.wide (C := w1.heap.size) H2.out.1.below.size o3)
  have H3 := Lib.hid (And.intro (H2.out.1.trans b3) (And.intro o3' (H2.out.2.2.later b3)))
  have hlr : RW.length = n := HNN.out
  rw [hlr] at h4 ⊢
  clear b3 o3 o3' aA hM0 hlr
  go_wp2_with fail
  go_loopg [10, 12] n (fun kk ov iv wr => AnyLater w1 wr ∧ OF rowF 59 wr w1.heap.size (.slice A4 n c4) RW ∧ ∃ j : Nat, kk = n - j ∧ j ≤ n ∧ iv = .int .i64 j ∧ Mix w1 wr ov (ALL.take j))
  case atStart => exact ⟨H3.out.1, H3.out.2.1, 0, by omega, by omega, rfl, H3.out.2.2⟩
  case round =>
    obtain ⟨a_wr, hRw, j, hk2, hj, rfl, ho⟩ := hrel
    generalize wr = wo at *
    have HA := Lib.hid a_wr
    have HO := Lib.hid ho
    have HRW := Lib.hid hRw
    obtain ⟨A8, c8, rfl, h8⟩ := ho.form
    have hLl : ALL.length = n := by rw [HLI.out]; simp
    have htl : (ALL.take j).length = j := by rw [List.length_take, hLl]; omega
    have HTL := Lib.hid (And.intro hLl htl)
    rw [htl] at HO h8 ⊢
    clear ho hRw hLl htl
    by_cases hlt : j < n
    · have lj : j < RW.length := by rw [HNN.out]; exact hlt
      obtain ⟨a, b, hab, ha, hb⟩ := HRA.out j lj
      have hrg : RW.getD j (0, 0, 0) = ((a : Int), (b : Int), wEnd C a b) := by rw [List.getD_eq_getElem?_getD, List.getElem?_eq_getElem lj, Option.getD_some, hab]
      obtain ⟨e1, e2⟩ := rowCels_at (C := C) (a := a) (b := b) (e := wEnd C a b) hb
      rw [← hrg] at e1 e2
      obtain ⟨bb, off, eA, hbb, c0, c1, -⟩ := rowAt (OF.fr HRW.out) j lj
      rw [hab] at c0 c1
      simp only at c0 c1
      subst eA
      obtain ⟨u5, hu5, hcut⟩ := H1.out.2.partF celFT a b ha hb
      obtain ⟨P, hP⟩ : ∃ P, (C.take b).drop a = P := ⟨_, rfl⟩
      have o1 := HOK.out.part a b
      have o2 := HSM.out.part a b
      rw [e1, hP] at e2
      rw [hP] at e1 hu5 o1 o2
      obtain ⟨m, hm⟩ : ∃ m, P.length = m := ⟨_, rfl⟩
      have hm2 : m ≤ 200 := by have := HCL.out; omega
      obtain ⟨A6, c6, rfl, -⟩ := hu5.form
      rw [hm] at hu5 hcut
      have HP := Lib.hid hu5
      have HPO := Lib.hid o1
      have HPS := Lib.hid o2
      have HRC := Lib.hid (And.intro e1 hm)
      have HXS := Lib.hid (fun w2 (h : FR celF w2 (.slice A6 m c6) P) => cxxs_any _ P w2 h o1 (by omega))
      have HXL := Lib.hid (show (xsC 0 P).length = m + 1 by rw [xsC_length, hm])
      obtain ⟨la, hla⟩ : ∃ la, decide (j + 1 = n) = la := ⟨_, rfl⟩
      have HSN : Hid (ALL.take (j + 1) = ALL.take j ++ [⟨P, xsC 0 P, upL P, dnL P, frL P, toL P, la⟩]) := Lib.hid (by
        rw [HLI.out, ← List.map_take, ← List.map_take, List.take_range, List.take_range, Nat.min_eq_left (by omega), Nat.min_eq_left (by omega), List.range_succ, List.map_append, List.map_singleton, e1, hla]; rfl)
      have hla2 : ((j : Int) == (n : Int) - 1) = la := by
        rw [← hla]
        by_cases q : j + 1 = n
        · rw [decide_eq_true q]; simp; omega
        · rw [decide_eq_false q]; simp; omega
      clear e1 e2 hab hrg hP hm o1 o2 hu5 hla
      have i0 : (j : Int) < (n : Int) := by omega
      go_wp2_with fail
      go_quiet (fail)
      have hq : AnyLater wo (wo.drewN nq) := (AnyLater.refl wo).drewN nq
      go_wp2_with fail
      refine (HXS.out _ (HP.out.later (HA.out.trans hq))).mono ?_
      rintro e w4 ⟨u7, rfl, b4, o4⟩
      have a_w4 := hq.trans b4
      obtain ⟨A7, c7, rfl, -⟩ := o4.form
      rw [HXL.out] at o4 ⊢
      have HX4 := Lib.hid (ON.wide (C := w1.heap.size) (by have := HA.out.below.size; have := hq.below.size; omega) o4)
      have H4 := Lib.hid (And.intro (HP.out.later (HA.out.trans a_w4)) (And.intro (HA.out.trans a_w4) a_w4))
      obtain ⟨p, hp⟩ : ∃ p, w4.heap.size = p := ⟨_, rfl⟩
      have HPP := Lib.hid hp
      clear hq b4 o4 c0 c1 hcut hbb
      go_upto_region 8 with fail
      have s0_w5 : (w4.alloc (.cells #[.slice A6 m c6, .slice A7 (m + 1) c7, .int .i64 7, .int .i64 2, .int .i64 0, .int .i64 0, .bool la] 43)).heap[p]? = some (.cells #[.slice A6 m c6, .slice A7 (m + 1) c7, .int .i64 7, .int .i64 2, .int .i64 0, .int .i64 0, .bool la] 43) := by rw [← hp]; exact heap_new rfl
      have a_w5 : AnyLater w4 (w4.alloc (.cells #[.slice A6 m c6, .slice A7 (m + 1) c7, .int .i64 7, .int .i64 2, .int .i64 0, .int .i64 0, .bool la] 43)) := (AnyLater.refl w4).alloc _
      generalize w4.alloc (.cells #[.slice A6 m c6, .slice A7 (m + 1) c7, .int .i64 7, .int .i64 2, .int .i64 0, .int .i64 0, .bool la] 43) = w5 at *
      have hpz : w4.heap.size ≤ p := by omega
      clear hp
      go_wp2_with fail
      go_loopg [15] m (fun kk kv ws => AnyLater w4 ws ∧ ∃ k : Nat, kk = m - k ∧ k ≤ m ∧ kv = .int .i64 k ∧ ws.heap[p]? = some (.cells #[.slice A6 m c6, .slice A7 (m + 1) c7, .int .i64 (upL (P.take k)), .int .i64 (dnL (P.take k)), .int .i64 0, .int .i64 0, .bool la] 43))
      case atStart => exact ⟨a_w5, 0, by omega, by omega, rfl, s0_w5⟩
      case round =>
        obtain ⟨a_wr, k, hkk, hkm, rfl, s0_wr⟩ := hrel
        have HAS := Lib.hid a_wr
        have hu := upL_in (P.take k)
        have hd := dnL_in (P.take k)
        by_cases hlt2 : k < m
        · have lk : k < P.length := by rw [HRC.out.2]; exact hlt2
          have i1 : (k : Int) < (m : Int) := by omega
          have HT : Hid (upL (P.take (k + 1)) = max (upL (P.take k)) (upF (faceS P[k].2.2.2)) ∧ dnL (P.take (k + 1)) = max (dnL (P.take k)) (dnF (faceS P[k].2.2.2))) := Lib.hid (by
            rw [cels_take lk, upL_snoc, dnL_snoc]; exact ⟨rfl, rfl⟩)
          obtain ⟨U, hU⟩ : ∃ U, upL (P.take k) = U := ⟨_, rfl⟩
          obtain ⟨D, hD⟩ : ∃ D, dnL (P.take k) = D := ⟨_, rfl⟩
          rw [hU] at hu HT s0_wr
          rw [hD] at hd HT s0_wr
          obtain ⟨b', off', rfl, hb', -, -, -, cS⟩ := celAt (H4.out.1.later a_wr) k lk
          have hok := HPO.out P[k] (List.getElem_mem lk)
          generalize P[k] = cel at *
          obtain ⟨ca, cn, cr, cs⟩ := cel
          simp only at cS HT
          obtain ⟨-, -, -, hs⟩ := hok
          have hfs := faceS_in cs
          obtain ⟨fc, hf⟩ : ∃ fc, faceS cs = fc := ⟨_, rfl⟩
          have HF := Lib.hid (fun w => (refFaceS_any cs w fc hf hs).mono (fun e w' h => (⟨h.1, h.2 ▸ AnyLater.refl w⟩ : e = .returned (.int .i64 fc) ∧ AnyLater w w')))
          rw [hf] at hfs HT
          obtain ⟨y1, hy1⟩ : ∃ y, upF fc = y := ⟨_, rfl⟩
          obtain ⟨y2, hy2⟩ : ∃ y, dnF fc = y := ⟨_, rfl⟩
          have HU := Lib.hid (fun w => (xup_any fc w y1 hy1 hfs).mono (fun e w' h => (⟨h.1, h.2 ▸ AnyLater.refl w⟩ : e = .returned (.int .i64 y1) ∧ AnyLater w w')))
          have HD := Lib.hid (fun w => (xdown_any fc w y2 hy2 hfs).mono (fun e w' h => (⟨h.1, h.2 ▸ AnyLater.refl w⟩ : e = .returned (.int .i64 y2) ∧ AnyLater w w')))
          rw [hy1, hy2] at HT
          obtain ⟨U2, hU2⟩ : ∃ U2, max U y1 = U2 := ⟨_, rfl⟩
          obtain ⟨D2, hD2⟩ : ∃ D2, max D y2 = D2 := ⟨_, rfl⟩
          rw [hU2, hD2] at HT
          have r0_wr := own_row s0_wr
          have f0_wr := own_free s0_wr
          have l0_wr := own_lt s0_wr
          clear hU hD hf hy1 hy2 hs hfs
          go_wp2_with fail
          refine (HF.out _).mono ?_
          rintro e w8 ⟨rfl, b_w8⟩
          have z_w8 := b_w8.below.size
          have a_w8 := a_wr.trans b_w8
          have s0_w8 := any_own b_w8 s0_wr
          have r0_w8 := own_row s0_w8
          have f0_w8 := own_free s0_w8
          have l0_w8 := own_lt s0_w8
          (try clear r0_wr); (try clear f0_wr)
          go_wp2_with fail
          apply wp_region_free (5) [⟨1, 65, .int .i64 y1, false, fun v _ => v = .int .i64 y1⟩] [] rfl (by kernel_rfl) (by kernel_rfl) (by kernel_rfl) (by simp) (by kernel_rfl)
          case hstab =>
            intro c hc
            simp only [List.mem_cons, List.not_mem_nil, or_false] at hc
            rcases hc with rfl
            · intro v x y hxy hv; exact hv
          case hfix =>
            intro c hc
            simp only [List.mem_cons, List.not_mem_nil, or_false] at hc
            rcases hc with rfl
            · exact .inr fun u x h => h
          case hlex =>
            intro U hU
            have q0 := own_row (any_own hU s0_w8)
            simp only [List.map_cons, List.map_nil, CA.act, actFrom, actOp, List.lookup, Nat.reduceBEq, Nat.reduceLeDiff, Nat.reduceAdd, if_false, if_true]
            repeat (go_big_quiet_step (first | fail))
            exact wpQuiet_nil rfl
          case hstep =>
            intro j hj o ho
            have hj2 : j = 0 := by simp at hj; omega
            rcases hj2 with rfl
            · cases ho
              refine ⟨rfl, fun g x hx hp => ?_⟩
              clear hp
              simp only [fillAll, Act.put, List.setIfInBounds_toArray, List.set_cons_zero, List.set_cons_succ]
              refine chain_go ?_ (free_fix (HU.out x))
              first | (simp [go_sem, execOp]; done) | simp [go_sem, execOp, hcf]
          case htail =>
            intro g u hst hne
            have b_w6 : AnyLater w8 (later u) := ⟨u, rfl⟩
            generalize later u = w6 at *
            clear u
            clear hst hne
            simp only [fillAll, Act.put, List.setIfInBounds_toArray, List.set_cons_zero, List.set_cons_succ, List.drop_succ_cons, List.drop_zero, List.drop_nil]
            have z_w6 := b_w6.below.size
            have a_w6 := a_w8.trans b_w6
            have s0_w6 := any_own b_w6 s0_w8
            have r0_w6 := own_row s0_w6
            have f0_w6 := own_free s0_w6
            have l0_w6 := own_lt s0_w6
            (try clear r0_w8); (try clear f0_w8)
            clear cS
            rcases Int.lt_or_le U y1 with hUl | hUl
            · have d1 : decide (U < y1) = true := decide_eq_true hUl
              obtain rfl : U2 = y1 := by omega
              go_wp2_with fail
              refine (HU.out _).mono ?_
              rintro e w7 ⟨rfl, b_w7⟩
              have z_w7 := b_w7.below.size
              have a_w7 := a_w6.trans b_w7
              have s0_w7 := any_own b_w7 s0_w6
              have r0_w7 := own_row s0_w7
              have f0_w7 := own_free s0_w7
              have l0_w7 := own_lt s0_w7
              (try clear r0_w6); (try clear f0_w6)
              go_upto_region 14 with fail
              first | refine settle_wp (fun wS => AnyLater w4 wS ∧ wS.heap[p]? = some (.cells #[.slice (some ⟨b', off', none⟩) m c6, .slice A7 (m + 1) c7, .int .i64 U2, .int .i64 D, .int .i64 0, .int .i64 0, .bool la] 43)) ?_ ?_ | refine settle_calls (fun wS => AnyLater w4 wS ∧ wS.heap[p]? = some (.cells #[.slice (some ⟨b', off', none⟩) m c6, .slice A7 (m + 1) c7, .int .i64 U2, .int .i64 D, .int .i64 0, .int .i64 0, .bool la] 43)) ?_ ?_
              · refine ⟨?_, ?_⟩
                · repeat' (first | with_reducible assumption | with_reducible exact AnyLater.refl _ | with_reducible apply AnyLater.setCell | with_reducible apply AnyLater.later | with_reducible apply AnyLater.drewN | with_reducible apply AnyLater.drew | with_reducible apply AnyLater.alloc | ((try simp only [World.size_alloc, World.size_setCell, World.size_drew]); (try dsimp only); omega))
                · ((repeat (first | with_reducible assumption | ((with_reducible apply heap_new); (try simp only [World.size_alloc, World.size_setCell, World.size_drew, World.heap_drewN]); done) | ((with_reducible apply heap_new); (try simp only [World.size_alloc, World.size_setCell, World.size_drew, World.heap_drewN]); omega) | (with_reducible refine heap_old (by (try simp only [World.size_alloc, World.size_setCell, World.size_drew, World.heap_drewN]); omega) ?_) | (with_reducible refine heap_drew ?_) | (with_reducible refine heap_far (by omega) ?_) | (with_reducible apply heap_at))); all_goals rfl)
              rintro w9 ⟨b_w9, s0_w9⟩
              have a_w9 := a_w4.trans b_w9
              have r0_w9 := own_row s0_w9
              have f0_w9 := own_free s0_w9
              have l0_w9 := own_lt s0_w9
              have z_w9 := b_w9.below.size
              have a_w9 := b_w9
              go_wp2_with fail
              apply wp_region_free (5) [⟨1, 73, .int .i64 y2, false, fun v _ => v = .int .i64 y2⟩] [] rfl (by kernel_rfl) (by kernel_rfl) (by kernel_rfl) (by simp) (by kernel_rfl)
              case hstab =>
                intro c hc
                simp only [List.mem_cons, List.not_mem_nil, or_false] at hc
                rcases hc with rfl
                · intro v x y hxy hv; exact hv
              case hfix =>
                intro c hc
                simp only [List.mem_cons, List.not_mem_nil, or_false] at hc
                rcases hc with rfl
                · exact .inr fun u x h => h
              case hlex =>
                intro U hU
                have q0 := own_row (any_own hU s0_w9)
                simp only [List.map_cons, List.map_nil, CA.act, actFrom, actOp, List.lookup, Nat.reduceBEq, Nat.reduceLeDiff, Nat.reduceAdd, if_false, if_true]
                repeat (go_big_quiet_step (first | fail))
                exact wpQuiet_nil rfl
              case hstep =>
                intro j hj o ho
                have hj2 : j = 0 := by simp at hj; omega
                rcases hj2 with rfl
                · cases ho
                  refine ⟨rfl, fun g x hx hp => ?_⟩
                  clear hp
                  simp only [fillAll, Act.put, List.setIfInBounds_toArray, List.set_cons_zero, List.set_cons_succ]
                  refine chain_go ?_ (free_fix (HD.out x))
                  first | (simp [go_sem, execOp]; done) | simp [go_sem, execOp, hcf]
              case htail =>
                intro g u hst hne
                have b_w10 : AnyLater w9 (later u) := ⟨u, rfl⟩
                generalize later u = w10 at *
                clear u
                clear hst hne
                simp only [fillAll, Act.put, List.setIfInBounds_toArray, List.set_cons_zero, List.set_cons_succ, List.drop_succ_cons, List.drop_zero, List.drop_nil]
                have z_w10 := b_w10.below.size
                have a_w10 := a_w9.trans b_w10
                have s0_w10 := any_own b_w10 s0_w9
                have r0_w10 := own_row s0_w10
                have f0_w10 := own_free s0_w10
                have l0_w10 := own_lt s0_w10
                (try clear r0_w9); (try clear f0_w9)
                rcases Int.lt_or_le D y2 with hDl | hDl
                · have d2 : decide (D < y2) = true := decide_eq_true hDl
                  obtain rfl : D2 = y2 := by omega
                  go_wp2_with fail
                  refine (HD.out _).mono ?_
                  rintro e w11 ⟨rfl, b_w11⟩
                  have z_w11 := b_w11.below.size
                  have a_w11 := a_w10.trans b_w11
                  have s0_w11 := any_own b_w11 s0_w10
                  have r0_w11 := own_row s0_w11
                  have f0_w11 := own_free s0_w11
                  have l0_w11 := own_lt s0_w11
                  (try clear r0_w10); (try clear f0_w10)
                  go_upto_region 10 with fail
                  first | refine settle_wp (fun wS => AnyLater w4 wS ∧ wS.heap[p]? = some (.cells #[.slice (some ⟨b', off', none⟩) m c6, .slice A7 (m + 1) c7, .int .i64 U2, .int .i64 D2, .int .i64 0, .int .i64 0, .bool la] 43)) ?_ ?_ | refine settle_calls (fun wS => AnyLater w4 wS ∧ wS.heap[p]? = some (.cells #[.slice (some ⟨b', off', none⟩) m c6, .slice A7 (m + 1) c7, .int .i64 U2, .int .i64 D2, .int .i64 0, .int .i64 0, .bool la] 43)) ?_ ?_
                  · refine ⟨?_, ?_⟩
                    · repeat' (first | with_reducible assumption | with_reducible exact AnyLater.refl _ | with_reducible apply AnyLater.setCell | with_reducible apply AnyLater.later | with_reducible apply AnyLater.drewN | with_reducible apply AnyLater.drew | with_reducible apply AnyLater.alloc | ((try simp only [World.size_alloc, World.size_setCell, World.size_drew]); (try dsimp only); omega))
                    · ((repeat (first | with_reducible assumption | ((with_reducible apply heap_new); (try simp only [World.size_alloc, World.size_setCell, World.size_drew, World.heap_drewN]); done) | ((with_reducible apply heap_new); (try simp only [World.size_alloc, World.size_setCell, World.size_drew, World.heap_drewN]); omega) | (with_reducible refine heap_old (by (try simp only [World.size_alloc, World.size_setCell, World.size_drew, World.heap_drewN]); omega) ?_) | (with_reducible refine heap_drew ?_) | (with_reducible refine heap_far (by omega) ?_) | (with_reducible apply heap_at))); all_goals rfl)
                  rintro w12 ⟨b_w12, s0_w12⟩
                  have a_w12 := a_w4.trans b_w12
                  have r0_w12 := own_row s0_w12
                  have f0_w12 := own_free s0_w12
                  have l0_w12 := own_lt s0_w12
                  have z_w12 := b_w12.below.size
                  go_wp2_with fail
                  go_roundg (m - (k + 1))
                  case measure => omega
                  case rel => exact ⟨b_w12, k + 1, rfl, by omega, by go_num, by rw [HT.out.1, HT.out.2]; exact s0_w12⟩
                · have d2 : decide (D < y2) = false := decide_eq_false (by omega)
                  obtain rfl : D2 = D := by omega
                  go_wp2_with fail
                  go_roundg (m - (k + 1))
                  case measure => omega
                  case rel => exact ⟨a_w10, k + 1, rfl, by omega, by go_num, by rw [HT.out.1, HT.out.2]; exact s0_w10⟩
            · have d1 : decide (U < y1) = false := decide_eq_false (by omega)
              obtain rfl : U2 = U := by omega
              go_wp2_with fail
              apply wp_region_free (5) [⟨1, 73, .int .i64 y2, false, fun v _ => v = .int .i64 y2⟩] [] rfl (by kernel_rfl) (by kernel_rfl) (by kernel_rfl) (by simp) (by kernel_rfl)
              case hstab =>
                intro c hc
                simp only [List.mem_cons, List.not_mem_nil, or_false] at hc
                rcases hc with rfl
                · intro v x y hxy hv; exact hv
              case hfix =>
                intro c hc
                simp only [List.mem_cons, List.not_mem_nil, or_false] at hc
                rcases hc with rfl
                · exact .inr fun u x h => h
              case hlex =>
                intro U hU
                have q0 := own_row (any_own hU s0_w6)
                simp only [List.map_cons, List.map_nil, CA.act, actFrom, actOp, List.lookup, Nat.reduceBEq, Nat.reduceLeDiff, Nat.reduceAdd, if_false, if_true]
                repeat (go_big_quiet_step (first | fail))
                exact wpQuiet_nil rfl
              case hstep =>
                intro j hj o ho
                have hj2 : j = 0 := by simp at hj; omega
                rcases hj2 with rfl
                · cases ho
                  refine ⟨rfl, fun g x hx hp => ?_⟩
                  clear hp
                  simp only [fillAll, Act.put, List.setIfInBounds_toArray, List.set_cons_zero, List.set_cons_succ]
                  refine chain_go ?_ (free_fix (HD.out x))
                  first | (simp [go_sem, execOp]; done) | simp [go_sem, execOp, hcf]
              case htail =>
                intro g u hst hne
                have b_w10 : AnyLater w6 (later u) := ⟨u, rfl⟩
                generalize later u = w10 at *
                clear u
                clear hst hne
                simp only [fillAll, Act.put, List.setIfInBounds_toArray, List.set_cons_zero, List.set_cons_succ, List.drop_succ_cons, List.drop_zero, List.drop_nil]
                have z_w10 := b_w10.below.size
                have a_w10 := a_w6.trans b_w10
                have s0_w10 := any_own b_w10 s0_w6
                have r0_w10 := own_row s0_w10
                have f0_w10 := own_free s0_w10
                have l0_w10 := own_lt s0_w10
                (try clear r0_w6); (try clear f0_w6)
                rcases Int.lt_or_le D y2 with hDl | hDl
                · have d2 : decide (D < y2) = true := decide_eq_true hDl
                  obtain rfl : D2 = y2 := by omega
                  go_wp2_with fail
                  refine (HD.out _).mono ?_
                  rintro e w11 ⟨rfl, b_w11⟩
                  have z_w11 := b_w11.below.size
                  have a_w11 := a_w10.trans b_w11
                  have s0_w11 := any_own b_w11 s0_w10
                  have r0_w11 := own_row s0_w11
                  have f0_w11 := own_free s0_w11
                  have l0_w11 := own_lt s0_w11
                  (try clear r0_w10); (try clear f0_w10)
                  go_upto_region 10 with fail
                  first | refine settle_wp (fun wS => AnyLater w4 wS ∧ wS.heap[p]? = some (.cells #[.slice (some ⟨b', off', none⟩) m c6, .slice A7 (m + 1) c7, .int .i64 U2, .int .i64 D2, .int .i64 0, .int .i64 0, .bool la] 43)) ?_ ?_ | refine settle_calls (fun wS => AnyLater w4 wS ∧ wS.heap[p]? = some (.cells #[.slice (some ⟨b', off', none⟩) m c6, .slice A7 (m + 1) c7, .int .i64 U2, .int .i64 D2, .int .i64 0, .int .i64 0, .bool la] 43)) ?_ ?_
                  · refine ⟨?_, ?_⟩
                    · repeat' (first | with_reducible assumption | with_reducible exact AnyLater.refl _ | with_reducible apply AnyLater.setCell | with_reducible apply AnyLater.later | with_reducible apply AnyLater.drewN | with_reducible apply AnyLater.drew | with_reducible apply AnyLater.alloc | ((try simp only [World.size_alloc, World.size_setCell, World.size_drew]); (try dsimp only); omega))
                    · ((repeat (first | with_reducible assumption | ((with_reducible apply heap_new); (try simp only [World.size_alloc, World.size_setCell, World.size_drew, World.heap_drewN]); done) | ((with_reducible apply heap_new); (try simp only [World.size_alloc, World.size_setCell, World.size_drew, World.heap_drewN]); omega) | (with_reducible refine heap_old (by (try simp only [World.size_alloc, World.size_setCell, World.size_drew, World.heap_drewN]); omega) ?_) | (with_reducible refine heap_drew ?_) | (with_reducible refine heap_far (by omega) ?_) | (with_reducible apply heap_at))); all_goals rfl)
                  rintro w12 ⟨b_w12, s0_w12⟩
                  have a_w12 := a_w4.trans b_w12
                  have r0_w12 := own_row s0_w12
                  have f0_w12 := own_free s0_w12
                  have l0_w12 := own_lt s0_w12
                  have z_w12 := b_w12.below.size
                  go_wp2_with fail
                  go_roundg (m - (k + 1))
                  case measure => omega
                  case rel => exact ⟨b_w12, k + 1, rfl, by omega, by go_num, by rw [HT.out.1, HT.out.2]; exact s0_w12⟩
                · have d2 : decide (D < y2) = false := decide_eq_false (by omega)
                  obtain rfl : D2 = D := by omega
                  go_wp2_with fail
                  go_roundg (m - (k + 1))
                  case measure => omega
                  case rel => exact ⟨a_w10, k + 1, rfl, by omega, by go_num, by rw [HT.out.1, HT.out.2]; exact s0_w10⟩
        · obtain rfl : k = m := by omega
          have hPk : P.take k = P := List.take_of_length_le (by rw [HRC.out.2]; exact Nat.le_refl _)
          rw [hPk] at s0_wr hu hd
          obtain ⟨U, hU⟩ : ∃ U, upL P = U := ⟨_, rfl⟩
          obtain ⟨D, hD⟩ : ∃ D, dnL P = D := ⟨_, rfl⟩
          rw [hU] at s0_wr hu HSN
          rw [hD] at s0_wr hd HSN
          have r0_wr := own_row s0_wr
          have f0_wr := own_free s0_wr
          have l0_wr := own_lt s0_wr
          have HEND : Hid (∀ w9 X Y, AnyLater w4 w9 → frL P = X → toL P = Y → ∃ u w10, (Builtin.append_ #[29, 29] 29 #[.slice A8 j c8, .slice (some ⟨w9.heap.size, 0, none⟩) 1 1]).run Tryd.prog (w9.alloc (.cells #[.slice A6 k c6, .slice A7 (k + 1) c7, .int .i64 U, .int .i64 D, .int .i64 X, .int .i64 Y, .bool la] 43)) = .ok u w10 ∧ Mix w1 w10 u (ALL.take (j + 1)) ∧ AnyLater w1 w10 ∧ OF rowF 59 w10 w1.heap.size (.slice (some ⟨bb, off, none⟩) n c4) RW) := Lib.hid (by
            intro w9 X Y a9 hX hY
            have a19 := H4.out.2.1.trans a9
            obtain ⟨u, w10, q1, q2, q3, q4⟩ := (HO.out.later (H4.out.2.2.trans a9)).app ⟨A6, k, c6, A7, k + 1, c7, U, D, X, Y, la⟩ ⟨P, xsC 0 P, U, D, frL P, toL P, la⟩ rfl ⟨⟨HP.out, ON.later a9 HX4.out⟩, rfl, rfl, hX.symm, hY.symm, rfl⟩ a19 (by rw [HTL.out.2]; omega)
            exact ⟨u, w10, q1, by rw [HSN.out]; exact q2, q3, q4 (by decide) (HRW.out.later (H4.out.2.2.trans a9))⟩)
          rcases Nat.eq_zero_or_pos k with rfl | hk0
          · have hPn : P = [] := List.eq_nil_of_length_eq_zero HRC.out.2
            obtain ⟨u9, w10, q1, q2, q3, q4⟩ := HEND.out wr 0 0 a_wr (by rw [hPn]; rfl) (by rw [hPn]; rfl)
            have K1 := Lib.hid q1
            have K2 := Lib.hid (And.intro q3 (And.intro q4 q2))
            clear q1 q2 q3 q4
            go_wp2_with (at_builtin; refine Lib.wpList_append_run _ rfl _ _ _ _ rfl _ _ rfl rfl _ _ K1.out ?_)
            go_roundg (n - (j + 1))
            case measure => omega
            case rel => exact ⟨K2.out.1, K2.out.2.1, j + 1, rfl, by omega, by go_num, K2.out.2.2⟩
          · obtain ⟨q, rfl⟩ : ∃ q, k = q + 1 := ⟨k - 1, by omega⟩
            have lq : q < P.length := by rw [HRC.out.2]; omega
            have l0 : 0 < P.length := by rw [HRC.out.2]; omega
            obtain ⟨X, hX⟩ : ∃ X, frL P = X := ⟨_, rfl⟩
            obtain ⟨Y, hY⟩ : ∃ Y, toL P = Y := ⟨_, rfl⟩
            have HXY := Lib.hid (And.intro hX hY)
            have hX3 : P[0].1 = X := by rw [← hX, frL_at l0]
            have hY3 : P[q].1 + P[q].2.1 = Y := by rw [← hY, toL_at HRC.out.2]
            obtain ⟨⟨p1, p2⟩, p3, p4⟩ := HPS.out P[q] (List.getElem_mem lq)
            obtain ⟨b', off', rfl, hb', c0, c1, -, -⟩ := celAt (H4.out.1.later a_wr) q lq
            obtain ⟨b2, off2, eb, -, d0, -, -, -⟩ := celAt (H4.out.1.later a_wr) 0 l0
            obtain ⟨rfl, rfl⟩ : b' = b2 ∧ off' = off2 := by cases eb; exact ⟨rfl, rfl⟩
            rw [Nat.zero_mul, Nat.add_zero, hX3] at d0
            obtain ⟨ca, hca⟩ : ∃ ca, P[q].1 = ca := ⟨_, rfl⟩
            obtain ⟨cn, hcn⟩ : ∃ cn, P[q].2.1 = cn := ⟨_, rfl⟩
            rw [hca] at c0 p1 p2 hY3
            rw [hcn] at c1 p3 p4 hY3
            have HY3 := Lib.hid hY3
            have e0 : (q : Int) + 1 - 1 = (q : Int) := by omega
            have hbp : b' ≠ p := by
              obtain ⟨b3, off3, eb3, hb3, -⟩ := celAt HP.out q lq
              obtain rfl : b' = b3 := by cases eb3; rfl
              have := H4.out.2.1.below.size
              omega
            clear eb hX hY hX3 hY3 hca hcn
            go_upto_region 17 with fail
            go_region
            go_upto_region 18 with fail
            rw [HY3.out]
            first | refine settle_wp (fun wS => AnyLater w4 wS ∧ wS.heap[p]? = some (.cells #[.slice (some ⟨b', off', none⟩) (q + 1) c6, .slice A7 (q + 1 + 1) c7, .int .i64 U, .int .i64 D, .int .i64 X, .int .i64 Y, .bool la] 43)) ?_ ?_ | refine settle_calls (fun wS => AnyLater w4 wS ∧ wS.heap[p]? = some (.cells #[.slice (some ⟨b', off', none⟩) (q + 1) c6, .slice A7 (q + 1 + 1) c7, .int .i64 U, .int .i64 D, .int .i64 X, .int .i64 Y, .bool la] 43)) ?_ ?_
            · refine ⟨?_, ?_⟩
              · repeat' (first | with_reducible assumption | with_reducible exact AnyLater.refl _ | with_reducible apply AnyLater.setCell | with_reducible apply AnyLater.later | with_reducible apply AnyLater.drewN | with_reducible apply AnyLater.drew | with_reducible apply AnyLater.alloc | ((try simp only [World.size_alloc, World.size_setCell, World.size_drew]); (try dsimp only); omega))
              · ((repeat (first | with_reducible assumption | ((with_reducible apply heap_new); (try simp only [World.size_alloc, World.size_setCell, World.size_drew, World.heap_drewN]); done) | ((with_reducible apply heap_new); (try simp only [World.size_alloc, World.size_setCell, World.size_drew, World.heap_drewN]); omega) | (with_reducible refine heap_old (by (try simp only [World.size_alloc, World.size_setCell, World.size_drew, World.heap_drewN]); omega) ?_) | (with_reducible refine heap_drew ?_) | (with_reducible refine heap_far (by omega) ?_) | (with_reducible apply heap_at))); all_goals rfl)
            rintro w12 ⟨b_w12, s0_w12⟩
            have a_w12 := a_w4.trans b_w12
            have r0_w12 := own_row s0_w12
            have f0_w12 := own_free s0_w12
            have l0_w12 := own_lt s0_w12
            have z_w12 := b_w12.below.size
            obtain ⟨u9, w10, q1, q2, q3, q4⟩ := HEND.out w12 X Y b_w12 HXY.out.1 HXY.out.2
            have K1 := Lib.hid q1
            have K2 := Lib.hid (And.intro q3 (And.intro q4 q2))
            clear q1 q2 q3 q4 c0 c1 d0
            go_wp2_with (at_builtin; refine Lib.wpList_append_run _ rfl _ _ _ _ rfl _ _ rfl rfl _ _ K1.out ?_)
            go_roundg (n - (j + 1))
            case measure => omega
            case rel => exact ⟨K2.out.1, K2.out.2.1, j + 1, rfl, by omega, by go_num, K2.out.2.2⟩
    · obtain rfl : j = n := by omega
      have HE : Hid (LR wo (.slice A8 j c8) ALL) := Lib.hid (by
        have := HO.out.lr HA.out
        rwa [List.take_of_length_le (by rw [HTL.out.1]; exact Nat.le_refl _)] at this)
      have HE2 := Lib.hid (H1.out.1.trans HA.out)
      clear a_wr
      go_wp2_with fail
      go_ret
      exact ⟨_, rfl, HE2.out, HE.out⟩
end Go.Proofs.YteplnejnhgmfiaaDoor
