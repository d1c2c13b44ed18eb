/- metric: MetricBack. -/
import Derived.Test.YteplnejnhgmfiaaDoorMetR
import Derived.Test.YteplnejnhgmfiaaDoorMetV
import Derived.Test.YteplnejnhgmfiaaDoorMetK
namespace Go.Proofs.YteplnejnhgmfiaaDoor
set_option linter.unusedSimpArgs false
set_option linter.unusedVariables false
set_option linter.unusedSectionVars false
open Go.RowKit

theorem xsC_in : ∀ (P : Cels) (x y : Int), y ∈ xsC x P → x ≤ y ∧ y ≤ x + 48 * P.length
  | [], x, y, h => by
    rw [show xsC x [] = [x] from rfl, List.mem_singleton] at h
    simp; omega
  | c :: P, x, y, h => by
    have h2 := widR_in c.2.2.1 c.2.2.2 x
    rw [show xsC x (c :: P) = x :: xsC (x + widC c x) P from rfl, List.mem_cons] at h
    rw [List.length_cons]
    rcases h with rfl | h
    · omega
    · have := xsC_in P _ y h
      unfold widC at *
      omega
theorem layL_ok {P : Cels} {la : Bool} (h1 : CelsOk P) (h2 : SmallC P) (hl : P.length ≤ 1000) : LdOk (layL P la) := by
  have hu := upL_in P
  have hd := dnL_in P
  refine ⟨⟨?_, ?_, ?_, ?_⟩, h1, fun x hx => ?_⟩
  · show I64s (upL P)
    constructor <;> omega
  · show I64s (dnL P)
    constructor <;> omega
  · show I64s (frL P)
    rcases Nat.eq_zero_or_pos P.length with q | q
    · rw [List.eq_nil_of_length_eq_zero q]; constructor <;> decide
    · rw [frL_at q]
      have := h2 _ (List.getElem_mem q)
      constructor <;> omega
  · show I64s (toL P)
    rcases Nat.eq_zero_or_pos P.length with q | q
    · rw [List.eq_nil_of_length_eq_zero q]; constructor <;> decide
    · obtain ⟨k, hk⟩ : ∃ k, P.length = k + 1 := ⟨P.length - 1, by omega⟩
      rw [toL_at hk]
      have := h2 (P[k]'(by omega)) (List.getElem_mem _)
      constructor <;> omega
  · have := xsC_in P 0 x hx
    constructor <;> omega
theorem linesL_ok {C : Cels} {x : Int} (h1 : CelsOk C) (h2 : SmallC C) (hl : C.length ≤ 1000) : LdsOk (linesL C x) := by
  intro r hr
  obtain ⟨j, -, rfl⟩ := List.mem_map.1 hr
  have : (rowCels C ((rowsW C x).getD j (0, 0, 0))).length ≤ C.length := by
    unfold rowCels
    rw [List.length_drop, List.length_take]
    omega
  exact layL_ok (h1.part _ _) (h2.part _ _) (by omega)
/-- each place is found where it is -/
def Back (L : List Ld) : Prop := ∀ (i : Nat) (hi : i < L.length) (k : Nat), k < (placesL L[i]).length → k < L[i].xs.length ∧ atL ((placesL L[i]).getD k 0) L = ((i : Int), L[i].xs.getD k 0, true) ∧ nearL L[i] (L[i].xs.getD k 0) = (placesL L[i]).getD k 0
/-- of a line of bytes, each place is found where it is -/
theorem celsU_back {l : List Int} (hb : Bytes l) (hl : l.length ≤ 1000) {sty : Nat → Int} {c : Nat} (hc : Cnt l c) (x : Int) :
    Back (linesL (celsU l sty c) x) ∧ ∃ k y, atL (l.length : Int) (linesL (celsU l sty c) x) = (k, y, true) := by
  have hcl := hc.le hb
  have hlen := celsU_length l sty c
  have hat : ∀ (j : Nat) (hj : j < (celsU l sty c).length), (celsU l sty c)[j].1 = (it l j : Int) ∧ (celsU l sty c)[j].2.1 = ((decU (l.drop (it l j))).2 : Int) := by
    intro j hj
    have h : (celsU l sty c)[j]? = some ((it l j : Int), ((decU (l.drop (it l j))).2 : Int), (decU (l.drop (it l j))).1, sty (it l j)) := by
      unfold celsU
      rw [List.getElem?_map, List.getElem?_range (by omega)]; rfl
    rw [List.getElem?_eq_getElem hj, Option.some.injEq] at h
    rw [h]
    exact ⟨rfl, rfl⟩
  refine lines_back x (fun i j hi hj hij => ?_) (fun j hj => ?_) (fun j hj he => ?_) (fun h => ?_) (by omega)
  · rw [(hat i hi).1, (hat j hj).1]
    have h1 := (it_step hb (hc.lt i (by omega))).1
    have h2 := it_mono (l := l) (show i + 1 ≤ j by omega)
    omega
  · rw [(hat j hj).1]
    have := hc.lt j (by omega)
    omega
  · rw [(hat j hj).1, (hat j hj).2]
    have h1 := it_succ l j
    have h2 := hc.fin
    rw [show c = j + 1 by omega, h1] at h2
    omega
  · have h2 := hc.fin
    rw [show c = 0 by omega] at h2
    have : it l 0 = 0 := rfl
    omega
set_option maxRecDepth 100000 in
set_option maxHeartbeats 3200000 in
theorem metricBack_any (w : World) (v0 v1 : Value) (z0 : List Int) (z1 : Runs) (y : Int) (hb : RU8 w v0 z0) (hby : Bytes z0) (hv : RRn w v1 z1) (hN : NumsR z1) (hy : I64s y) (hg : GlobU w) :
    Calls Tryd.prog 6 #[v0, v1, .int .i64 y] w fun e w' => e = .returned (.bool true) ∧ AnyLater w w' := by
  have HF8 := Lib.hid (few8_any v0 z0 40 w hb (by omega))
  have HF0 := Lib.hid (fun w1 (a : AnyLater w w1) => cruns_any v1 z1 w1 (hv.later a))
  obtain ⟨l, hl⟩ : ∃ l, z0.take 40 = l := ⟨_, rfl⟩
  obtain ⟨m, hm⟩ : ∃ m, z1.take 40 = m := ⟨_, rfl⟩
  rw [hl] at HF8
  rw [hm] at HF0
  have hll : l.length ≤ 40 := by rw [← hl, List.length_take]; omega
  have hlb : Bytes l := by rw [← hl]; exact hby.take 40
  have hml : m.length ≤ 40 := by rw [← hm, List.length_take]; omega
  have hmN : NumsR m := by rw [← hm]; exact hN.take 40
  have HF : Hid (∀ w u, RRn w u m → Calls Tryd.prog 8 #[u] w fun e w' => ∃ v, e = .returned v ∧ AnyLater w w' ∧ RRn w' v m) := Lib.hid (fun w u h => by
    have := cruns_any u m w h
    rw [List.take_of_length_le hml] at this
    exact this.mono fun _ _ ⟨x, q1, q2, q3⟩ => ⟨x, q1, q2, q3.reads⟩)
  obtain ⟨sm, hsm⟩ : ∃ sm, smallR m = sm := ⟨_, rfl⟩
  have HSm := Lib.hid (fun w u (h : RRn w u m) => small_any u m w sm hsm h hmN (by omega))
  have HLv := Lib.hid (fun w1 (a : AnyLater w w1) => mlives_any w1 (hg.later a))
  obtain ⟨c, hc, hcl⟩ := cnt_ex hlb
  have hBK := celsU_back (sty := fun p => (styD m 0 l.length).getD p 0) hlb (by omega) hc y
  have hok := linesL_ok (x := y) (celsU_ok (sty := fun p => (styD m 0 l.length).getD p 0) hlb (styD_i64 m 0 l.length) (by omega) c) (celsU_small hlb (by omega) c) (by rw [celsU_length]; omega)
  have hfw := linesL_few (celsU l (fun p => (styD m 0 l.length).getD p 0) c) y
  rw [celsU_length] at hfw
  have HLi := Lib.hid (fun w1 u v (a : AnyLater w w1) (hu : RU8 w1 u l) (hv : RRn w1 v m) => mline_any u v l m 0 y c w1 hu hlb (by omega) (hg.later a) hc hv hmN (by omega) (by constructor <;> omega) hy)
  obtain ⟨LL, hLL⟩ : ∃ LL, linesL (celsU l (fun p => (styD m 0 l.length).getD p 0) c) y = LL := ⟨_, rfl⟩
  rw [hLL] at hBK hok hfw HLi
  obtain ⟨hB1, ke, ye, hB2⟩ := hBK
  have HB := Lib.hid hB1
  have HOK := Lib.hid hok
  have HFW := Lib.hid (show ∀ r ∈ LL, r.cs.length ≤ 40 ∧ r.xs.length ≤ 41 from fun r hr => by have := hfw.2 r hr; omega)
  obtain ⟨n, hn⟩ : ∃ n, LL.length = n := ⟨_, rfl⟩
  have HNN := Lib.hid hn
  have hn2 : n ≤ 41 := by have := hfw.1; omega
  have HAT := Lib.hid (fun w v p k x (h : LR w v LL) (hp : I64s p) (hr : atL p LL = (k, x, true)) => mat_any v LL p w k x true hr h (by omega) (fun r hr => by have := hfw.2 r hr; omega) hp)
  obtain ⟨A0, p0, rfl, -⟩ := hb.form
  obtain ⟨A1, p1, rfl, -, -⟩ := hv
  generalize z0.length = n0 at *
  generalize z1.length = n9 at *
  obtain ⟨N, hN2⟩ : ∃ N, l.length = N := ⟨_, rfl⟩
  have HL := Lib.hid hN2
  rw [hN2] at hB2
  have HE := Lib.hid hB2
  have HLL : Hid (l.length ≤ 40) := Lib.hid hll
  have hNN : N ≤ 40 := by omega
  obtain ⟨y1, y2⟩ := hy
  clear hb hby hN hg hl hm hll hlb hml hmN hc hcl hsm hN2 hLL hfw hB1 hB2 hok hn
  go_enter Tryd.func6, Tryd.ntmps6
  go_wp2_with fail
  refine HF8.out.mono ?_
  rintro e w1 ⟨u1, rfl, b1, o1⟩
  have H1 := Lib.hid (And.intro b1 o1.rn)
  obtain ⟨A2, p2, rfl, -⟩ := o1.form
  rw [HL.out] at H1 ⊢
  clear b1 o1
  go_wp2_with fail
  refine (HF0.out _ H1.out.1).mono ?_
  rintro e w2 ⟨u2, rfl, b2, o2⟩
  have H2 := Lib.hid (And.intro (H1.out.1.trans b2) (And.intro (H1.out.2.later b2) o2.reads))
  clear b2 o2 H1
  go_wp2_with fail
  refine (HSm.out _ _ H2.out.2.2).mono ?_
  rintro e w3 ⟨rfl, b3⟩
  have H3 := Lib.hid (And.intro (H2.out.1.trans b3) (And.intro (H2.out.2.1.later b3) (H2.out.2.2.later b3)))
  clear b3 H2
  cases sm with
  | false =>
    go_wp2_with fail
    refine (HLv.out _ H3.out.1).mono ?_
    rintro e w4 ⟨rfl, b4⟩
    have H4 := Lib.hid (H3.out.1.trans b4)
    clear b4
    go_wp2_with fail
    go_ret
    exact ⟨rfl, H4.out⟩
  | true =>
    obtain ⟨u4, w4, k1, k2, k3⟩ := copy8 H3.out.2.1 (by have := HLL.out; omega)
    have K1 := Lib.hid k1
    have H4 := Lib.hid (And.intro (H3.out.1.trans k2) (And.intro (H3.out.2.2.later k2) k3.rn))
    clear k1 k2 k3 H3
    go_wp2_with (at_builtin; refine Lib.wpList_append_run _ rfl _ _ _ _ rfl _ _ rfl rfl _ _ K1.out ?_)
    refine (HF.out _ _ H4.out.2.1).mono ?_
    rintro e w5 ⟨u5, rfl, b5, o5⟩
    have H5 := Lib.hid (And.intro (H4.out.1.trans b5) (And.intro (H4.out.2.2.later b5) o5))
    clear b5 o5 H4
    go_wp2_with fail
    refine (HLi.out _ _ _ H5.out.1 H5.out.2.1 H5.out.2.2).mono ?_
    rintro e w6 ⟨u6, rfl, b6, o6⟩
    obtain ⟨A6, c6, rfl, hc6⟩ := o6.form
    have H6 := Lib.hid (And.intro (H5.out.1.trans b6) o6.lr)
    have hln : LL.length = n := HNN.out
    rw [hln] at H6 hc6 ⊢
    clear b6 o6 hln H5
    go_wp2_with fail
    go_loopg [8] n (fun k i wr => AnyLater w wr ∧ LR wr (.slice A6 n c6) LL ∧ ∃ i0 : Nat, k = n - i0 ∧ i0 ≤ n ∧ i = .int .i64 i0)
    case atStart => exact ⟨H6.out.1, H6.out.2, 0, by omega, by omega, rfl⟩
    case round =>
      obtain ⟨a_wr, hlr, i, hk, hi, rfl⟩ := hrel
      generalize wr = wo at *
      have HA := Lib.hid (And.intro a_wr hlr)
      clear a_wr hlr
      by_cases hlt : i < n
      · have li : i < LL.length := by rw [HNN.out]; exact hlt
        have i1 : (i : Int) < (n : Int) := by omega
        obtain ⟨b, off, a1, k1, a2, k2, eA, hb, hx, d0, d1, d2, d3, d4, d5, d6⟩ := ldAt HA.out.2 i li
        have hrok := HOK.out LL[i] (List.getElem_mem li)
        have hrf := HFW.out LL[i] (List.getElem_mem li)
        have hbk := HB.out i li
        obtain ⟨r, hr⟩ : ∃ r, LL[i] = r := ⟨_, rfl⟩
        rw [hr] at hx d0 d1 d2 d3 d4 d5 d6 hrok hrf hbk
        have HBR := Lib.hid hbk
        have HPL := Lib.hid (fun w1 (a : AnyLater wo w1) => xplaces_any a1 a2 k1 k2 r w1 (hx.1.later a) (hx.2.later a) (by omega) (by omega))
        have HNR := Lib.hid (fun w1 (a : AnyLater wo w1) x p (hxx : I64s x) (hp : nearL r x = p) => mnear_any a1 a2 k1 k2 r x w1 p hp (hx.1.later a) (hx.2.later a) hrok (by omega) (by omega) hxx)
        have HP8 := Lib.hid (fun k => getD_ok (placesL_ok hrok) k)
        have HX8 := Lib.hid (fun k => getD_ok hrok.2.2 k)
        have hPn : (placesL r).length ≤ 41 := by have := (placesL_len r).1; omega
        obtain ⟨PL, hPL⟩ : ∃ PL, placesL r = PL := ⟨_, rfl⟩
        obtain ⟨XS, hXS⟩ : ∃ XS, r.xs = XS := ⟨_, rfl⟩
        have hm2 : ∃ n2, XS.length = n2 := ⟨_, rfl⟩
        rw [hPL] at HBR HPL HP8 hPn
        rw [hXS] at HBR HPL HX8 HNR d1
        obtain ⟨np, hnp⟩ : ∃ np, PL.length = np := ⟨_, rfl⟩
        have HNP := Lib.hid hnp
        rw [hnp] at HBR HPL hPn
        obtain ⟨n1, hn1⟩ : ∃ n1, r.cs.length = n1 := ⟨_, rfl⟩
        obtain ⟨n2, hn2⟩ := hm2
        rw [hn1] at d0 HPL HNR
        rw [hn2] at d1 HPL HNR
        generalize r.up = up at *
        generalize r.dn = dn at *
        generalize r.fr = fr at *
        generalize r.en = en at *
        generalize r.la = la at *
        clear hx hr hrok hrf hbk hPL hXS hnp hn1 hn2
        subst eA
        go_wp2_with fail
        refine (HPL.out _ (AnyLater.refl wo)).mono ?_
        rintro e w7 ⟨B1, B2, m1, m2, rfl, b7, q1, q2⟩
        have H7 := Lib.hid (And.intro b7 (And.intro q1 q2))
        clear q1 q2
        have e0 := (b7.below.cell hb).trans d0
        have e1 := (b7.below.cell hb).trans d1
        have e2 := (b7.below.cell hb).trans d2
        have e3 := (b7.below.cell hb).trans d3
        have e4 := (b7.below.cell hb).trans d4
        have e5 := (b7.below.cell hb).trans d5
        have e6 := (b7.below.cell hb).trans d6
        have HC7 := Lib.hid (And.intro e0 (And.intro e1 (And.intro e2 (And.intro e3 (And.intro e4 (And.intro e5 e6))))))
        have hb7 : b < w7.heap.size := by have := b7.below.size; omega
        clear d0 d1 d2 d3 d4 d5 d6 e0 e1 e2 e3 e4 e5 e6 b7 hb
        go_wp2_with fail
        have hA7 := HA.out.1.trans H7.out.1
        go_loopg [11] np (fun kk kv ws => AnyLater w7 ws ∧ ∃ k : Nat, kk = np - k ∧ k ≤ np ∧ kv = .int .i64 k)
        case atStart => exact ⟨AnyLater.refl _, 0, by omega, by omega, rfl⟩
        case round =>
          obtain ⟨a_wr, k, hkk, hkn, rfl⟩ := hrel
          have HAR := Lib.hid (And.intro a_wr (H7.out.1.trans a_wr))
          by_cases hlt2 : k < np
          · have lk : k < PL.length := by rw [HNP.out]; exact hlt2
            have i2 : (k : Int) < (np : Int) := by omega
            obtain ⟨hk1, hk2, hk3⟩ := HBR.out k hlt2
            have hp8 := HP8.out k
            have hx8 := HX8.out k
            have lk2 : k < (XS.take np).length := by rw [List.length_take]; omega
            obtain ⟨b1, o1, eB, hb1, g0⟩ := numAt (H7.out.2.1.later a_wr) k lk
            obtain ⟨b2, o2, eC, hb2, g1⟩ := numAt (H7.out.2.2.later a_wr) k lk2
            rw [List.getElem_take, ← getD_at hk1] at g1
            rw [← getD_at lk] at g0
            obtain ⟨p, hp⟩ : ∃ p, PL.getD k 0 = p := ⟨_, rfl⟩
            obtain ⟨X, hX⟩ : ∃ X, XS.getD k 0 = X := ⟨_, rfl⟩
            rw [hp] at hk2 hk3 hp8 g0
            rw [hX] at hk2 hk3 hx8 g1
            have HAT2 := Lib.hid (fun w v h => HAT.out w v p (i : Int) X h hp8 hk2)
            have HNR2 := Lib.hid (fun w1 (a : AnyLater wo w1) => HNR.out w1 a X p hx8 hk3)
            have c0 := (a_wr.below.cell hb7).trans HC7.out.1
            have c1 := (a_wr.below.cell hb7).trans HC7.out.2.1
            have c2 := (a_wr.below.cell hb7).trans HC7.out.2.2.1
            have c3 := (a_wr.below.cell hb7).trans HC7.out.2.2.2.1
            have c4 := (a_wr.below.cell hb7).trans HC7.out.2.2.2.2.1
            have c5 := (a_wr.below.cell hb7).trans HC7.out.2.2.2.2.2.1
            have c6' := (a_wr.below.cell hb7).trans HC7.out.2.2.2.2.2.2
            have hbr : b < wr.heap.size := by have := a_wr.below.size; omega
            have HCC := Lib.hid (And.intro g0 (And.intro g1 (And.intro c0 (And.intro c1 (And.intro c2 (And.intro c3 (And.intro c4 (And.intro c5 c6'))))))))
            clear hp hX hk1 hk2 hk3 hp8 hx8 lk2 lk g1 c0 c1 c2 c3 c4 c5 c6'
            subst eB
            subst eC
            go_wp2_with fail
            refine (HAT2.out _ _ (HA.out.2.later HAR.out.2)).mono ?_
            rintro e w8 ⟨rfl, b8⟩
            have g1 := (b8.below.cell hb2).trans HCC.out.2.1
            have g2 := (b8.below.cell hb1).trans HCC.out.1
            have c0 := (b8.below.cell hbr).trans HCC.out.2.2.1
            have c1 := (b8.below.cell hbr).trans HCC.out.2.2.2.1
            have c2 := (b8.below.cell hbr).trans HCC.out.2.2.2.2.1
            have c3 := (b8.below.cell hbr).trans HCC.out.2.2.2.2.2.1
            have c4 := (b8.below.cell hbr).trans HCC.out.2.2.2.2.2.2.1
            have c5 := (b8.below.cell hbr).trans HCC.out.2.2.2.2.2.2.2.1
            have c6' := (b8.below.cell hbr).trans HCC.out.2.2.2.2.2.2.2.2
            have a_w8 := a_wr.trans b8
            have HA8 := Lib.hid (H7.out.1.trans a_w8)
            clear g0 HCC HAT2
            go_wp2_with fail
            apply wp_region_free (28) [⟨21, 84, .int .i64 p, false, fun v _ => v = .int .i64 p⟩] [] rfl (by kernel_rfl) (by kernel_rfl) (by kernel_rfl) (by simp) (by kernel_rfl)
            case hstab =>
              intro c hc
              simp only [List.mem_cons, List.not_mem_nil, or_false] at hc
              rcases hc with rfl
              · intro v x y hxy hv; exact hv
            case hfix =>
              intro c hc
              simp only [List.mem_cons, List.not_mem_nil, or_false] at hc
              rcases hc with rfl
              · exact .inr fun u x h => h
            case hlex =>
              intro U hU
              have q_g1 := cell_on hU g1
              have q_g2 := cell_on hU g2
              have q_c0 := cell_on hU c0
              have q_c1 := cell_on hU c1
              have q_c2 := cell_on hU c2
              have q_c3 := cell_on hU c3
              have q_c4 := cell_on hU c4
              have q_c5 := cell_on hU c5
              have q_c6' := cell_on hU c6'
              simp only [List.map_cons, List.map_nil, CA.act, actFrom, actOp, List.lookup, Nat.reduceBEq, Nat.reduceLeDiff, Nat.reduceAdd, if_false, if_true]
              repeat (go_big_quiet_step (first | fail))
              exact wpQuiet_nil rfl
            case hstep =>
              intro j hj o ho
              have hj2 : j = 0 := by simp at hj; omega
              rcases hj2 with rfl
              · cases ho
                refine ⟨rfl, fun g x hx hp => ?_⟩
                clear hp
                simp only [fillAll, Act.put, List.setIfInBounds_toArray, List.set_cons_zero, List.set_cons_succ]
                refine chain_go ?_ (free_fix (HNR2.out x (HA8.out.trans hx)))
                first | (simp [go_sem, execOp]; done) | simp [go_sem, execOp, hcf]
            case htail =>
              intro g u hst hne
              have b_w9 : AnyLater w8 (later u) := ⟨u, rfl⟩
              generalize later u = w9 at *
              clear u
              clear hst hne
              simp only [fillAll, Act.put, List.setIfInBounds_toArray, List.set_cons_zero, List.set_cons_succ, List.drop_succ_cons, List.drop_zero, List.drop_nil]
              have z_w9 := b_w9.below.size
              have a_w9 := a_w8.trans b_w9
              have g1_w9 := cell_on b_w9 g1
              have g2_w9 := cell_on b_w9 g2
              have c0_w9 := cell_on b_w9 c0
              have c1_w9 := cell_on b_w9 c1
              have c2_w9 := cell_on b_w9 c2
              have c3_w9 := cell_on b_w9 c3
              have c4_w9 := cell_on b_w9 c4
              have c5_w9 := cell_on b_w9 c5
              have c6'_w9 := cell_on b_w9 c6'
              clear g1 g2 c0 c1 c2 c3 c4 c5 c6'
              go_wp2_with fail
              go_roundg (np - (k + 1))
              case measure => omega
              case rel => exact ⟨a_w9, k + 1, rfl, by omega, by go_num⟩
          · obtain rfl : k = np := by omega
            clear a_wr
            have HF9 := Lib.hid (And.intro (HA.out.1.trans HAR.out.2) (HA.out.2.later HAR.out.2))
            go_wp2_with fail
            go_roundg (n - (i + 1))
            case measure => omega
            case rel => exact ⟨HF9.out.1, HF9.out.2, i + 1, rfl, by omega, by go_num⟩
      · obtain rfl : i = n := by omega
        go_wp2_with fail
        refine (HAT.out _ _ _ _ _ HA.out.2 (by constructor <;> omega) HE.out).mono ?_
        rintro e w9 ⟨rfl, b9⟩
        have H9 := Lib.hid (HA.out.1.trans b9)
        clear b9
        go_wp2_with fail
        refine (HLv.out _ H9.out).mono ?_
        rintro e w10 ⟨rfl, b10⟩
        have H10 := Lib.hid (H9.out.trans b10)
        clear b10
        go_wp2_with fail
        go_ret
        exact ⟨rfl, H10.out⟩
end Go.Proofs.YteplnejnhgmfiaaDoor
