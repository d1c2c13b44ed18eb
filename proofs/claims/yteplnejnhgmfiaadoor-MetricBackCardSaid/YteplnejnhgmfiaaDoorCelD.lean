/- cells, the program: stylesOf, slices.Grow of none, Of. -/
import Derived.Test.YteplnejnhgmfiaaDoorCelC
import Derived.Test.YteplnejnhgmfiaaDoorUtfsA
namespace Go.Proofs.YteplnejnhgmfiaaDoor
set_option linter.unusedSimpArgs false
set_option linter.unusedVariables false
set_option linter.unusedSectionVars false
open Go.RowKit

/-! ### the cells of a line, as mathematics -/
/-- the cells of the first c runes of a line whose bytes have these styles -/
def celsU (l : List Int) (sty : Nat → Int) (c : Nat) : Cels := (List.range c).map fun j => ((it l j : Int), ((decU (l.drop (it l j))).2 : Int), (decU (l.drop (it l j))).1, sty (it l j))
theorem celsU_length (l : List Int) (sty : Nat → Int) (c : Nat) : (celsU l sty c).length = c := by simp [celsU]
theorem celsU_succ (l : List Int) (sty : Nat → Int) (c : Nat) : celsU l sty (c + 1) = celsU l sty c ++ [((it l c : Int), ((decU (l.drop (it l c))).2 : Int), (decU (l.drop (it l c))).1, sty (it l c))] := by
  unfold celsU
  rw [List.range_succ, List.map_append]; rfl
theorem celsU_congr {l : List Int} {sty sty2 : Nat → Int} {c : Nat} (hc : Cnt l c) (h : ∀ p, p < l.length → sty p = sty2 p) : celsU l sty c = celsU l sty2 c := by
  unfold celsU
  apply List.map_congr_left
  intro j hj
  rw [h _ (hc.lt j (List.mem_range.1 hj))]
theorem celsU_ok {l : List Int} (hb : Bytes l) {sty : Nat → Int} (hs : ∀ p, I64s (sty p)) (hl : l.length ≤ 1000) (c : Nat) : CelsOk (celsU l sty c) := by
  intro x hx
  obtain ⟨j, _, rfl⟩ := List.mem_map.1 hx
  have h1 := it_le hb j
  have h2 := dec_len (hb.drop (it l j))
  have h3 := dec_rune (hb.drop (it l j))
  refine ⟨?_, ?_, ?_, hs _⟩
  · constructor <;> simp only <;> omega
  · constructor <;> simp only <;> omega
  · constructor <;> simp only <;> omega
/-- the style of a byte of a line that begins at f -/
def styD (rl : Runs) (f : Int) (n : Nat) : List Int := if 0 ≤ f ∧ f ≤ 16777216 then partL (sR rl) f (f + n) else []
theorem styD_length (rl : Runs) (f : Int) (n : Nat) : (styD rl f n).length ≤ n := by
  unfold styD
  split
  · unfold partL clampZ
    rw [List.length_drop, List.length_take]
    omega
  · exact Nat.zero_le _
theorem styD_good {rl : Runs} {f : Int} {n : Nat} : ∀ s ∈ styD rl f n, goodS s = true := by
  intro s hs
  unfold styD at hs
  split at hs
  · exact sR_good s (List.mem_of_mem_take (List.mem_of_mem_drop hs))
  · cases hs
theorem posR_of {l : List Int} (hg : ∀ s ∈ l, goodS s = true) (hl : l.length ≤ 1000) : PosR (ofR l) := fun r hr => by
  have h := ofR_fair hg r hr
  exact ⟨h.1, by omega, goodS_i64 h.2.2⟩
theorem getD_drop (l : List Int) (p : Nat) : (l.drop p).getD 0 0 = l.getD p 0 := by
  rw [List.getD_eq_getElem?_getD, List.getD_eq_getElem?_getD, List.getElem?_drop, Nat.add_zero]

/-! ### stylesOf, Grow -/
set_option maxRecDepth 100000 in
set_option maxHeartbeats 1600000 in
theorem cstyles_any (v : Value) (rl : Runs) (f : Int) (n : Nat) (w : World) (h : RRn w v rl) (hN : NumsR rl) (hl : rl.length ≤ 90000) (hf : I64s f) (hn : n ≤ 1000) :
    Calls Tryd.prog 46 #[v, .int .i64 f, .int .i64 (n : Int)] w fun e w' => ∃ u, e = .returned u ∧ AnyLater w w' ∧ StR w.heap.size w' u (ofR (styD rl f n)) := by
  obtain ⟨f1, f2⟩ := hf
  by_cases h1 : f < 0
  · have HE : Hid (ofR (styD rl f n) = []) := Lib.hid (by unfold styD; rw [if_neg (by omega)]; rfl)
    clear h hN
    go_enter Tryd.func46, Tryd.ntmps46
    go_wp2_with fail
    go_ret
    exact ⟨_, rfl, AnyLater.refl _, by rw [HE.out]; exact StR.nil _ _⟩
  · by_cases h2 : 16777216 < f
    · have HE : Hid (ofR (styD rl f n) = []) := Lib.hid (by unfold styD; rw [if_neg (by omega)]; rfl)
      have d1 : decide (f < 0) = false := decide_eq_false h1
      clear h hN
      go_enter Tryd.func46, Tryd.ntmps46
      go_wp2_with fail
      go_ret
      exact ⟨_, rfl, AnyLater.refl _, by rw [HE.out]; exact StR.nil _ _⟩
    · have HP := Lib.hid (ppart_any v rl (ofR (styD rl f n)) f (f + n) w (by unfold styD; rw [if_pos (by omega)]; rfl) h hN hl)
      have d1 : decide (f < 0) = false := decide_eq_false h1
      have d2 : decide (16777216 < f) = false := decide_eq_false h2
      have f3 : 0 ≤ f := by omega
      have f4 : f ≤ 16777216 := by omega
      clear h hN h1 h2
      go_enter Tryd.func46, Tryd.ntmps46
      go_wp2_with fail
      refine HP.out.mono ?_
      rintro e w1 ⟨u, rfl, b1, o1⟩
      have HO := Lib.hid (And.intro b1 (StR.of_own o1))
      clear b1 o1
      go_wp2_with fail
      go_ret
      exact ⟨_, rfl, HO.out⟩
/-- append of zeros onto nothing, cut down to none: a row of none -/
theorem czeroRow (w : World) (n : Nat) (h0 : 0 < n) (hn : n ≤ 300000) :
    ∃ g cap w2, (Builtin.append_ #[41, 3] 41 #[.slice none 0 0, .int .i64 (n : Int)]).run Tryd.prog w = .ok (.slice (some ⟨g, 0, none⟩) n cap) w2 ∧ AnyLater w w2 ∧ OF celF 63 w2 w.heap.size (.slice (some ⟨g, 0, none⟩) 0 cap) [] := by
  obtain ⟨i0, hi0, hz0, hz1, hz2⟩ := info_parts celFT.info
  have hcap := grownCap_ge w n 0 63
  have hcap2 := grownCap_le_maxLen w n 0 63 (by unfold maxLen; omega)
  refine ⟨_, _, _, Lib.run_append_nil_zeros (P := Tryd.prog) w 41 3 41 63 i0 (.agg #[.int .i64 0, .int .i64 0, .int .i32 0, .int .i64 0]) .i64 .i64 Tryd.underlying41 (by kernel_rfl) hi0 hz0 n h0 (by rw [hz1]; decide) (by omega) (by rw [hz2]; omega), ?_, rfl, .inr ⟨w.heap.size, _, _, rfl, Nat.le_refl _, heap_new rfl, Nat.zero_le _, hcap2, ?_, by simp [Flat.row]⟩⟩
  · exact (((AnyLater.refl w).drewN 1).alloc _)
  · rw [Array.size_append, size_zeroCells, size_zeroCells]
    show n * 4 + (grownCap w n 0 63 - n) * 4 = _ * 4
    omega
set_option maxRecDepth 100000 in
theorem cgrow_none (N : Nat) (w : World) (hn : N ≤ 1000) : Calls Tryd.prog 47 #[.slice none 0 0, .int .i64 (N : Int)] w fun e w' => ∃ u, e = .returned u ∧ AnyLater w w' ∧ OF celF 63 w' w.heap.size u [] := by
  rcases Nat.eq_zero_or_pos N with rfl | hpos
  · go_enter Tryd.func47, Tryd.ntmps47
    go_wp2_with fail
    go_ret
    exact ⟨_, rfl, AnyLater.refl _, OF.nil _ _ _⟩
  · obtain ⟨g, cap, w2, k1, k2, k3⟩ := czeroRow w N hpos (by omega)
    have K1 := Lib.hid k1
    have HB := Lib.hid (And.intro k2 k3)
    clear k1 k2 k3
    go_enter Tryd.func47, Tryd.ntmps47
    go_wp2_with (at_builtin; refine Lib.wpList_append_run _ rfl _ _ _ _ rfl _ _ rfl rfl _ _ K1.out ?_)
    go_ret
    exact ⟨_, rfl, HB.out⟩

/-! ### Of -/
set_option maxRecDepth 100000 in
set_option maxHeartbeats 1600000 in
theorem cof_any (v vr : Value) (l : List Int) (rl : Runs) (f : Int) (c : Nat) (w : World) (hv : RU8 w v l) (hb : Bytes l) (hl : l.length ≤ 200) (hg : GlobU w) (hc : Cnt l c) (hr : RRn w vr rl) (hN : NumsR rl) (hrl : rl.length ≤ 90000) (hf : I64s f) :
    Calls Tryd.prog 27 #[v, vr, .int .i64 f] w fun e w' => ∃ u, e = .returned u ∧ AnyLater w w' ∧ OF celF 63 w' w.heap.size u (celsU l (fun p => (styD rl f l.length).getD p 0) c) := by
  have HV := Lib.hid hv
  obtain ⟨A, cap, rfl, hcap⟩ := hv.form
  have hD1 := styD_length rl f l.length
  have HDG : Hid (∀ s ∈ styD rl f l.length, goodS s = true) := Lib.hid styD_good
  have HST := Lib.hid (cstyles_any vr rl f l.length w hr hN hrl hf (by omega))
  obtain ⟨D, hD⟩ : ∃ D, styD rl f l.length = D := ⟨_, rfl⟩
  rw [hD] at hD1 HDG HST ⊢
  obtain ⟨A2, cap2, rfl, -, -⟩ := hr
  obtain ⟨nr, hnr⟩ : ∃ nr, rl.length = nr := ⟨_, rfl⟩
  rw [hnr] at HST ⊢
  have HB := Lib.hid hb
  have HG := Lib.hid hg
  have HC := Lib.hid hc
  have hcl := hc.le hb
  have HLE := Lib.hid (fun j => it_le hb j)
  have HCT := Lib.hid (fun w1 (a : AnyLater w w1) => ucount_any (.slice A l.length cap) l c w1 (HV.out.later a) hb (by omega) (hg.later a) hc)
  have HGR := Lib.hid (fun w => cgrow_none c w (by omega))
  have hDl : D.length ≤ 200 := by omega
  have HDL := Lib.hid (Nat.le_trans (ofR_length D) hDl)
  have HP0 := Lib.hid (posR_of HDG.out (by omega))
  obtain ⟨L, hL⟩ : ∃ L, l.length = L := ⟨_, rfl⟩
  have HLL := Lib.hid hL
  rw [hL] at hl hcap hcl HLE HV HST HCT hD1 ⊢
  obtain ⟨sty, hsty⟩ : ∃ sty : Nat → Int, (fun p => D.getD p 0) = sty := ⟨_, rfl⟩
  have HSTY : Hid (∀ p, D.getD p 0 = sty p) := Lib.hid (fun p => by rw [← hsty])
  rw [hsty]
  obtain ⟨f1, f2⟩ := hf
  clear hv hL hb hg hc hD hN hrl hsty hnr hDl
  go_enter Tryd.func27, Tryd.ntmps27
  go_wp2_with fail
  refine HST.out.mono ?_
  rintro e w1 ⟨sv, rfl, b1, s1⟩
  have H1 := Lib.hid (And.intro b1 s1)
  clear b1 s1
  go_wp2_with fail
  refine (HCT.out _ H1.out.1).mono ?_
  rintro e w2 ⟨rfl, b2⟩
  have H2 := Lib.hid (And.intro (H1.out.1.trans b2) (H1.out.2.later b2))
  clear b2
  go_wp2_with fail
  refine (HGR.out _).mono ?_
  rintro e w3 ⟨ov, rfl, b3, o3⟩
  have H3 := Lib.hid (And.intro (H2.out.1.trans b3) (And.intro (H2.out.2.later b3) (o3.wide H2.out.1.below.size)))
  clear b3 o3
  go_wp2_with fail
  go_loopg [7, 8, 9] c (fun kk sv ov av wr => AnyLater w wr ∧ ∃ j : Nat, kk = c - j ∧ j ≤ c ∧ av = .int .i64 (it l j) ∧ OF celF 63 wr w.heap.size ov (celsU l sty j) ∧ ∃ Q : Runs, StR w.heap.size wr sv Q ∧ PosR Q ∧ Q.length ≤ 200 ∧ expR Q = D.drop (it l j))
  case atStart => exact ⟨H3.out.1, 0, by omega, by omega, rfl, H3.out.2.2, ofR D, H3.out.2.1, HP0.out, HDL.out, by rw [expR_of]; rfl⟩
  case round =>
    obtain ⟨a_wr, j, hk, hj, rfl, ho, Q, hs, hp, hQ, hE⟩ := hrel
    have HA := Lib.hid a_wr
    have HO := Lib.hid ho
    have HS := Lib.hid hs
    have HP := Lib.hid hp
    have HE := Lib.hid hE
    have hpl := HLE.out j
    obtain ⟨A3, c3, rfl, h3⟩ := ho.form
    obtain ⟨A4, c4, rfl, h4⟩ := hs.form
    rw [celsU_length] at HO h3 ⊢
    obtain ⟨p, hp2⟩ : ∃ p, it l j = p := ⟨_, rfl⟩
    have HPP := Lib.hid hp2
    rw [hp2] at hpl HE ⊢
    clear ho hs hp hE
    by_cases hlt : p < L
    · have hjc : j < c := (HC.out.end_iff hj).1 (by rw [HLL.out, hp2]; exact hlt)
      obtain ⟨r, k, hdec⟩ : ∃ r k, decU (l.drop p) = (r, k) := ⟨_, _, rfl⟩
      obtain ⟨u, hu, hcut⟩ := HV.out.cut p (by rw [HLL.out]; omega)
      have hrk := dec_rune (HB.out.drop p)
      have hlk := dec_len (HB.out.drop p)
      rw [hdec, List.length_drop, HLL.out] at hlk
      rw [hdec] at hrk
      have hk4 := hlk.2.2
      have hk1 := hlk.1
      have HIT : Hid (it l (j + 1) = p + k) := Lib.hid (by rw [it_succ, hp2, hdec])
      have HD : Hid (Calls Tryd.prog 49 #[u] wr fun e w'' => e = .returned (.tuple #[.int .i32 r, .int .i64 (k : Int)]) ∧ AnyLater wr w'') := Lib.hid (dec_any u (l.drop p) wr r k hdec (hu.later a_wr) (HB.out.drop p) (by rw [List.length_drop, HLL.out]; omega) (HG.out.later a_wr))
      have HCS : Hid (celsU l sty (j + 1) = celsU l sty j ++ [((p : Int), (k : Int), r, sty p)]) := Lib.hid (by rw [celsU_succ, hp2, hdec])
      have HFI : Hid ((Q.head?.map (·.2)).getD 0 = sty p) := Lib.hid (by rw [← first_exp HP.out, HE.out, getD_drop, HSTY.out])
      have HEX : Hid (expR (behR Q k) = D.drop (it l (j + 1))) := Lib.hid (by rw [behR_exp HP.out, HE.out, List.drop_drop, HIT.out])
      have HQP : Hid (PosR (behR Q k)) := Lib.hid (behR_pos HP.out)
      have HQL : Hid ((behR Q k).length ≤ 200) := Lib.hid (Nat.le_trans behR_len hQ)
      obtain ⟨y, hy⟩ : ∃ y, sty p = y := ⟨_, rfl⟩
      rw [hy] at HCS HFI
      simp only at hk4 hk1 hrk
      clear hu hdec hlk a_wr hp2 hy
      go_wp2_with fail
      refine HD.out.mono ?_
      rintro e w4 ⟨rfl, b4⟩
      have H4 := Lib.hid (And.intro (HA.out.trans b4) (And.intro (OF.later b4 HO.out) (HS.out.later b4)))
      clear b4
      go_wp2_with fail
      refine (cfirst_any _ Q _ _ y HFI.out H4.out.2.2).mono ?_
      rintro e w5 ⟨rfl, rfl⟩
      obtain ⟨u2, w6, k1, k2, k3, k4⟩ := appF1 celFT ((p : Int), (k : Int), r, y) (cs := #[.int .i64 (p : Int), .int .i64 (k : Int), .int .i32 r, .int .i64 y]) rfl H4.out.2.1 H4.out.1.below.size (by rw [celsU_length]; omega)
      have K1 := Lib.hid k1
      have K3 := Lib.hid (k3 w (Nat.le_refl _) H4.out.1)
      have K2 : Hid (OF celF 63 w6 w.heap.size u2 (celsU l sty (j + 1))) := Lib.hid (by rw [HCS.out]; exact k2)
      have HS6 : Hid (StR w.heap.size w6 (.slice A4 Q.length c4) Q) := Lib.hid (H4.out.2.2.grown H4.out.2.1 k4)
      clear k1 k2 k3 k4
      go_wp2_with (at_builtin; refine Lib.wpList_append_run _ rfl _ _ _ _ rfl _ _ rfl rfl _ _ K1.out ?_)
      refine (cbehind_any _ Q k _ _ HS6.out HP.out (by omega) (by omega)).mono ?_
      rintro e w7 ⟨u3, rfl, s7, t7⟩
      have H7 := Lib.hid (And.intro (t7.any (Nat.le_refl _) K3.out) (And.intro (t7.cels K2.out) s7))
      clear s7 t7
      go_wp2_with fail
      go_roundg (c - (j + 1))
      case measure => omega
      case rel => exact ⟨H7.out.1, j + 1, rfl, by omega, by rw [HIT.out, Int.natCast_add], H7.out.2.1, behR Q k, H7.out.2.2, HQP.out, HQL.out, HEX.out⟩
    · have hjc : j = c := by
        rcases Nat.lt_or_ge j c with h | h
        · have := HC.out.lt j h; rw [HPP.out, HLL.out] at this; omega
        · omega
      subst hjc
      obtain rfl : p = L := by omega
      clear a_wr hp2
      go_wp2_with fail
      go_ret
      exact ⟨_, rfl, HA.out, HO.out⟩
end Go.Proofs.YteplnejnhgmfiaaDoor
