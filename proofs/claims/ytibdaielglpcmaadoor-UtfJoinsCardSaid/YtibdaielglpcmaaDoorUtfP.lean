/- utf: UtfJoins, walked. -/
import Derived.Test.YtibdaielglpcmaaDoorUtfL
namespace Go.Proofs.YtibdaielglpcmaaDoor
set_option linter.unusedSimpArgs false
set_option linter.unusedVariables false
set_option linter.unusedSectionVars false
open Go.RowKit

/-! ### two texts, one behind the other -/
theorem dec_more {d b : List Int} (hb : Bytes d) (hd : d ≠ []) (h : badU d = false) : decU (d ++ b) = decU d := by
  rcases dec_cases d hb with ⟨e, _⟩ | ⟨r, rest, hg, e, hdec⟩ | ⟨_, hdec⟩
  · exact absurd e hd
  · rw [hdec, e, List.append_assoc, dec_enc hg]
  · exfalso
    unfold badU at h
    rw [hdec] at h
    revert h
    decide
theorem jdrop_ne {m : List Int} {p : Nat} (h : p < m.length) : m.drop p ≠ [] := by
  intro e
  have := congrArg List.length e
  rw [List.length_drop] at this
  simp at this
  omega
theorem it_left {a b : List Int} {c : Nat} (ha : Bytes a) (hc : Cnt a c) (hv : valU a c = true) : ∀ j, j ≤ c → it (a ++ b) j = it a j
  | 0, _ => rfl
  | j + 1, hj => by
    have ih := it_left (b := b) ha hc hv j (by omega)
    have hlt := hc.lt j (by omega)
    rw [it_succ, it_succ, ih, List.drop_append_of_le_length (by omega), dec_more (ha.drop _) (jdrop_ne hlt) (valU_all hv j (by omega))]
theorem drop_right (a b : List Int) (p : Nat) : (a ++ b).drop (a.length + p) = b.drop p := by
  rw [List.drop_append]
  simp
theorem it_right {a b : List Int} {c : Nat} (ha : Bytes a) (hc : Cnt a c) (hv : valU a c = true) : ∀ i, it (a ++ b) (c + i) = a.length + it b i
  | 0 => by rw [Nat.add_zero, it_left ha hc hv c (Nat.le_refl _), hc.fin]; rfl
  | i + 1 => by
    rw [← Nat.add_assoc, it_succ, it_succ, it_right ha hc hv i, drop_right, Nat.add_assoc]
theorem cnt_join {a b : List Int} {c d : Nat} (ha : Bytes a) (hc : Cnt a c) (hd : Cnt b d) (hv : valU a c = true) : Cnt (a ++ b) (c + d) := by
  refine ⟨by rw [it_right ha hc hv, hd.fin, List.length_append], fun j hj => ?_⟩
  rw [List.length_append]
  by_cases q : j < c
  · rw [it_left ha hc hv j (by omega)]
    have := hc.lt j q
    omega
  · obtain ⟨i, rfl⟩ : ∃ i, j = c + i := ⟨j - c, by omega⟩
    rw [it_right ha hc hv]
    have := hd.lt i (by omega)
    omega
theorem val_join {a b : List Int} {c d : Nat} (ha : Bytes a) (hc : Cnt a c) (hv : valU a c = true) (hw : valU b d = true) : valU (a ++ b) (c + d) = true := by
  refine valU_yes fun j hj => ?_
  by_cases q : j < c
  · have hlt := hc.lt j q
    rw [it_left ha hc hv j (by omega), List.drop_append_of_le_length (by omega)]
    have h1 := valU_all hv j q
    have h2 := dec_more (b := b) (ha.drop _) (jdrop_ne hlt) h1
    unfold badU at h1 ⊢
    rw [h2]; exact h1
  · obtain ⟨i, rfl⟩ : ∃ i, j = c + i := ⟨j - c, by omega⟩
    rw [it_right ha hc hv, drop_right]
    exact valU_all hw i (by omega)
theorem stU_left {a b : List Int} {c : Nat} (ha : Bytes a) (hc : Cnt a c) (hv : valU a c = true) : stU (a ++ b) c = stU a c := by
  unfold stU
  apply List.map_congr_left
  intro j hj
  rw [it_left ha hc hv j (by have := List.mem_range.1 hj; omega)]
/-- append(v, x): where the row lies then -/
theorem appI2 {w : World} {B : Nat} {v : Value} {l : List Int} (x : Int) (ho : ON .i64 3 w B v l) (hB : B ≤ w.heap.size) (hl : l.length ≤ 90000) :
    ∃ u w2, (Builtin.append_ #[30, 30] 30 #[v, .slice (some ⟨w.heap.size, 0, none⟩) 1 1]).run Tryd.prog (w.alloc (.cells #[.int .i64 x] 3)) = .ok u w2 ∧ ON .i64 3 w2 B u (l ++ [x]) ∧ (w.alloc (.cells #[.int .i64 x] 3)).grownBy w2 v.ownBlock ∧ (u.ownBlock = v.ownBlock ∨ u.ownBlock = some (w.heap.size + 1)) := by
  obtain ⟨i0, hi0, hz0, hz1, hz2⟩ := info_parts info_i64
  have a1 : AnyLater w (w.alloc (.cells #[.int .i64 x] 3)) := (AnyLater.refl w).alloc _
  have ho2 := ho.later a1
  have sb : (w.alloc (.cells #[.int .i64 x] 3)).heap[w.heap.size]? = some (.cells #[.int .i64 x] 3) := heap_new rfl
  obtain ⟨g, cap, w2, k1, k2, k3, k4, _⟩ := run_append_lies (P := Tryd.prog) _ 30 30 B 3 i0 (.int .i64 0) 1 8 Tryd.underlying30 hi0 hz0 hz1 hz2 rfl (by decide) v l.length (l.map (Value.int .i64)) ho2 ⟨w.heap.size, 0, none⟩ 1 1 [.int .i64 x] rfl (World.news_of_block sb) (by simp [Value.oneCell']) (by decide) (by unfold maxLen; omega) (by omega) (Nat.le_trans hB a1.below.size) (w.heap.size + 1) (by simp)
  refine ⟨_, w2, k1, ?_, k3, ?_⟩
  · show w2.ownsRow B 3 1 _ (l ++ [x]).length ((l ++ [x]).map (Value.int .i64))
    rw [List.length_append, List.map_append]
    exact k2
  · rcases k4 with e | e
    · left; rw [e]; rfl
    · right; rw [e]; rfl
set_option maxRecDepth 100000 in
set_option maxHeartbeats 3200000 in
theorem utfJoins_any (W : World) (v0 v1 : Value) (l0 l1 : List Int) (hv0 : RU8 W v0 l0) (hb0 : Bytes l0) (hv1 : RU8 W v1 l1) (hb1 : Bytes l1) (hg : GlobU W) : Calls Tryd.prog 7 #[v0, v1] W fun e w' => e = .returned (.bool true) ∧ AnyLater W w' := by
  have HG := Lib.hid hg
  have HF0 := Lib.hid (few8_any v0 l0 40 W hv0 (by omega))
  have HF1 : Hid (∀ w', AnyLater W w' → Calls Tryd.prog 8 #[v1, .int .i64 40] w' fun e w'' => ∃ u, e = .returned u ∧ AnyLater w' w'' ∧ ON .u8 5 w'' w'.heap.size u (l1.take 40)) := Lib.hid (fun w' h => few8_any v1 l1 40 w' (hv1.later h) (by omega))
  obtain ⟨A0, cap0, rfl, hcap0⟩ := hv0.form
  obtain ⟨A1, cap1, rfl, hcap1⟩ := hv1.form
  have HB0 := Lib.hid (hb0.take 40)
  have HB1 := Lib.hid (hb1.take 40)
  have hla : (l0.take 40).length ≤ 40 := by rw [List.length_take]; omega
  have hlb : (l1.take 40).length ≤ 40 := by rw [List.length_take]; omega
  generalize l0.take 40 = ma at *
  generalize l1.take 40 = mb at *
  generalize l0.length = n0 at *
  generalize l1.length = n1 at *
  obtain ⟨ca, hca, hcla⟩ := cnt_ex HB0.out
  obtain ⟨cb, hcb, hclb⟩ := cnt_ex HB1.out
  have HCa := Lib.hid hca
  have HCb := Lib.hid hcb
  obtain ⟨na, hna⟩ : ∃ n, ma.length = n := ⟨_, rfl⟩
  obtain ⟨nb, hnb⟩ : ∃ n, mb.length = n := ⟨_, rfl⟩
  have HNa := Lib.hid hna
  have HNb := Lib.hid hnb
  rw [hna] at hla hcla
  rw [hnb] at hlb hclb
  clear hg hv0 hv1 hb0 hb1 hca hcb hna hnb
  go_enter Tryd.func7, Tryd.ntmps7
  go_wp2_with fail
  refine HF0.out.mono ?_
  rintro e w1 ⟨ua, rfl, a1, oa⟩
  have HA1 := Lib.hid a1
  have HRa := Lib.hid oa.rn
  obtain ⟨A2, c2, rfl, h2⟩ := oa.form
  rw [HNa.out] at HRa h2 ⊢
  have HF1w := Lib.hid (HF1.out w1 a1)
  clear oa a1
  go_wp2_with fail
  refine HF1w.out.mono ?_
  rintro e w2 ⟨ub, rfl, a2, ob⟩
  have HA2 := Lib.hid (HA1.out.trans a2)
  have HRa2 := Lib.hid (HRa.out.later a2)
  have HRb := Lib.hid ob.rn
  obtain ⟨A3, c3, rfl, h3⟩ := ob.form
  rw [HNb.out] at HRb h3 ⊢
  obtain ⟨xa, hxa⟩ : ∃ x, valU ma ca = x := ⟨_, rfl⟩
  obtain ⟨xb, hxb⟩ : ∃ x, valU mb cb = x := ⟨_, rfl⟩
  have HXa := Lib.hid hxa
  have HXb := Lib.hid hxb
  have HVa := Lib.hid (valid_any _ ma ca w2 xa hxa HRa2.out HB0.out (by rw [HNa.out]; omega) (HG.out.later HA2.out) HCa.out)
  have HVb : Hid (∀ w', AnyLater w2 w' → Calls Tryd.prog 20 #[.slice A3 nb c3] w' fun e w'' => e = .returned (.bool xb) ∧ AnyLater w' w'') := Lib.hid (fun w' h => valid_any _ mb cb w' xb hxb (HRb.out.later h) HB1.out (by rw [HNb.out]; omega) (HG.out.later (HA2.out.trans h)) HCb.out)
  have HLv : Hid (∀ w', AnyLater W w' → Calls Tryd.prog 11 #[] w' fun e w'' => e = .returned (.bool true) ∧ AnyLater w' w'') := Lib.hid (fun w' h => ulives_any w' (HG.out.later h))
  clear hxa hxb a2 ob
  rcases xa with _ | _
  · go_wp2_with fail
    refine HVa.out.mono ?_
    rintro e w3 ⟨rfl, b3⟩
    have HA3 := Lib.hid (HA2.out.trans b3)
    have HLw := Lib.hid (HLv.out w3 HA3.out)
    clear b3
    go_wp2_with fail
    refine HLw.out.mono ?_
    rintro e w4 ⟨rfl, b4⟩
    have HA4 := Lib.hid (HA3.out.trans b4)
    clear b4
    go_wp2_with fail
    go_ret
    exact ⟨rfl, HA4.out⟩
  · rcases xb with _ | _
    · go_wp2_with fail
      refine HVa.out.mono ?_
      rintro e w3 ⟨rfl, b3⟩
      have HA3 := Lib.hid (HA2.out.trans b3)
      have HVw := Lib.hid (HVb.out w3 b3)
      clear b3
      go_wp2_with fail
      refine HVw.out.mono ?_
      rintro e w4 ⟨rfl, b4⟩
      have HA4 := Lib.hid (HA3.out.trans b4)
      have HLw := Lib.hid (HLv.out w4 HA4.out)
      clear b4
      go_wp2_with fail
      refine HLw.out.mono ?_
      rintro e w5 ⟨rfl, b5⟩
      have HA5 := Lib.hid (HA4.out.trans b5)
      clear b5
      go_wp2_with fail
      go_ret
      exact ⟨rfl, HA5.out⟩
    · go_wp2_with fail
      refine HVa.out.mono ?_
      rintro e w3 ⟨rfl, b3⟩
      have H23 := Lib.hid b3
      have HVw := Lib.hid (HVb.out w3 b3)
      clear b3
      go_wp2_with fail
      refine HVw.out.mono ?_
      rintro e w4 ⟨rfl, b4⟩
      have H24 := Lib.hid (H23.out.trans b4)
      obtain ⟨u4, w5, k1, k2, k3⟩ := copy8 (HRa2.out.later H24.out) (by rw [HNa.out]; omega)
      obtain ⟨u5, w6, q1, q2, q3⟩ := appN (s := 22) Tryd.underlying22 info_u8 (by decide) k3 (HRb.out.later (H24.out.trans k2)) k2.below.size (by rw [HNa.out, HNb.out]; omega)
      have K1 := Lib.hid k1
      have K2 := Lib.hid q1
      have H46 : AnyLater w4 w6 := ON.grown k3 (Nat.le_refl _) k2 q3
      have H26 := Lib.hid (H24.out.trans H46)
      have HA6 := Lib.hid (HA2.out.trans (H24.out.trans H46))
      have HAll := Lib.hid q2.rn
      have HSa := Lib.hid (refStarts_any _ ma ca w6 (HRa2.out.later H26.out) HB0.out (by rw [HNa.out]; omega) HCa.out)
      clear k1 k2 k3 q1 q2 q3 b4 H46
      go_wp2_with (first | (at_builtin; refine Lib.wpList_append_run _ rfl _ _ _ _ rfl _ _ rfl rfl _ _ K1.out ?_) | (at_builtin; refine Lib.wpList_append_run _ rfl _ _ _ _ rfl _ _ rfl rfl _ _ K2.out ?_))
      refine HSa.out.mono ?_
      rintro e w7 ⟨s7, rfl, b7, o7⟩
      have H67 := Lib.hid b7
      have HO7 := Lib.hid o7
      have HSb := Lib.hid (refStarts_any _ mb cb w7 (HRb.out.later (H26.out.trans b7)) HB1.out (by rw [HNb.out]; omega) HCb.out)
      obtain ⟨A7, c7, rfl, h7⟩ := o7.form
      rw [stU_len] at h7 ⊢
      clear b7 o7
      go_wp2_with fail
      refine HSb.out.mono ?_
      rintro e w8 ⟨s8, rfl, b8, o8⟩
      have H68 := Lib.hid (H67.out.trans b8)
      rcases o8.2 with ⟨_, e8⟩ | ⟨gm, cm, cur, rfl, g1, g2, g3, _, _, g6⟩
      · rw [stU_len] at e8; omega
      have HCur : Hid (∀ j, j ≤ cb → cur[j]? = some (.int .i64 (it mb j))) := Lib.hid (fun j hj => by
        have h6 : j < (stU mb cb).length := by rw [stU_len]; omega
        have : (cur.toList.take ((stU mb cb).length * 1))[j]? = ((stU mb cb).map (Value.int .i64))[j]? := by rw [g6]
        rw [List.getElem?_take_of_lt (by omega), Array.getElem?_toList] at this
        rw [this, List.getElem?_map, List.getElem?_eq_getElem h6, stU_get]
        rfl)
      have hgm := own_lt g2
      have HO8 : Hid (ON .i64 3 w8 w6.heap.size (.slice A7 (ca + 1) c7) (stU (ma ++ mb) ca)) := Lib.hid (by
        rw [stU_left HB0.out HCa.out HXa.out]
        have := HO7.out.later b8
        rwa [stU_len] at this)
      have hne : (Value.slice A7 (ca + 1) c7).ownBlock ≠ some gm := by
        have ho7 := HO7.out
        rw [stU_len] at ho7
        rcases ho7.2 with ⟨e, _⟩ | ⟨g, c', cur', e, _, g2', _⟩
        · cases e
        · rw [e]
          intro h
          have : g = gm := by simpa [Value.ownBlock] using h
          have := own_lt g2'
          omega
      rw [stU_len] at g3 ⊢
      have HNe := Lib.hid hne
      have HG2 := Lib.hid g2
      clear g1 g2 g6 b8 o8 hne
      go_wp2_with fail
      go_loopg [6, 8] cb (fun kk sv iv wr => AnyLater w6 wr ∧ ∃ t : Nat, kk = cb - t ∧ t ≤ cb ∧ iv = .int .i64 ((t : Int) + 1) ∧ wr.heap[gm]? = some (.cells cur 3) ∧ sv.ownBlock ≠ some gm ∧ ON .i64 3 wr w6.heap.size sv (stU (ma ++ mb) (ca + t)))
      case atStart => exact ⟨H68.out, 0, by omega, by omega, rfl, HG2.out, HNe.out, HO8.out⟩
      case round =>
        obtain ⟨a_wr, t, hk, ht, rfl, hcur, hne, ho⟩ := hrel
        have HAr := Lib.hid a_wr
        have HO := Lib.hid ho
        have HN2 := Lib.hid hne
        have HC2 := Lib.hid hcur
        have hgw := own_lt hcur
        obtain ⟨A9, c9, rfl, h9⟩ := ho.form
        rw [stU_len] at HO HN2 h9 ⊢
        by_cases htc : t < cb
        · have r_m := own_row hcur (t + 1)
          rw [HCur.out (t + 1) (by omega)] at r_m
          have hib : it mb (t + 1) ≤ nb := by rw [← HNb.out]; exact it_le HB1.out _
          have HST : Hid (stU (ma ++ mb) (ca + (t + 1)) = stU (ma ++ mb) (ca + t) ++ [(it mb (t + 1) : Int) + (na : Int)]) := Lib.hid (by
            have e1 := it_right (b := mb) HB0.out HCa.out HXa.out (t + 1)
            have e2 := stU_succ (ma ++ mb) (ca + t)
            rw [← Nat.add_assoc] at e1 ⊢
            rw [e2, e1, HNa.out, Int.natCast_add, Int.add_comm])
          generalize it mb (t + 1) = p at *
          obtain ⟨u, w9, k1, k2, k3, k4⟩ := appI2 ((p : Int) + (na : Int)) HO.out a_wr.below.size (by rw [stU_len]; omega)
          have K3 := Lib.hid k1
          have HO9 : Hid (ON .i64 3 w9 w6.heap.size u (stU (ma ++ mb) (ca + (t + 1)))) := Lib.hid (by rw [HST.out]; exact k2)
          have ha1 : AnyLater wr (wr.alloc (.cells #[.int .i64 ((p : Int) + (na : Int))] 3)) := (AnyLater.refl wr).alloc _
          have HA9 := Lib.hid (ON.grown (HO.out.later ha1) (Nat.le_refl _) (a_wr.trans ha1) k3)
          have HG9 := Lib.hid (grown_block k3 (any_own ha1 hcur) HN2.out)
          have HN9 : Hid (u.ownBlock ≠ some gm) := Lib.hid (by
            rcases k4 with e | e
            · rw [e]; exact HN2.out
            · rw [e]; intro h; have : wr.heap.size + 1 = gm := by simpa using h
              omega)
          clear k1 k2 k3 k4 ha1 a_wr ho hcur hne
          go_wp2_with (at_builtin; refine Lib.wpList_append_run _ rfl _ _ _ _ rfl _ _ rfl rfl _ _ K3.out ?_)
          go_roundg (cb - (t + 1))
          case measure => omega
          case rel => exact ⟨HA9.out, t + 1, rfl, by omega, by go_num, HG9.out, HN9.out, HO9.out⟩
        · obtain rfl : t = cb := by omega
          have hcj := cnt_join HB0.out HCa.out HCb.out HXa.out
          have hvj := val_join HB0.out HCa.out HXa.out HXb.out
          have hbj := HB0.out.append HB1.out
          have hlj : (ma ++ mb).length ≤ 1000 := by rw [List.length_append, HNa.out, HNb.out]; omega
          have hgj : ∀ w', AnyLater w6 w' → GlobU w' := fun w' h => HG.out.later (HA6.out.trans h)
          have HV := Lib.hid (valid_any u5 (ma ++ mb) (ca + t) wr true hvj (HAll.out.later a_wr) hbj hlj (hgj wr a_wr) hcj)
          have HSt : Hid (∀ w', AnyLater w6 w' → Calls Tryd.prog 16 #[u5] w' fun e w'' => ∃ u, e = .returned u ∧ AnyLater w' w'' ∧ ON .i64 3 w'' w'.heap.size u (stU (ma ++ mb) (ca + t))) := Lib.hid (fun w' h => starts_any u5 (ma ++ mb) (ca + t) w' (HAll.out.later h) hbj hlj (hgj w' h) hcj)
          have HRI := Lib.hid HO.out.rn
          clear hcj hvj hbj hlj hgj ho hcur hne
          have H6r := Lib.hid a_wr
          clear a_wr
          go_wp2_with fail
          refine HV.out.mono ?_
          rintro e wa ⟨rfl, ba⟩
          have H6a := Lib.hid (H6r.out.trans ba)
          have HRI2 := Lib.hid (HRI.out.later ba)
          have HStw := Lib.hid (HSt.out wa H6a.out)
          clear ba
          go_wp2_with fail
          refine HStw.out.mono ?_
          rintro e wb ⟨ust, rfl, bb, ob⟩
          have H6b := Lib.hid (H6a.out.trans bb)
          have HIn := Lib.hid (ints_any _ _ _ _ wb true (decide_eq_true rfl) ob.rn (HRI2.out.later bb) (by rw [stU_len]; omega) (by rw [stU_len]; omega))
          clear bb ob
          go_wp2_with fail
          refine HIn.out.mono ?_
          rintro e wc ⟨rfl, bc⟩
          have HAc := Lib.hid (HA6.out.trans (H6b.out.trans bc))
          have HLw := Lib.hid (HLv.out wc HAc.out)
          clear bc
          go_wp2_with fail
          refine HLw.out.mono ?_
          rintro e wd ⟨rfl, bd⟩
          have HAd := Lib.hid (HAc.out.trans bd)
          clear bd
          go_wp2_with fail
          go_ret
          exact ⟨rfl, HAd.out⟩
end Go.Proofs.YtibdaielglpcmaaDoor
