/- utf: UtfValid, walked. -/
import Derived.Test.YtibdaielglpcmaaDoorUtfL
namespace Go.Proofs.YtibdaielglpcmaaDoor
set_option linter.unusedSimpArgs false
set_option linter.unusedVariables false
set_option linter.unusedSectionVars false
open Go.RowKit

/-- what the runes' bytes come to, one behind the other -/
def accU (m : List Int) : Nat → List Int
  | 0 => []
  | j + 1 => accU m j ++ encU (decU (m.drop (it m j))).1
theorem dec_take {d : List Int} (hb : Bytes d) (hd : d ≠ []) : (badU d = false ∧ encU (decU d).1 = d.take (decU d).2) ∨ (badU d = true ∧ encU (decU d).1 = [239, 191, 189] ∧ (decU d).2 = 1) := by
  rcases dec_cases d hb with ⟨e, _⟩ | ⟨r, rest, hg, e, hdec⟩ | ⟨_, hdec⟩
  · exact absurd e hd
  · left
    rw [hdec]
    refine ⟨by rw [e]; exact badU_good hg rest, ?_⟩
    simp only
    rw [encU_of hg, e, List.take_left' rfl]
  · right
    refine ⟨by unfold badU; rw [hdec]; decide, ?_, by rw [hdec]⟩
    rw [hdec]
    decide
theorem acc_len (m : List Int) : ∀ j, (accU m j).length ≤ 4 * j
  | 0 => Nat.le_refl _
  | j + 1 => by
    have h1 := acc_len m j
    have h2 := encU_len (decU (m.drop (it m j))).1
    rw [accU, List.length_append]
    omega
theorem acc_bytes (m : List Int) : ∀ j, Bytes (accU m j)
  | 0 => Bytes.nil
  | j + 1 => (acc_bytes m j).append (encU_bytes _)
theorem drop_ne {m : List Int} {p : Nat} (h : p < m.length) : m.drop p ≠ [] := by
  intro e
  have := congrArg List.length e
  rw [List.length_drop] at this
  simp at this
  omega
theorem acc_good {m : List Int} {c : Nat} (hb : Bytes m) (hc : Cnt m c) (h : ∀ j, j < c → badU (m.drop (it m j)) = false) : ∀ j, j ≤ c → accU m j = m.take (it m j)
  | 0, _ => by simp [accU, it]
  | j + 1, hj => by
    have ih := acc_good hb hc h j (by omega)
    have hlt := hc.lt j (by omega)
    rcases dec_take (hb.drop (it m j)) (drop_ne hlt) with ⟨_, e⟩ | ⟨e, _⟩
    · rw [accU, ih, e, it_succ, List.take_add]
    · rw [h j (by omega)] at e; cases e
theorem acc_long {m : List Int} {c : Nat} (hb : Bytes m) (hc : Cnt m c) : ∀ j, j ≤ c → it m j ≤ (accU m j).length ∧ ∀ i, i < j → badU (m.drop (it m i)) = true → it m j < (accU m j).length
  | 0, _ => ⟨by simp [accU, it], fun i hi => by omega⟩
  | j + 1, hj => by
    obtain ⟨h1, h2⟩ := acc_long hb hc j (by omega)
    have hlt := hc.lt j (by omega)
    have hl := (dec_len (hb.drop (it m j))).1
    rw [accU, it_succ, List.length_append]
    rcases dec_take (hb.drop (it m j)) (drop_ne hlt) with ⟨e0, e⟩ | ⟨e0, e, e1⟩
    · have e2 := congrArg List.length e
      rw [List.length_take] at e2
      refine ⟨by omega, fun i hi hbad => ?_⟩
      by_cases q : i = j
      · subst q; rw [e0] at hbad; cases hbad
      · have := h2 i (by omega) hbad
        omega
    · rw [e, e1]
      simp only [List.length_cons, List.length_nil]
      exact ⟨by omega, fun i hi hbad => by omega⟩
/-- what is valid is what its runes make -/
theorem acc_valid {m : List Int} {c : Nat} (hb : Bytes m) (hc : Cnt m c) : decide (accU m c = m) = valU m c := by
  rcases h : valU m c
  · apply decide_eq_false
    intro e
    have hlen := congrArg List.length e
    have : ∃ i, i < c ∧ badU (m.drop (it m i)) = true := by
      unfold valU at h
      rw [List.all_eq_false] at h
      obtain ⟨i, hi, hx⟩ := h
      exact ⟨i, List.mem_range.1 hi, by simpa using hx⟩
    obtain ⟨i, hi, hbad⟩ := this
    have := (acc_long hb hc c (Nat.le_refl _)).2 i hi hbad
    rw [hc.fin] at this
    omega
  · apply decide_eq_true
    rw [acc_good hb hc (valU_all h) c (Nat.le_refl _), hc.fin, List.take_length]
set_option maxRecDepth 100000 in
set_option maxHeartbeats 3200000 in
theorem utfValid_any (W : World) (v : Value) (l : List Int) (hv : RU8 W v l) (hb : Bytes l) (hg : GlobU W) : Calls Tryd.prog 6 #[v] W fun e w' => e = .returned (.bool true) ∧ AnyLater W w' := by
  have HG := Lib.hid hg
  have HF := Lib.hid (few8_any v l 60 W hv (by omega))
  obtain ⟨A, cap, rfl, hcap⟩ := hv.form
  have HB := Lib.hid (hb.take 60)
  have hl60 : (l.take 60).length ≤ 60 := by rw [List.length_take]; omega
  generalize l.take 60 = m at *
  generalize l.length = n0 at *
  obtain ⟨c, hc, hcl⟩ := cnt_ex HB.out
  have HC := Lib.hid hc
  have HIL := Lib.hid (fun j => it_le HB.out j)
  obtain ⟨n, hn⟩ : ∃ n, m.length = n := ⟨_, rfl⟩
  have HN := Lib.hid hn
  rw [hn] at hl60 hcl HIL
  clear hg hv hb hc hn
  go_enter Tryd.func6, Tryd.ntmps6
  go_wp2_with fail
  refine HF.out.mono ?_
  rintro e w1 ⟨u1, rfl, a1, o1⟩
  have HA1 := Lib.hid a1
  have HR1 := Lib.hid o1.rn
  obtain ⟨A1, c1, rfl, h1⟩ := o1.form
  rw [HN.out] at HR1 h1 ⊢
  obtain ⟨u2, w3, k1, k2, k3⟩ := copy8 HR1.out (by rw [HN.out]; omega)
  have K1 := Lib.hid k1
  have H13 := Lib.hid k2
  have HA3 := Lib.hid (HA1.out.trans k2)
  have HS := Lib.hid (starts_any u2 m c w3 k3.rn HB.out (by rw [HN.out]; omega) (HG.out.later HA3.out) HC.out)
  clear o1 a1 k1 k2 k3
  go_wp2_with (at_builtin; refine Lib.wpList_append_run _ rfl _ _ _ _ rfl _ _ rfl rfl _ _ K1.out ?_)
  refine HS.out.mono ?_
  rintro e w4 ⟨s5, rfl, b4, o4⟩
  have H14 := Lib.hid (H13.out.trans b4)
  have HA4 := Lib.hid (HA3.out.trans b4)
  obtain ⟨A5, c5, e5, h5, hcell⟩ := o4.rn
  have hsl := stU_len m c
  obtain ⟨b, off, rfl, hbl, hcj⟩ := hcell (by omega)
  have HCJ : Hid (∀ w', AnyLater w4 w' → ∀ j, j ≤ c → w'.cell? ⟨b, off + j, none⟩ = some (.int .i64 (it m j))) := Lib.hid (fun w' h j hj => by
    have h6 : j < (stU m c).length := by rw [stU_len]; omega
    rw [h.below.cell hbl, hcj j h6, stU_get])
  rw [hsl] at e5 h5
  subst e5
  clear hcell hcj hsl b4 o4
  go_wp2_with fail
  go_loopg [4, 5] c (fun kk sv iv wr => AnyLater w4 wr ∧ ∃ j : Nat, kk = c - j ∧ j ≤ c ∧ iv = .int .i64 j ∧ ON .u8 5 wr w4.heap.size sv (accU m j))
  case atStart => exact ⟨(AnyLater.refl _).alloc _, 0, by omega, by omega, rfl, ON.empty (Nat.le_refl _) (heap_new rfl)⟩
  case round =>
    obtain ⟨a_wr, j, hk, hj, rfl, ho⟩ := hrel
    have HAr := Lib.hid a_wr
    have HO := Lib.hid ho
    have hac := acc_len m j
    obtain ⟨A6, c6, rfl, h6⟩ := ho.form
    by_cases hjc : j < c
    · have cc := HCJ.out wr a_wr j hj
      have hpl : it m j < n := by rw [← HN.out]; exact HC.out.lt j hjc
      have HAc : Hid (accU m (j + 1) = accU m j ++ encU (decU (m.drop (it m j))).1) := Lib.hid rfl
      generalize it m j = p at *
      obtain ⟨r, k, hdec⟩ : ∃ r k, decU (m.drop p) = (r, k) := ⟨_, _, rfl⟩
      obtain ⟨u, hu, hcut⟩ := HR1.out.cut p (by rw [HN.out]; omega)
      have hrk := dec_rune (HB.out.drop p)
      rw [hdec] at hrk HAc
      simp only at hrk HAc
      have HD := Lib.hid (dec_any u (m.drop p) wr r k hdec (hu.later (H14.out.trans a_wr)) (HB.out.drop p) (by rw [List.length_drop, HN.out]; omega) (HG.out.later (HA4.out.trans a_wr)))
      have HE : Hid (∀ w', AnyLater W w' → Calls Tryd.prog 12 #[.int .i32 r] w' fun e w'' => ∃ u, e = .returned u ∧ AnyLater w' w'' ∧ ON .u8 5 w'' w'.heap.size u (encU r)) := Lib.hid (fun w' h => enc_any r w' ⟨by omega, by omega⟩ (HG.out.later h))
      obtain ⟨E, hE⟩ : ∃ E, encU r = E := ⟨_, rfl⟩
      have hel := encU_len r
      rw [hE] at HE HAc hel
      have HEL := Lib.hid hel
      obtain ⟨q, hq⟩ : ∃ q, (accU m j).length = q := ⟨_, rfl⟩
      have HQ := Lib.hid hq
      rw [hq] at hac h6 HO ⊢
      clear hu hdec a_wr ho hE hel hq
      go_wp2_with fail
      refine HD.out.mono ?_
      rintro e w5 ⟨rfl, b5⟩
      have HO5 := Lib.hid (HO.out.later b5)
      have H45 := Lib.hid (HAr.out.trans b5)
      have HE5 := Lib.hid (HE.out w5 (HA4.out.trans H45.out))
      clear b5
      go_wp2_with fail
      refine HE5.out.mono ?_
      rintro e w6 ⟨ue, rfl, b6, o6⟩
      have ho6 := HO5.out.later b6
      obtain ⟨u7, w7, q1, q2, q3⟩ := appN (s := 22) Tryd.underlying22 info_u8 (by decide) ho6 o6.rn (H45.out.trans b6).below.size (by have := HEL.out; rw [HQ.out]; omega)
      have K2 := Lib.hid q1
      have HO7 : Hid (ON .u8 5 w7 w4.heap.size u7 (accU m (j + 1))) := Lib.hid (by rw [HAc.out]; exact q2)
      have H47 := Lib.hid (ON.grown ho6 (Nat.le_refl _) (H45.out.trans b6) q3)
      clear q1 q2 q3 ho6 o6 b6
      go_wp2_with (at_builtin; refine Lib.wpList_append_run _ rfl _ _ _ _ rfl _ _ rfl rfl _ _ K2.out ?_)
      go_roundg (c - (j + 1))
      case measure => omega
      case rel => exact ⟨H47.out, j + 1, rfl, by omega, by go_num, HO7.out⟩
    · obtain rfl : j = c := by omega
      have hval := acc_valid HB.out HC.out
      obtain ⟨x, hx⟩ : ∃ x, valU m j = x := ⟨_, rfl⟩
      rw [hx] at hval
      obtain ⟨u8, w8, k1, k2, k3⟩ := copy8 (w := wr.drew) (HR1.out.later (H14.out.trans a_wr.drew)) (by rw [HN.out]; omega)
      have K3 := Lib.hid k1
      have HW8 := Lib.hid (AnyLater.trans (AnyLater.refl wr).drew k2)
      have HVd := Lib.hid (valid_any u8 m j w8 x hx k3.rn HB.out (by rw [HN.out]; omega) (HG.out.later (HA4.out.trans (a_wr.trans HW8.out))) HC.out)
      have HLv : Hid (∀ w', AnyLater wr w' → Calls Tryd.prog 11 #[] w' fun e w'' => e = .returned (.bool true) ∧ AnyLater w' w'') := Lib.hid (fun w' h => ulives_any w' (HG.out.later (HA4.out.trans (a_wr.trans h))))
      have hse := str_eq (acc_bytes m j) HB.out
      rw [hval] at hse
      have HSA : Hid (∀ w', AnyLater wr w' → (convert 22 9 (.slice A6 (accU m j).length c6)).run Tryd.prog w' = .ok (.string (strOfNums (accU m j))) w') := Lib.hid (fun w' h => (HO.out.later h).rn.str)
      have HSB : Hid (∀ w', AnyLater wr w' → (convert 22 9 (.slice A1 n c1)).run Tryd.prog w' = .ok (.string (strOfNums m)) w') := Lib.hid (fun w' h => (HR1.out.later (H14.out.trans (a_wr.trans h))).str)
      have HEnd := Lib.hid (HA4.out.trans a_wr)
      generalize strOfNums (accU m j) = SA at *
      generalize strOfNums m = SB at *
      generalize (accU m j).length = q at *
      clear hval k1 k2 k3 hx a_wr ho
      go_wp2_with fail
      apply wp_region_acts 13 [(0, .slice (some ⟨wr.heap.size, 0, none⟩) 0 0), (2, u8), (3, .bool x), (10, .bool true), (11, .bool true)] (fun w' => AnyLater wr w')
        (stL [fun w' => w' = wr.drew, fun w' => w' = wr.drew.alloc (.cells #[] 5), fun w' => w' = w8, fun _ => True, fun _ => True, fun _ => True]) (by kernel_rfl) (by kernel_rfl) (by kernel_rfl) (AnyLater.refl wr).drew rfl
      case hlex =>
        intro U hU
        have q1 := HSA.out U hU
        have q2 := HSB.out U hU
        simp only [actFrom, actOp, List.lookup, Nat.reduceBEq, Nat.reduceLeDiff, Nat.reduceAdd, if_false, if_true]
        repeat (go_big_quiet_step (fail))
        exact wpQuiet_nil rfl
      case hact =>
        intro i hi o ho
        have hj3 : i = 0 ∨ i = 1 ∨ i = 2 ∨ i = 3 ∨ i = 4 := by simp at hi; omega
        rcases hj3 with rfl | rfl | rfl | rfl | rfl
        · cases ho
          refine ⟨rfl, fun w' hC hS => ?_⟩
          obtain rfl : w' = wr.drew := hS
          exact act_value (w' := wr.drew.alloc (.cells #[] 5)) (by simp [go_sem, execOp]) ⟨hC.alloc _, rfl⟩
        · cases ho
          refine ⟨rfl, fun w' hC hS => ?_⟩
          obtain rfl : w' = wr.drew.alloc (.cells #[] 5) := hS
          exact act_append _ _ _ _ rfl _ _ rfl rfl K3.out ⟨HW8.out, rfl⟩
        · cases ho
          refine ⟨rfl, fun w' hC hS => ?_⟩
          obtain rfl : w' = w8 := hS
          refine act_call ?_ (HVd.out.mono fun e w'' ⟨h1, h2⟩ => ⟨h1, hC.trans h2, trivial⟩)
          simp [go_sem, execOp]
        · cases ho
          refine ⟨rfl, fun w' hC hS => ?_⟩
          exact act_value (w' := w') (by simp [go_sem, execOp]) ⟨hC, trivial⟩
        · cases ho
          refine ⟨rfl, fun w' hC hS => ?_⟩
          refine act_call ?_ ((HLv.out w' hC).mono fun e w'' ⟨h1, h2⟩ => ⟨h1, hC.trans h2, trivial⟩)
          simp [go_sem, execOp]
      case htail =>
        intro w' hC hS
        simp only [List.drop_succ_cons, List.drop_zero, List.drop_nil]
        go_wp2_with fail
        go_ret
        exact ⟨rfl, HEnd.out.trans hC⟩
end Go.Proofs.YtibdaielglpcmaaDoor
