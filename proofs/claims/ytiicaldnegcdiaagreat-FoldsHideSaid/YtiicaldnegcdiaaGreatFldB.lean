/- folds: the library's functions at spans (IndexFunc, ContainsFunc, Clone, Grow, Concat), and the law's cut to thirty: by contract. -/
import Derived.Test.YtiicaldnegcdiaaGreatMrkB
import Derived.Lib.SliceRun
namespace Go.Proofs.YtiicaldnegcdiaaGreat
set_option linter.unusedSimpArgs false
set_option linter.unusedVariables false
set_option linter.unusedSectionVars false
open Go.RowKit

/-! ### the law's cut to thirty -/
set_option maxRecDepth 100000 in
theorem ffew_short (v : Value) (l : Qs) (w : World) (hv : QR w v l) (hl : l.length ≤ 30) : Calls Tryz.prog 6 #[v] w (RowS w l) := by
  obtain ⟨u, w2, q1, q2, q3⟩ := copyQ pairSpan hv (by omega)
  have K1 := Lib.hid q1
  have K2 := Lib.hid (And.intro q2 q3)
  obtain ⟨A, cap, rfl, -⟩ := hv.form
  have d0 : decide ((30 : Int) < (l.length : Int)) = false := decide_eq_false (by omega)
  clear q1 q2 q3 hv
  generalize l.length = n at *
  go_enter Tryz.func6, Tryz.ntmps6
  go_wp2_with (at_builtin; refine Lib.wpList_append_run _ rfl _ _ _ _ rfl _ _ rfl rfl _ _ K1.out ?_)
  go_ret
  exact ⟨_, rfl, K2.out⟩
set_option maxRecDepth 100000 in
theorem ffew_long (v : Value) (l : Qs) (w : World) (hv : QR w v l) (hl : 30 < l.length) : Calls Tryz.prog 6 #[v] w (RowS w (l.take 30)) := by
  obtain ⟨A2, cap2, h2, hs⟩ := hv.uptoQ pairSpan 30 (by omega)
  obtain ⟨u, w2, q1, q2, q3⟩ := copyQ pairSpan h2 (by rw [List.length_take]; omega)
  have K1 := Lib.hid q1
  have K2 := Lib.hid (And.intro q2 q3)
  obtain ⟨A, cap, rfl, -⟩ := hv.form
  have hsl : ∀ w', (Instr.sliceAt 23 (.slice A l.length cap) none (some (.int .i64 30)) none).run Tryz.prog w' = .ok (.slice A2 30 cap2) w' := hs
  have d0 : (30 : Int) < (l.length : Int) := by omega
  clear q1 q2 q3 hv hs h2 hl
  generalize l.length = n at *
  go_enter Tryz.func6, Tryz.ntmps6
  go_wp2_with (at_builtin; refine Lib.wpList_append_run _ rfl _ _ _ _ rfl _ _ rfl rfl _ _ K1.out ?_)
  go_ret
  exact ⟨_, rfl, K2.out⟩
theorem ffew_any (v : Value) (l m : Qs) (w : World) (hm : l.take 30 = m) (hv : QR w v l) : Calls Tryz.prog 6 #[v] w (RowS w m) := by
  subst hm
  by_cases h : l.length ≤ 30
  · rw [List.take_of_length_le h]
    exact ffew_short v l w hv h
  · exact ffew_long v l w hv (by omega)

/-! ### IndexFunc, ContainsFunc -/
def idxV (p : Int × Int → Bool) (l : Qs) : Int := if l.any p = true then ((l.findIdx p : Nat) : Int) else -1
theorem idxV_at {p : Int × Int → Bool} {l : Qs} {j : Nat} (h : j < l.length) (hf : (l.take j).any p = false) (hp : p l[j] = true) : idxV p l = (j : Int) := by
  unfold idxV
  rw [if_pos (List.any_eq_true.2 ⟨_, List.getElem_mem h, hp⟩)]
  congr 1
  rw [List.findIdx_eq h]
  refine ⟨hp, fun i hi => ?_⟩
  have := List.any_eq_false.1 hf l[i] (by rw [List.mem_take_iff_getElem]; exact ⟨i, by omega, rfl⟩)
  simpa using this
theorem idxV_none {p : Int × Int → Bool} {l : Qs} (h : l.any p = false) : idxV p l = -1 := by unfold idxV; rw [if_neg (by rw [h]; decide)]
theorem idxV_cases (p : Int × Int → Bool) (l : Qs) : (l.any p = false ∧ idxV p l = -1) ∨ (l.any p = true ∧ ∃ j : Nat, idxV p l = (j : Int) ∧ ∃ h : j < l.length, (l.take j).any p = false ∧ p l[j] = true) := by
  cases h : l.any p
  · exact .inl ⟨rfl, idxV_none h⟩
  · refine .inr ⟨rfl, l.findIdx p, by unfold idxV; rw [if_pos h], ?_⟩
    have hl : l.findIdx p < l.length := List.findIdx_lt_length_of_exists (by simpa using List.any_eq_true.1 h)
    refine ⟨hl, ?_, List.findIdx_getElem (w := hl)⟩
    rw [List.any_eq_false]
    intro x hx
    obtain ⟨i, hi, rfl⟩ := List.mem_take_iff_getElem.1 hx
    have hi2 : i < l.findIdx p := Nat.lt_of_lt_of_le hi (Nat.min_le_left _ _)
    simpa using List.not_of_lt_findIdx hi2
/-- a closure that answers whether p holds of a span, wherever P holds -/
def TestsQ (P : World → Prop) (gc : Nat) (cb : Array Value) (p : Int × Int → Bool) : Prop := ∀ (b1 b2 : Int) (w' : World), P w' →
  Calls Tryz.prog gc (#[.agg #[.int .i64 b1, .int .i64 b2]] ++ cb) w' fun e w'' => e = .returned (.bool (p (b1, b2))) ∧ AnyLater w' w''
set_option maxRecDepth 100000 in
set_option maxHeartbeats 1600000 in
theorem qindex_any (v : Value) (gc : Nat) (cb : Array Value) (p : Int × Int → Bool) (l : Qs) (r : Int) (w : World) (P : World → Prop) (hk : idxV p l = r) (hr : QR w v l) (hn : l.length ≤ 100000) (hP : P w) (hPl : ∀ x y, P x → AnyLater x y → P y)
    (hcf : ∀ args w, (callFunc gc args).run Tryz.prog w = .ok (.enter gc args) w) (hdo : TestsQ P gc cb p) :
    Calls Tryz.prog 49 #[v, .func (.func gc) #[] cb] w fun e w' => e = .returned (.int .i64 r) ∧ AnyLater w w' := by
  obtain ⟨A, cap, rfl, h2, h3⟩ := hr
  have HCC : Hid (∀ (j : Nat) (h : j < l.length), ∃ b off, A = some ⟨b, off, none⟩ ∧ b < w.heap.size ∧ w.cell? ⟨b, off + j * 2, none⟩ = some (.int .i64 l[j].1) ∧ w.cell? ⟨b, off + j * 2 + 1, none⟩ = some (.int .i64 l[j].2)) := Lib.hid (fun j hj => by
    obtain ⟨b, off, e, hb, hc⟩ := h3 (by omega)
    exact ⟨b, off, e, hb, hc j hj⟩)
  have HD := Lib.hid hdo
  have HP := Lib.hid (And.intro hP hPl)
  have HK := Lib.hid hk
  obtain ⟨n, hnn⟩ : ∃ n, l.length = n := ⟨_, rfl⟩
  have HN := Lib.hid hnn
  rw [hnn] at h2 hn ⊢
  clear h3 hk hP hPl hdo hnn
  go_enter Tryz.func49, Tryz.ntmps49
  go_wp2_with fail
  go_loopg [8] n (fun k i wr => ∃ j : Nat, k = n - j ∧ j ≤ n ∧ i = .int .i64 j ∧ AnyLater w wr ∧ (l.take j).any p = false)
  case atStart => exact ⟨0, by omega, by omega, rfl, AnyLater.refl _, by simp⟩
  case round =>
    obtain ⟨j, hk, hj, rfl, a_wr, hf⟩ := hrel
    have HF := Lib.hid hf
    clear hf
    by_cases hlt : j < n
    · have lj : j < l.length := by rw [HN.out]; exact hlt
      obtain ⟨b, off, rfl, hb, k0, k1⟩ := HCC.out j lj
      have c0 : wr.cell? ⟨b, off + j * 2, none⟩ = some (.int .i64 l[j].1) := (a_wr.below.cell hb).trans k0
      have c1 : wr.cell? ⟨b, off + j * 2 + 1, none⟩ = some (.int .i64 l[j].2) := (a_wr.below.cell hb).trans k1
      have HT : Hid ((l.take (j + 1)).any p = ((l.take j).any p || p l[j])) := Lib.hid (by rw [List.take_succ_eq_append_getElem lj, List.any_append]; simp)
      have HH : Hid (p l[j] = true → idxV p l = (j : Int)) := Lib.hid (fun h => idxV_at lj HF.out h)
      clear k0 k1
      generalize l[j] = x at *
      obtain ⟨f, t⟩ := x
      simp only at c0 c1
      have HD1 := Lib.hid (HD.out f t wr (HP.out.2 _ _ HP.out.1 a_wr))
      cases hp : p (f, t) with
      | true =>
        rw [hp] at HD1
        have HE := Lib.hid (HH.out hp)
        clear hp HT HH
        go_wp2_with fail
        refine HD1.out.mono ?_
        rintro e w1 ⟨rfl, b_w1⟩
        go_wp2_with fail
        go_ret
        exact ⟨by rw [← HK.out, HE.out]; rfl, a_wr.trans b_w1⟩
      | false =>
        rw [hp] at HD1
        have HE : Hid ((l.take (j + 1)).any p = false) := Lib.hid (by rw [HT.out, HF.out, hp]; rfl)
        clear hp HT HH
        go_wp2_with fail
        refine HD1.out.mono ?_
        rintro e w1 ⟨rfl, b_w1⟩
        go_wp2_with fail
        go_roundg (n - (j + 1))
        case measure => omega
        case rel => exact ⟨j + 1, rfl, hlt, by go_num, a_wr.trans b_w1, HE.out⟩
    · obtain rfl : j = n := by omega
      have HE : Hid (idxV p l = -1) := Lib.hid (idxV_none (by
        have := HF.out
        rwa [List.take_of_length_le (Nat.le_of_eq HN.out)] at this))
      go_wp2_with fail
      go_ret
      exact ⟨by rw [← HK.out, HE.out]; rfl, a_wr⟩
set_option maxRecDepth 100000 in
theorem qcontains_any (v : Value) (gc : Nat) (cb : Array Value) (p : Int × Int → Bool) (l : Qs) (c : Bool) (w : World) (P : World → Prop) (hc : l.any p = c) (hr : QR w v l) (hn : l.length ≤ 100000) (hP : P w) (hPl : ∀ x y, P x → AnyLater x y → P y)
    (hcf : ∀ args w, (callFunc gc args).run Tryz.prog w = .ok (.enter gc args) w) (hdo : TestsQ P gc cb p) :
    Calls Tryz.prog 31 #[v, .func (.func gc) #[] cb] w fun e w' => e = .returned (.bool c) ∧ AnyLater w w' := by
  obtain ⟨r, hr1⟩ : ∃ r, idxV p l = r := ⟨_, rfl⟩
  have HX := Lib.hid (qindex_any v gc cb p l r w P hr1 hr hn hP hPl hcf hdo)
  have hd : decide (0 ≤ r) = c := by
    rw [← hr1, ← hc]
    rcases idxV_cases p l with ⟨h1, h2⟩ | ⟨h1, j, h2, _⟩
    · rw [h1, h2]; rfl
    · rw [h1, h2]; exact decide_eq_true (by omega)
  have HB := Lib.hid hd
  clear hd hr1 hr hP hPl hdo hc hcf
  go_enter Tryz.func31, Tryz.ntmps31
  go_wp2_with fail
  refine HX.out.mono ?_
  rintro e w1 ⟨rfl, b_w1⟩
  go_wp2_with fail
  go_ret
  exact ⟨ret_bool HB.out, b_w1⟩

/-! ### Clone -/
set_option maxRecDepth 100000 in
theorem qclone_any (v : Value) (l : Qs) (w : World) (hv : QR w v l) (hl : l.length ≤ 190000) : Calls Tryz.prog 37 #[v] w (RowS w l) := by
  obtain ⟨u, w2, q1, q2, q3⟩ := copyQ pairSpan hv hl
  have K1 := Lib.hid q1
  have K2 := Lib.hid (And.intro q2 q3)
  obtain ⟨A, cap, rfl, h2, h3⟩ := hv
  have hq := fun (w : World) (n : Nat) => Lib.run_eql_slice_nil (P := Tryz.prog) w 23 55 A n cap 0 0 Tryz.underlying23
  cases A with
  | none =>
    have h0 : l = [] := by
      cases l with
      | nil => rfl
      | cons x t => obtain ⟨b, off, e, _⟩ := h3 (by simp); cases e
    subst h0
    clear q1 q2 q3 h2 h3 K1 K2
    go_enter Tryz.func37, Tryz.ntmps37
    go_wp2_with fail
    go_ret
    exact ⟨_, rfl, AnyLater.refl _, OQ.nil _ _ _⟩
  | some ad =>
    clear q1 q2 q3 h2 h3
    generalize l.length = n at *
    go_enter Tryz.func37, Tryz.ntmps37
    go_wp2_with (at_builtin; refine Lib.wpList_append_run _ rfl _ _ _ _ rfl _ _ rfl rfl _ _ K1.out ?_)
    go_ret
    exact ⟨_, rfl, K2.out⟩

/-! ### Grow of none, Concat -/
/-- append of zeros onto nothing, cut down to none: a row of none -/
theorem qzeroRow (w : World) (n : Nat) (h0 : 0 < n) (hn : n ≤ 300000) :
    ∃ g cap w2, (Builtin.append_ #[23, 3] 23 #[.slice none 0 0, .int .i64 (n : Int)]).run Tryz.prog w = .ok (.slice (some ⟨g, 0, none⟩) n cap) w2 ∧ AnyLater w w2 ∧ OQ 55 w2 w.heap.size (.slice (some ⟨g, 0, none⟩) 0 cap) [] := by
  obtain ⟨i0, hi0, hz0, hz1, hz2⟩ := info_parts pairSpan.info
  have hcap := grownCap_ge w n 0 55
  have hcap2 := grownCap_le_maxLen w n 0 55 (by unfold maxLen; omega)
  refine ⟨_, _, _, Lib.run_append_nil_zeros (P := Tryz.prog) w 23 3 23 55 i0 (.agg #[.int .i64 0, .int .i64 0]) .i64 .i64 Tryz.underlying23 (by kernel_rfl) hi0 hz0 n h0 (by rw [hz1]; decide) (by omega) (by rw [hz2]; omega), ?_, rfl, .inr ⟨w.heap.size, _, _, rfl, Nat.le_refl _, heap_new rfl, Nat.zero_le _, hcap2, ?_, rfl⟩⟩
  · exact (((AnyLater.refl w).drewN 1).alloc _)
  · rw [Array.size_append, size_zeroCells, size_zeroCells]
    show n * 2 + (grownCap w n 0 55 - n) * 2 = _
    omega
set_option maxRecDepth 100000 in
theorem qgrow_zero (w : World) : Calls Tryz.prog 68 #[.slice none 0 0, .int .i64 0] w (RowS w []) := by
  go_enter Tryz.func68, Tryz.ntmps68
  go_wp2_with fail
  go_ret
  exact ⟨_, rfl, AnyLater.refl _, OQ.nil _ _ _⟩
set_option maxRecDepth 100000 in
theorem qgrow_some (n : Nat) (w : World) (h0 : 0 < n) (hn : n ≤ 300000) : Calls Tryz.prog 68 #[.slice none 0 0, .int .i64 n] w (RowS w []) := by
  obtain ⟨g, cap, w2, k1, k2, k3⟩ := qzeroRow w n h0 hn
  have K1 := Lib.hid k1
  have HB := Lib.hid (And.intro k2 k3)
  clear k1 k2 k3
  go_enter Tryz.func68, Tryz.ntmps68
  go_wp2_with (at_builtin; refine Lib.wpList_append_run _ rfl _ _ _ _ rfl _ _ rfl rfl _ _ K1.out ?_)
  go_ret
  exact ⟨_, rfl, HB.out⟩
theorem qgrow_any (n : Int) (w : World) (h0 : 0 ≤ n) (hn : n ≤ 300000) : Calls Tryz.prog 68 #[.slice none 0 0, .int .i64 n] w (RowS w []) := by
  obtain ⟨N, rfl⟩ := Int.eq_ofNat_of_zero_le h0
  rcases Nat.eq_zero_or_pos N with rfl | hp
  · exact qgrow_zero w
  · exact qgrow_some N w hp (by omega)
set_option maxRecDepth 100000 in
set_option maxHeartbeats 3200000 in
/-- slices.Concat of three lists of spans -/
theorem qcat_three (g : Nat) (v1 v2 v3 : Value) (a b c : Qs) (w : World) (hg : g < w.heap.size) (c1 : w.cell? ⟨g, 0, none⟩ = some v1) (c2 : w.cell? ⟨g, 1, none⟩ = some v2) (c3 : w.cell? ⟨g, 2, none⟩ = some v3) (h1 : QR w v1 a) (h2 : QR w v2 b) (h3 : QR w v3 c) (hs : a.length + b.length + c.length ≤ 90000) :
    Calls Tryz.prog 54 #[.slice (some ⟨g, 0, none⟩) 3 3] w (RowS w (a ++ b ++ c)) := by
  have H1 := Lib.hid h1
  have H2 := Lib.hid h2
  have H3 := Lib.hid h3
  obtain ⟨A1, q1, rfl, _, _⟩ := h1
  obtain ⟨A2, q2, rfl, _, _⟩ := h2
  obtain ⟨A3, q3, rfl, _, _⟩ := h3
  have HC1 := Lib.hid c1
  have HC2 := Lib.hid c2
  have HC3 := Lib.hid c3
  have HG := Lib.hid (fun n w => qgrow_any n w)
  have s1 : a.length ≤ 90000 := by omega
  have s2 : b.length ≤ 90000 := by omega
  have s3 : c.length ≤ 90000 := by omega
  go_enter Tryz.func54, Tryz.ntmps54
  go_wp2_with fail
  refine wp_loop_rounds 4 ?_
  rw [rounds_succ]
  go_wp2_with fail
  rw [rounds_succ]
  go_wp2_with fail
  rw [rounds_succ]
  go_wp2_with fail
  rw [rounds_succ]
  go_wp2_with fail
  refine (HG.out _ _ (by omega) (by omega)).mono ?_
  rintro e w1 ⟨x1, rfl, b1, o1⟩
  have HB1 := Lib.hid (And.intro b1 o1)
  clear b1 o1 c1 c2 c3
  obtain ⟨A9, q9, rfl, _, _⟩ := OQ.rq HB1.out.2
  go_wp2_with fail
  refine wp_loop_rounds 4 ?_
  rw [rounds_succ]
  have c1 : w1.cell? ⟨g, 0, none⟩ = some (.slice A1 a.length q1) := (HB1.out.1.below.cell hg).trans HC1.out
  obtain ⟨x2, w2, k1, k2, k3⟩ := appQ pairSpan HB1.out.2 (H1.out.later HB1.out.1) HB1.out.1.below.size (by simp only [List.length_append, List.length_nil]; omega)
  have K1 := Lib.hid k1
  have HB2 := Lib.hid (And.intro (OQ.grown HB1.out.2 (Nat.le_refl _) HB1.out.1 k3) k2)
  clear k1 k2 k3
  go_wp2_with (at_builtin; refine Lib.wpList_append_run _ rfl _ _ _ _ rfl _ _ rfl rfl _ _ K1.out ?_)
  rw [rounds_succ]
  have c2 : w2.cell? ⟨g, 1, none⟩ = some (.slice A2 b.length q2) := (HB2.out.1.below.cell hg).trans HC2.out
  obtain ⟨x3, w3, k1, k2, k3⟩ := appQ pairSpan HB2.out.2 (H2.out.later HB2.out.1) HB2.out.1.below.size (by simp only [List.length_append, List.length_nil]; omega)
  have K2 := Lib.hid k1
  have HB3 := Lib.hid (And.intro (OQ.grown HB2.out.2 (Nat.le_refl _) HB2.out.1 k3) k2)
  clear k1 k2 k3
  go_wp2_with (at_builtin; refine Lib.wpList_append_run _ rfl _ _ _ _ rfl _ _ rfl rfl _ _ K2.out ?_)
  rw [rounds_succ]
  have c3 : w3.cell? ⟨g, 2, none⟩ = some (.slice A3 c.length q3) := (HB3.out.1.below.cell hg).trans HC3.out
  obtain ⟨x4, w4, k1, k2, k3⟩ := appQ pairSpan HB3.out.2 (H3.out.later HB3.out.1) HB3.out.1.below.size (by simp only [List.length_append, List.length_nil]; omega)
  have K3 := Lib.hid k1
  have HB4 := Lib.hid (And.intro (OQ.grown HB3.out.2 (Nat.le_refl _) HB3.out.1 k3) k2)
  clear k1 k2 k3
  go_wp2_with (at_builtin; refine Lib.wpList_append_run _ rfl _ _ _ _ rfl _ _ rfl rfl _ _ K3.out ?_)
  rw [rounds_succ]
  go_wp2_with fail
  go_ret
  exact ⟨_, rfl, HB4.out⟩
set_option maxRecDepth 100000 in
set_option maxHeartbeats 3200000 in
/-- slices.Concat of two lists of spans -/
theorem qcat_two (g : Nat) (v1 v2 : Value) (a b : Qs) (w : World) (hg : g < w.heap.size) (c1 : w.cell? ⟨g, 0, none⟩ = some v1) (c2 : w.cell? ⟨g, 1, none⟩ = some v2) (h1 : QR w v1 a) (h2 : QR w v2 b) (hs : a.length + b.length ≤ 90000) :
    Calls Tryz.prog 54 #[.slice (some ⟨g, 0, none⟩) 2 2] w (RowS w (a ++ b)) := by
  have H1 := Lib.hid h1
  have H2 := Lib.hid h2
  obtain ⟨A1, q1, rfl, _, _⟩ := h1
  obtain ⟨A2, q2, rfl, _, _⟩ := h2
  have HC1 := Lib.hid c1
  have HC2 := Lib.hid c2
  have HG := Lib.hid (fun n w => qgrow_any n w)
  have s1 : a.length ≤ 90000 := by omega
  have s2 : b.length ≤ 90000 := by omega
  go_enter Tryz.func54, Tryz.ntmps54
  go_wp2_with fail
  refine wp_loop_rounds 3 ?_
  rw [rounds_succ]
  go_wp2_with fail
  rw [rounds_succ]
  go_wp2_with fail
  rw [rounds_succ]
  go_wp2_with fail
  refine (HG.out _ _ (by omega) (by omega)).mono ?_
  rintro e w1 ⟨x1, rfl, b1, o1⟩
  have HB1 := Lib.hid (And.intro b1 o1)
  clear b1 o1 c1 c2
  obtain ⟨A9, q9, rfl, _, _⟩ := OQ.rq HB1.out.2
  go_wp2_with fail
  refine wp_loop_rounds 3 ?_
  rw [rounds_succ]
  have c1 : w1.cell? ⟨g, 0, none⟩ = some (.slice A1 a.length q1) := (HB1.out.1.below.cell hg).trans HC1.out
  obtain ⟨x2, w2, k1, k2, k3⟩ := appQ pairSpan HB1.out.2 (H1.out.later HB1.out.1) HB1.out.1.below.size (by simp only [List.length_append, List.length_nil]; omega)
  have K1 := Lib.hid k1
  have HB2 := Lib.hid (And.intro (OQ.grown HB1.out.2 (Nat.le_refl _) HB1.out.1 k3) k2)
  clear k1 k2 k3
  go_wp2_with (at_builtin; refine Lib.wpList_append_run _ rfl _ _ _ _ rfl _ _ rfl rfl _ _ K1.out ?_)
  rw [rounds_succ]
  have c2 : w2.cell? ⟨g, 1, none⟩ = some (.slice A2 b.length q2) := (HB2.out.1.below.cell hg).trans HC2.out
  obtain ⟨x3, w3, k1, k2, k3⟩ := appQ pairSpan HB2.out.2 (H2.out.later HB2.out.1) HB2.out.1.below.size (by simp only [List.length_append, List.length_nil]; omega)
  have K2 := Lib.hid k1
  have HB3 := Lib.hid (And.intro (OQ.grown HB2.out.2 (Nat.le_refl _) HB2.out.1 k3) k2)
  clear k1 k2 k3
  go_wp2_with (at_builtin; refine Lib.wpList_append_run _ rfl _ _ _ _ rfl _ _ rfl rfl _ _ K2.out ?_)
  rw [rounds_succ]
  go_wp2_with fail
  go_ret
  exact ⟨_, rfl, HB3.out⟩
end Go.Proofs.YtiicaldnegcdiaaGreat
