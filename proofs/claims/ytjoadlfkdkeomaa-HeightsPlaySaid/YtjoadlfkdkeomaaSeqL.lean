/- seq: the library's functions at heights (IndexFunc, ContainsFunc, Clone, Grow, Concat of three), and the law's cut to thirty: by contract. -/
import Derived.Test.YtjoadlfkdkeomaaSeqF
import Derived.Lib.AppendZeros
import Derived.Lib.SliceRun
namespace Go.Proofs.Ytjoadlfkdkeomaa
set_option linter.unusedSimpArgs false
set_option linter.unusedVariables false
set_option linter.unusedSectionVars false
open Go.RowKit

/-- a row of heights of the call's own -/
def RowT (W : World) (l : Qs) (e : Ending) (w' : World) : Prop := ∃ v, e = .returned v ∧ AnyLater W w' ∧ OQ 33 w' W.heap.size v l

/-! ### the law's cut to thirty -/
/-! ### IndexFunc, ContainsFunc -/
set_option maxRecDepth 100000 in
set_option maxHeartbeats 1600000 in
/-- slices.IndexFunc with a function that may change what it holds: P j where the first j were told no, Q behind the one that is told yes -/
theorem tlindex_found (v : Value) (gc : Nat) (cb : Array Value) (l : Qs) (s : Nat) (w : World) (P : Nat → World → Prop) (Q : World → Prop) (hs : s < l.length) (hn : l.length ≤ 100000) (hP : P 0 w) (hr : ∀ j x, P j x → QR x v l)
    (hcf : ∀ args w, (callFunc gc args).run Try.prog w = .ok (.enter gc args) w)
    (hno : ∀ (j : Nat) (h : j < s) (w' : World), P j w' → Calls Try.prog gc (#[.agg #[.int .i64 l[j].1, .int .i64 l[j].2]] ++ cb) w' fun e w'' => e = .returned (.bool false) ∧ P (j + 1) w'')
    (hyes : ∀ w' : World, P s w' → Calls Try.prog gc (#[.agg #[.int .i64 l[s].1, .int .i64 l[s].2]] ++ cb) w' fun e w'' => e = .returned (.bool true) ∧ Q w'') :
    Calls Try.prog 73 #[v, .func (.func gc) #[] cb] w fun e w' => e = .returned (.int .i64 (s : Int)) ∧ Q w' := by
  obtain ⟨A, cap, rfl, h2⟩ := (hr 0 w hP).form
  have HR := Lib.hid hr
  have HNo := Lib.hid hno
  have HYes := Lib.hid hyes
  have HP := Lib.hid hP
  obtain ⟨n, hnn⟩ : ∃ n, l.length = n := ⟨_, rfl⟩
  have HN := Lib.hid hnn
  rw [hnn] at h2 hn hs HR ⊢
  clear hnn hr hno hyes hP
  go_enter Try.func73, Try.ntmps73
  go_wp2_with fail
  go_loopg [8] n (fun k i wr => ∃ j : Nat, k = n - j ∧ j ≤ s ∧ i = .int .i64 j ∧ P j wr)
  case atStart => exact ⟨0, by omega, by omega, rfl, HP.out⟩
  case round =>
    obtain ⟨j, hk, hj, rfl, hp⟩ := hrel
    have lj : j < l.length := by rw [HN.out]; omega
    have hlt : j < n := by omega
    have q := HR.out j wr hp
    rw [← HN.out] at q
    obtain ⟨b, off, rfl, hb, c0, c1⟩ := q.at j lj
    have HPj := Lib.hid hp
    clear q hp
    by_cases he : j < s
    · have HD := Lib.hid (HNo.out j he wr HPj.out)
      generalize l[j] = x at *
      obtain ⟨f, t⟩ := x
      simp only at c0 c1 HD
      go_wp2_with fail
      refine HD.out.mono ?_
      rintro e w1 ⟨rfl, p1⟩
      have HP1 := Lib.hid p1
      clear p1
      go_wp2_with fail
      go_roundg (n - (j + 1))
      case measure => omega
      case rel => exact ⟨j + 1, rfl, he, by go_num, HP1.out⟩
    · obtain rfl : j = s := by omega
      have HD := Lib.hid (HYes.out wr HPj.out)
      generalize l[j] = x at *
      obtain ⟨f, t⟩ := x
      simp only at c0 c1 HD
      go_wp2_with fail
      refine HD.out.mono ?_
      rintro e w1 ⟨rfl, p1⟩
      have HP1 := Lib.hid p1
      clear p1
      go_wp2_with fail
      go_ret
      exact ⟨rfl, HP1.out⟩
set_option maxRecDepth 100000 in
set_option maxHeartbeats 1600000 in
theorem tlindex_none (v : Value) (gc : Nat) (cb : Array Value) (l : Qs) (w : World) (P : Nat → World → Prop) (hn : l.length ≤ 100000) (hP : P 0 w) (hr : ∀ j x, P j x → QR x v l)
    (hcf : ∀ args w, (callFunc gc args).run Try.prog w = .ok (.enter gc args) w)
    (hno : ∀ (j : Nat) (h : j < l.length) (w' : World), P j w' → Calls Try.prog gc (#[.agg #[.int .i64 l[j].1, .int .i64 l[j].2]] ++ cb) w' fun e w'' => e = .returned (.bool false) ∧ P (j + 1) w'') :
    Calls Try.prog 73 #[v, .func (.func gc) #[] cb] w fun e w' => e = .returned (.int .i64 (-1)) ∧ P l.length w' := by
  obtain ⟨A, cap, rfl, h2⟩ := (hr 0 w hP).form
  have HR := Lib.hid hr
  have HNo := Lib.hid hno
  have HP := Lib.hid hP
  obtain ⟨n, hnn⟩ : ∃ n, l.length = n := ⟨_, rfl⟩
  have HN := Lib.hid hnn
  rw [hnn] at h2 hn HR ⊢
  clear hnn hr hno hP
  go_enter Try.func73, Try.ntmps73
  go_wp2_with fail
  go_loopg [8] n (fun k i wr => ∃ j : Nat, k = n - j ∧ j ≤ n ∧ i = .int .i64 j ∧ P j wr)
  case atStart => exact ⟨0, by omega, by omega, rfl, HP.out⟩
  case round =>
    obtain ⟨j, hk, hj, rfl, hp⟩ := hrel
    have HPj := Lib.hid hp
    clear hp
    by_cases hlt : j < n
    · have lj : j < l.length := by rw [HN.out]; omega
      have q := HR.out j wr HPj.out
      rw [← HN.out] at q
      obtain ⟨b, off, rfl, hb, c0, c1⟩ := q.at j lj
      have HD := Lib.hid (HNo.out j lj wr HPj.out)
      clear q
      generalize l[j] = x at *
      obtain ⟨f, t⟩ := x
      simp only at c0 c1 HD
      go_wp2_with fail
      refine HD.out.mono ?_
      rintro e w1 ⟨rfl, p1⟩
      have HP1 := Lib.hid p1
      clear p1
      go_wp2_with fail
      go_roundg (n - (j + 1))
      case measure => omega
      case rel => exact ⟨j + 1, rfl, hlt, by go_num, HP1.out⟩
    · obtain rfl : j = n := by omega
      go_wp2_with fail
      go_ret
      exact ⟨rfl, HPj.out⟩
/-- a closure that answers whether p holds of a height -/
def TestsT (gc : Nat) (cb : Array Value) (p : Int × Int → Bool) : Prop := ∀ (b1 b2 : Int) (w' : World), Calls Try.prog gc (#[.agg #[.int .i64 b1, .int .i64 b2]] ++ cb) w' fun e w'' => e = .returned (.bool (p (b1, b2))) ∧ AnyLater w' w''
theorem tlindex_any (v : Value) (gc : Nat) (cb : Array Value) (p : Int × Int → Bool) (l : Qs) (c : Bool) (w : World) (hc : l.any p = c) (hv : QR w v l) (hn : l.length ≤ 100000)
    (hcf : ∀ args w, (callFunc gc args).run Try.prog w = .ok (.enter gc args) w) (hdo : TestsT gc cb p) :
    Calls Try.prog 73 #[v, .func (.func gc) #[] cb] w fun e w' => (∃ r : Int, e = .returned (.int .i64 r) ∧ decide (0 ≤ r) = c) ∧ AnyLater w w' := by
  cases c with
  | false =>
    refine (tlindex_none v gc cb l w (fun _ x => AnyLater w x) hn (AnyLater.refl w) (fun _ x a => hv.later a) hcf (fun j h w' a => ?_)).mono ?_
    · have hp : p l[j] = false := by
        have := List.any_eq_false.1 hc l[j] (List.getElem_mem h)
        simpa using this
      refine (hdo l[j].1 l[j].2 w').mono ?_
      rintro e w'' ⟨rfl, b⟩
      exact ⟨by rw [hp], a.trans b⟩
    · rintro e w' ⟨rfl, a⟩
      exact ⟨⟨_, rfl, rfl⟩, a⟩
  | true =>
    have hl : l.findIdx p < l.length := List.findIdx_lt_length_of_exists (by simpa using List.any_eq_true.1 hc)
    refine (tlindex_found v gc cb l (l.findIdx p) w (fun _ x => AnyLater w x) (fun x => AnyLater w x) hl hn (AnyLater.refl w) (fun _ x a => hv.later a) hcf (fun j h w' a => ?_) (fun w' a => ?_)).mono ?_
    · have hp : p l[j] = false := by simpa using List.not_of_lt_findIdx h
      refine (hdo l[j].1 l[j].2 w').mono ?_
      rintro e w'' ⟨rfl, b⟩
      exact ⟨by rw [hp], a.trans b⟩
    · have hp : p l[l.findIdx p] = true := List.findIdx_getElem (w := hl)
      refine (hdo l[l.findIdx p].1 l[l.findIdx p].2 w').mono ?_
      rintro e w'' ⟨rfl, b⟩
      exact ⟨by rw [hp], a.trans b⟩
    · rintro e w' ⟨rfl, a⟩
      exact ⟨⟨_, rfl, decide_eq_true (by omega)⟩, a⟩
set_option maxRecDepth 100000 in
theorem tlcontains_any (v : Value) (gc : Nat) (cb : Array Value) (p : Int × Int → Bool) (l : Qs) (c : Bool) (w : World) (hc : l.any p = c) (hv : QR w v l) (hn : l.length ≤ 100000)
    (hcf : ∀ args w, (callFunc gc args).run Try.prog w = .ok (.enter gc args) w) (hdo : TestsT gc cb p) :
    Calls Try.prog 62 #[v, .func (.func gc) #[] cb] w fun e w' => e = .returned (.bool c) ∧ AnyLater w w' := by
  have HX := Lib.hid (tlindex_any v gc cb p l c w hc hv hn hcf hdo)
  clear hv hdo hc hcf
  go_enter Try.func62, Try.ntmps62
  go_wp2_with fail
  refine HX.out.mono ?_
  rintro e w1 ⟨⟨r, rfl, hr⟩, b_w1⟩
  have HB := Lib.hid hr
  clear hr
  go_wp2_with fail
  go_ret
  exact ⟨ret_bool HB.out, b_w1⟩

/-! ### Clone -/
set_option maxRecDepth 100000 in
theorem tlclone_any (v : Value) (l : Qs) (w : World) (hv : QR w v l) (hl : l.length ≤ 190000) : Calls Try.prog 89 #[v] w (RowT w l) := by
  obtain ⟨u, w2, q1, q2, q3⟩ := copyQ pairTall hv hl
  have K1 := Lib.hid q1
  have K2 := Lib.hid (And.intro q2 q3)
  obtain ⟨A, cap, rfl, h2, h3⟩ := hv
  have hq := fun (w : World) (n : Nat) => Lib.run_eql_slice_nil (P := Try.prog) w 22 33 A n cap 0 0 Try.underlying22
  cases A with
  | none =>
    have h0 : l = [] := by
      cases l with
      | nil => rfl
      | cons x t => obtain ⟨b, off, e, _⟩ := h3 (by simp); cases e
    subst h0
    clear q1 q2 q3 h2 h3 K1 K2
    go_enter Try.func89, Try.ntmps89
    go_wp2_with fail
    go_ret
    exact ⟨_, rfl, AnyLater.refl _, OQ.nil _ _ _⟩
  | some ad =>
    clear q1 q2 q3 h2 h3
    generalize l.length = n at *
    go_enter Try.func89, Try.ntmps89
    go_wp2_with (at_builtin; refine Lib.wpList_append_run _ rfl _ _ _ _ rfl _ _ rfl rfl _ _ K1.out ?_)
    go_ret
    exact ⟨_, rfl, K2.out⟩

/-! ### Grow of none, Concat -/
/-- append of zeros onto nothing, cut down to none: a row of none -/
theorem tlzeroRow (w : World) (n : Nat) (h0 : 0 < n) (hn : n ≤ 300000) :
    ∃ g cap w2, (Builtin.append_ #[22, 3] 22 #[.slice none 0 0, .int .i64 (n : Int)]).run Try.prog w = .ok (.slice (some ⟨g, 0, none⟩) n cap) w2 ∧ AnyLater w w2 ∧ OQ 33 w2 w.heap.size (.slice (some ⟨g, 0, none⟩) 0 cap) [] := by
  obtain ⟨i0, hi0, hz0, hz1, hz2⟩ := info_parts pairTall.info
  have hcap := grownCap_ge w n 0 33
  have hcap2 := grownCap_le_maxLen w n 0 33 (by unfold maxLen; omega)
  refine ⟨_, _, _, Lib.run_append_nil_zeros (P := Try.prog) w 22 3 22 33 i0 (.agg #[.int .i64 0, .int .i64 0]) .i64 .i64 Try.underlying22 (by kernel_rfl) hi0 hz0 n h0 (by rw [hz1]; decide) (by omega) (by rw [hz2]; omega), ?_, rfl, .inr ⟨w.heap.size, _, _, rfl, Nat.le_refl _, heap_new rfl, Nat.zero_le _, hcap2, ?_, rfl⟩⟩
  · exact (((AnyLater.refl w).drewN 1).alloc _)
  · rw [Array.size_append, size_zeroCells, size_zeroCells]
    show n * 2 + (grownCap w n 0 33 - n) * 2 = _
    omega
set_option maxRecDepth 100000 in
theorem tlgrow_zero (w : World) : Calls Try.prog 90 #[.slice none 0 0, .int .i64 0] w (RowT w []) := by
  go_enter Try.func90, Try.ntmps90
  go_wp2_with fail
  go_ret
  exact ⟨_, rfl, AnyLater.refl _, OQ.nil _ _ _⟩
set_option maxRecDepth 100000 in
theorem tlgrow_some (n : Nat) (w : World) (h0 : 0 < n) (hn : n ≤ 300000) : Calls Try.prog 90 #[.slice none 0 0, .int .i64 n] w (RowT w []) := by
  obtain ⟨g, cap, w2, k1, k2, k3⟩ := tlzeroRow w n h0 hn
  have K1 := Lib.hid k1
  have HB := Lib.hid (And.intro k2 k3)
  clear k1 k2 k3
  go_enter Try.func90, Try.ntmps90
  go_wp2_with (at_builtin; refine Lib.wpList_append_run _ rfl _ _ _ _ rfl _ _ rfl rfl _ _ K1.out ?_)
  go_ret
  exact ⟨_, rfl, HB.out⟩
theorem tlgrow_any (n : Int) (w : World) (h0 : 0 ≤ n) (hn : n ≤ 300000) : Calls Try.prog 90 #[.slice none 0 0, .int .i64 n] w (RowT w []) := by
  obtain ⟨N, rfl⟩ := Int.eq_ofNat_of_zero_le h0
  rcases Nat.eq_zero_or_pos N with rfl | hp
  · exact tlgrow_zero w
  · exact tlgrow_some N w hp (by omega)
set_option maxRecDepth 100000 in
set_option maxHeartbeats 3200000 in
/-- slices.Concat of three lists of spans -/
theorem tlcat_three (g : Nat) (v1 v2 v3 : Value) (a b c : Qs) (w : World) (hg : g < w.heap.size) (c1 : w.cell? ⟨g, 0, none⟩ = some v1) (c2 : w.cell? ⟨g, 1, none⟩ = some v2) (c3 : w.cell? ⟨g, 2, none⟩ = some v3) (h1 : QR w v1 a) (h2 : QR w v2 b) (h3 : QR w v3 c) (hs : a.length + b.length + c.length ≤ 90000) :
    Calls Try.prog 81 #[.slice (some ⟨g, 0, none⟩) 3 3] w (RowT w (a ++ b ++ c)) := by
  have H1 := Lib.hid h1
  have H2 := Lib.hid h2
  have H3 := Lib.hid h3
  obtain ⟨A1, q1, rfl, _, _⟩ := h1
  obtain ⟨A2, q2, rfl, _, _⟩ := h2
  obtain ⟨A3, q3, rfl, _, _⟩ := h3
  have HC1 := Lib.hid c1
  have HC2 := Lib.hid c2
  have HC3 := Lib.hid c3
  have HG := Lib.hid (fun n w => tlgrow_any n w)
  have s1 : a.length ≤ 90000 := by omega
  have s2 : b.length ≤ 90000 := by omega
  have s3 : c.length ≤ 90000 := by omega
  go_enter Try.func81, Try.ntmps81
  go_wp2_with fail
  refine wp_loop_rounds 4 ?_
  rw [rounds_succ]
  go_wp2_with fail
  rw [rounds_succ]
  go_wp2_with fail
  rw [rounds_succ]
  go_wp2_with fail
  rw [rounds_succ]
  go_wp2_with fail
  refine (HG.out _ _ (by omega) (by omega)).mono ?_
  rintro e w1 ⟨x1, rfl, b1, o1⟩
  have HB1 := Lib.hid (And.intro b1 o1)
  clear b1 o1 c1 c2 c3
  obtain ⟨A9, q9, rfl, _, _⟩ := OQ.rq HB1.out.2
  go_wp2_with fail
  refine wp_loop_rounds 4 ?_
  rw [rounds_succ]
  have c1 : w1.cell? ⟨g, 0, none⟩ = some (.slice A1 a.length q1) := (HB1.out.1.below.cell hg).trans HC1.out
  obtain ⟨x2, w2, k1, k2, k3⟩ := appQ pairTall HB1.out.2 (H1.out.later HB1.out.1) HB1.out.1.below.size (by simp only [List.length_append, List.length_nil]; omega)
  have K1 := Lib.hid k1
  have HB2 := Lib.hid (And.intro (OQ.grown HB1.out.2 (Nat.le_refl _) HB1.out.1 k3) k2)
  clear k1 k2 k3
  go_wp2_with (at_builtin; refine Lib.wpList_append_run _ rfl _ _ _ _ rfl _ _ rfl rfl _ _ K1.out ?_)
  rw [rounds_succ]
  have c2 : w2.cell? ⟨g, 1, none⟩ = some (.slice A2 b.length q2) := (HB2.out.1.below.cell hg).trans HC2.out
  obtain ⟨x3, w3, k1, k2, k3⟩ := appQ pairTall HB2.out.2 (H2.out.later HB2.out.1) HB2.out.1.below.size (by simp only [List.length_append, List.length_nil]; omega)
  have K2 := Lib.hid k1
  have HB3 := Lib.hid (And.intro (OQ.grown HB2.out.2 (Nat.le_refl _) HB2.out.1 k3) k2)
  clear k1 k2 k3
  go_wp2_with (at_builtin; refine Lib.wpList_append_run _ rfl _ _ _ _ rfl _ _ rfl rfl _ _ K2.out ?_)
  rw [rounds_succ]
  have c3 : w3.cell? ⟨g, 2, none⟩ = some (.slice A3 c.length q3) := (HB3.out.1.below.cell hg).trans HC3.out
  obtain ⟨x4, w4, k1, k2, k3⟩ := appQ pairTall HB3.out.2 (H3.out.later HB3.out.1) HB3.out.1.below.size (by simp only [List.length_append, List.length_nil]; omega)
  have K3 := Lib.hid k1
  have HB4 := Lib.hid (And.intro (OQ.grown HB3.out.2 (Nat.le_refl _) HB3.out.1 k3) k2)
  clear k1 k2 k3
  go_wp2_with (at_builtin; refine Lib.wpList_append_run _ rfl _ _ _ _ rfl _ _ rfl rfl _ _ K3.out ?_)
  rw [rounds_succ]
  go_wp2_with fail
  go_ret
  exact ⟨_, rfl, HB4.out⟩
end Go.Proofs.Ytjoadlfkdkeomaa
