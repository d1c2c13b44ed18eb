/- what the proof stands on: SeqL SeqG SeqH -/
import Derived.Lib.AppendZeros
import Derived.Lib.SliceRun
import Derived.Test.YtamhnffokoejjaaGreatDoorKnas
import Derived.LoopN
import Derived.Deep.LoopGhost
import Derived.BigRegion
import Derived.RegionTactic
import Derived.Test.YtamhnffokoejjaaGreatDoorKnad
namespace Go.Proofs.YtamhnffokoejjaaGreatDoor
set_option linter.unusedSimpArgs false
set_option linter.unusedVariables false
set_option linter.unusedSectionVars false
open Go.RowKit
def RowT (W : World) (l : Qs) (e : Ending) (w' : World) : Prop := ∃ v, e = .returned v ∧ AnyLater W w' ∧ OQ 61 w' W.heap.size v l
set_option maxRecDepth 100000 in
set_option maxHeartbeats 1600000 in
theorem tlindex_found (v : Value) (gc : Nat) (cb : Array Value) (l : Qs) (s : Nat) (w : World) (P : Nat → World → Prop) (Q : World → Prop) (hs : s < l.length) (hn : l.length ≤ 100000) (hP : P 0 w) (hr : ∀ j x, P j x → QR x v l)
    (hcf : ∀ args w, (callFunc gc args).run Tryz.prog w = .ok (.enter gc args) w)
    (hno : ∀ (j : Nat) (h : j < s) (w' : World), P j w' → Calls Tryz.prog gc (#[.agg #[.int .i64 l[j].1, .int .i64 l[j].2]] ++ cb) w' fun e w'' => e = .returned (.bool false) ∧ P (j + 1) w'')
    (hyes : ∀ w' : World, P s w' → Calls Tryz.prog gc (#[.agg #[.int .i64 l[s].1, .int .i64 l[s].2]] ++ cb) w' fun e w'' => e = .returned (.bool true) ∧ Q w'') :
    Calls Tryz.prog 208 #[v, .func (.func gc) #[] cb] w fun e w' => e = .returned (.int .i64 (s : Int)) ∧ Q w' := by
  obtain ⟨A, cap, rfl, h2⟩ := (hr 0 w hP).form
  have HR := Lib.hid hr
  have HNo := Lib.hid hno
  have HYes := Lib.hid hyes
  have HP := Lib.hid hP
  obtain ⟨n, hnn⟩ : ∃ n, l.length = n := ⟨_, rfl⟩
  have HN := Lib.hid hnn
  rw [hnn] at h2 hn hs HR ⊢
  clear hnn hr hno hyes hP
  go_enter Tryz.func208, Tryz.ntmps208
  go_wp2_with fail
  go_loopg [8] n (fun k i wr => ∃ j : Nat, k = n - j ∧ j ≤ s ∧ i = .int .i64 j ∧ P j wr)
  case atStart => exact ⟨0, by omega, by omega, rfl, HP.out⟩
  case round =>
    obtain ⟨j, hk, hj, rfl, hp⟩ := hrel
    have lj : j < l.length := by rw [HN.out]; omega
    have hlt : j < n := by omega
    have q := HR.out j wr hp
    rw [← HN.out] at q
    obtain ⟨b, off, rfl, hb, c0, c1⟩ := q.at j lj
    have HPj := Lib.hid hp
    clear q hp
    by_cases he : j < s
    · have HD := Lib.hid (HNo.out j he wr HPj.out)
      generalize l[j] = x at *
      obtain ⟨f, t⟩ := x
      simp only at c0 c1 HD
      go_wp2_with fail
      refine HD.out.mono ?_
      rintro e w1 ⟨rfl, p1⟩
      have HP1 := Lib.hid p1
      clear p1
      go_wp2_with fail
      go_roundg (n - (j + 1))
      case measure => omega
      case rel => exact ⟨j + 1, rfl, he, by go_num, HP1.out⟩
    · obtain rfl : j = s := by omega
      have HD := Lib.hid (HYes.out wr HPj.out)
      generalize l[j] = x at *
      obtain ⟨f, t⟩ := x
      simp only at c0 c1 HD
      go_wp2_with fail
      refine HD.out.mono ?_
      rintro e w1 ⟨rfl, p1⟩
      have HP1 := Lib.hid p1
      clear p1
      go_wp2_with fail
      go_ret
      exact ⟨rfl, HP1.out⟩
set_option maxRecDepth 100000 in
set_option maxHeartbeats 1600000 in
theorem tlindex_none (v : Value) (gc : Nat) (cb : Array Value) (l : Qs) (w : World) (P : Nat → World → Prop) (hn : l.length ≤ 100000) (hP : P 0 w) (hr : ∀ j x, P j x → QR x v l)
    (hcf : ∀ args w, (callFunc gc args).run Tryz.prog w = .ok (.enter gc args) w)
    (hno : ∀ (j : Nat) (h : j < l.length) (w' : World), P j w' → Calls Tryz.prog gc (#[.agg #[.int .i64 l[j].1, .int .i64 l[j].2]] ++ cb) w' fun e w'' => e = .returned (.bool false) ∧ P (j + 1) w'') :
    Calls Tryz.prog 208 #[v, .func (.func gc) #[] cb] w fun e w' => e = .returned (.int .i64 (-1)) ∧ P l.length w' := by
  obtain ⟨A, cap, rfl, h2⟩ := (hr 0 w hP).form
  have HR := Lib.hid hr
  have HNo := Lib.hid hno
  have HP := Lib.hid hP
  obtain ⟨n, hnn⟩ : ∃ n, l.length = n := ⟨_, rfl⟩
  have HN := Lib.hid hnn
  rw [hnn] at h2 hn HR ⊢
  clear hnn hr hno hP
  go_enter Tryz.func208, Tryz.ntmps208
  go_wp2_with fail
  go_loopg [8] n (fun k i wr => ∃ j : Nat, k = n - j ∧ j ≤ n ∧ i = .int .i64 j ∧ P j wr)
  case atStart => exact ⟨0, by omega, by omega, rfl, HP.out⟩
  case round =>
    obtain ⟨j, hk, hj, rfl, hp⟩ := hrel
    have HPj := Lib.hid hp
    clear hp
    by_cases hlt : j < n
    · have lj : j < l.length := by rw [HN.out]; omega
      have q := HR.out j wr HPj.out
      rw [← HN.out] at q
      obtain ⟨b, off, rfl, hb, c0, c1⟩ := q.at j lj
      have HD := Lib.hid (HNo.out j lj wr HPj.out)
      clear q
      generalize l[j] = x at *
      obtain ⟨f, t⟩ := x
      simp only at c0 c1 HD
      go_wp2_with fail
      refine HD.out.mono ?_
      rintro e w1 ⟨rfl, p1⟩
      have HP1 := Lib.hid p1
      clear p1
      go_wp2_with fail
      go_roundg (n - (j + 1))
      case measure => omega
      case rel => exact ⟨j + 1, rfl, hlt, by go_num, HP1.out⟩
    · obtain rfl : j = n := by omega
      go_wp2_with fail
      go_ret
      exact ⟨rfl, HPj.out⟩
def TestsT (gc : Nat) (cb : Array Value) (p : Int × Int → Bool) : Prop := ∀ (b1 b2 : Int) (w' : World), Calls Tryz.prog gc (#[.agg #[.int .i64 b1, .int .i64 b2]] ++ cb) w' fun e w'' => e = .returned (.bool (p (b1, b2))) ∧ AnyLater w' w''
theorem tlindex_any (v : Value) (gc : Nat) (cb : Array Value) (p : Int × Int → Bool) (l : Qs) (c : Bool) (w : World) (hc : l.any p = c) (hv : QR w v l) (hn : l.length ≤ 100000)
    (hcf : ∀ args w, (callFunc gc args).run Tryz.prog w = .ok (.enter gc args) w) (hdo : TestsT gc cb p) :
    Calls Tryz.prog 208 #[v, .func (.func gc) #[] cb] w fun e w' => (∃ r : Int, e = .returned (.int .i64 r) ∧ decide (0 ≤ r) = c) ∧ AnyLater w w' := by
  cases c with
  | false =>
    refine (tlindex_none v gc cb l w (fun _ x => AnyLater w x) hn (AnyLater.refl w) (fun _ x a => hv.later a) hcf (fun j h w' a => ?_)).mono ?_
    · have hp : p l[j] = false := by
        have := List.any_eq_false.1 hc l[j] (List.getElem_mem h)
        simpa using this
      refine (hdo l[j].1 l[j].2 w').mono ?_
      rintro e w'' ⟨rfl, b⟩
      exact ⟨by rw [hp], a.trans b⟩
    · rintro e w' ⟨rfl, a⟩
      exact ⟨⟨_, rfl, rfl⟩, a⟩
  | true =>
    have hl : l.findIdx p < l.length := List.findIdx_lt_length_of_exists (by simpa using List.any_eq_true.1 hc)
    refine (tlindex_found v gc cb l (l.findIdx p) w (fun _ x => AnyLater w x) (fun x => AnyLater w x) hl hn (AnyLater.refl w) (fun _ x a => hv.later a) hcf (fun j h w' a => ?_) (fun w' a => ?_)).mono ?_
    · have hp : p l[j] = false := by simpa using List.not_of_lt_findIdx h
      refine (hdo l[j].1 l[j].2 w').mono ?_
      rintro e w'' ⟨rfl, b⟩
      exact ⟨by rw [hp], a.trans b⟩
    · have hp : p l[l.findIdx p] = true := List.findIdx_getElem (w := hl)
      refine (hdo l[l.findIdx p].1 l[l.findIdx p].2 w').mono ?_
      rintro e w'' ⟨rfl, b⟩
      exact ⟨by rw [hp], a.trans b⟩
    · rintro e w' ⟨rfl, a⟩
      exact ⟨⟨_, rfl, decide_eq_true (by omega)⟩, a⟩
set_option maxRecDepth 100000 in
theorem tlcontains_any (v : Value) (gc : Nat) (cb : Array Value) (p : Int × Int → Bool) (l : Qs) (c : Bool) (w : World) (hc : l.any p = c) (hv : QR w v l) (hn : l.length ≤ 100000)
    (hcf : ∀ args w, (callFunc gc args).run Tryz.prog w = .ok (.enter gc args) w) (hdo : TestsT gc cb p) :
    Calls Tryz.prog 220 #[v, .func (.func gc) #[] cb] w fun e w' => e = .returned (.bool c) ∧ AnyLater w w' := by
  have HX := Lib.hid (tlindex_any v gc cb p l c w hc hv hn hcf hdo)
  clear hv hdo hc hcf
  go_enter Tryz.func220, Tryz.ntmps220
  go_wp2_with fail
  refine HX.out.mono ?_
  rintro e w1 ⟨⟨r, rfl, hr⟩, b_w1⟩
  have HB := Lib.hid hr
  clear hr
  go_wp2_with fail
  go_ret
  exact ⟨ret_bool HB.out, b_w1⟩
set_option maxRecDepth 100000 in
theorem tlclone_any (v : Value) (l : Qs) (w : World) (hv : QR w v l) (hl : l.length ≤ 190000) : Calls Tryz.prog 275 #[v] w (RowT w l) := by
  obtain ⟨u, w2, q1, q2, q3⟩ := copyQ pairTall hv hl
  have K1 := Lib.hid q1
  have K2 := Lib.hid (And.intro q2 q3)
  obtain ⟨A, cap, rfl, h2, h3⟩ := hv
  have hq := fun (w : World) (n : Nat) => Lib.run_eql_slice_nil (P := Tryz.prog) w 84 61 A n cap 0 0 Tryz.underlying84
  cases A with
  | none =>
    have h0 : l = [] := by
      cases l with
      | nil => rfl
      | cons x t => obtain ⟨b, off, e, _⟩ := h3 (by simp); cases e
    subst h0
    clear q1 q2 q3 h2 h3 K1 K2
    go_enter Tryz.func275, Tryz.ntmps275
    go_wp2_with fail
    go_ret
    exact ⟨_, rfl, AnyLater.refl _, OQ.nil _ _ _⟩
  | some ad =>
    clear q1 q2 q3 h2 h3
    generalize l.length = n at *
    go_enter Tryz.func275, Tryz.ntmps275
    go_wp2_with (at_builtin; refine Lib.wpList_append_run _ rfl _ _ _ _ rfl _ _ rfl rfl _ _ K1.out ?_)
    go_ret
    exact ⟨_, rfl, K2.out⟩
theorem tlzeroRow (w : World) (n : Nat) (h0 : 0 < n) (hn : n ≤ 300000) :
    ∃ g cap w2, (Builtin.append_ #[84, 3] 84 #[.slice none 0 0, .int .i64 (n : Int)]).run Tryz.prog w = .ok (.slice (some ⟨g, 0, none⟩) n cap) w2 ∧ AnyLater w w2 ∧ OQ 61 w2 w.heap.size (.slice (some ⟨g, 0, none⟩) 0 cap) [] := by
  obtain ⟨i0, hi0, hz0, hz1, hz2⟩ := info_parts pairTall.info
  have hcap := grownCap_ge w n 0 61
  have hcap2 := grownCap_le_maxLen w n 0 61 (by unfold maxLen; omega)
  refine ⟨_, _, _, Lib.run_append_nil_zeros (P := Tryz.prog) w 84 3 84 61 i0 (.agg #[.int .i64 0, .int .i64 0]) .i64 .i64 Tryz.underlying84 (by kernel_rfl) hi0 hz0 n h0 (by rw [hz1]; decide) (by omega) (by rw [hz2]; omega), ?_, rfl, .inr ⟨w.heap.size, _, _, rfl, Nat.le_refl _, heap_new rfl, Nat.zero_le _, hcap2, ?_, rfl⟩⟩
  · exact (((AnyLater.refl w).drewN 1).alloc _)
  · rw [Array.size_append, size_zeroCells, size_zeroCells]
    show n * 2 + (grownCap w n 0 61 - n) * 2 = _
    omega
set_option maxRecDepth 100000 in
theorem tlgrow_zero (w : World) : Calls Tryz.prog 276 #[.slice none 0 0, .int .i64 0] w (RowT w []) := by
  go_enter Tryz.func276, Tryz.ntmps276
  go_wp2_with fail
  go_ret
  exact ⟨_, rfl, AnyLater.refl _, OQ.nil _ _ _⟩
set_option maxRecDepth 100000 in
theorem tlgrow_some (n : Nat) (w : World) (h0 : 0 < n) (hn : n ≤ 300000) : Calls Tryz.prog 276 #[.slice none 0 0, .int .i64 n] w (RowT w []) := by
  obtain ⟨g, cap, w2, k1, k2, k3⟩ := tlzeroRow w n h0 hn
  have K1 := Lib.hid k1
  have HB := Lib.hid (And.intro k2 k3)
  clear k1 k2 k3
  go_enter Tryz.func276, Tryz.ntmps276
  go_wp2_with (at_builtin; refine Lib.wpList_append_run _ rfl _ _ _ _ rfl _ _ rfl rfl _ _ K1.out ?_)
  go_ret
  exact ⟨_, rfl, HB.out⟩
theorem tlgrow_any (n : Int) (w : World) (h0 : 0 ≤ n) (hn : n ≤ 300000) : Calls Tryz.prog 276 #[.slice none 0 0, .int .i64 n] w (RowT w []) := by
  obtain ⟨N, rfl⟩ := Int.eq_ofNat_of_zero_le h0
  rcases Nat.eq_zero_or_pos N with rfl | hp
  · exact tlgrow_zero w
  · exact tlgrow_some N w hp (by omega)
set_option maxRecDepth 100000 in
set_option maxHeartbeats 3200000 in
theorem tlcat_three (g : Nat) (v1 v2 v3 : Value) (a b c : Qs) (w : World) (hg : g < w.heap.size) (c1 : w.cell? ⟨g, 0, none⟩ = some v1) (c2 : w.cell? ⟨g, 1, none⟩ = some v2) (c3 : w.cell? ⟨g, 2, none⟩ = some v3) (h1 : QR w v1 a) (h2 : QR w v2 b) (h3 : QR w v3 c) (hs : a.length + b.length + c.length ≤ 90000) :
    Calls Tryz.prog 256 #[.slice (some ⟨g, 0, none⟩) 3 3] w (RowT w (a ++ b ++ c)) := by
  have H1 := Lib.hid h1
  have H2 := Lib.hid h2
  have H3 := Lib.hid h3
  obtain ⟨A1, q1, rfl, _, _⟩ := h1
  obtain ⟨A2, q2, rfl, _, _⟩ := h2
  obtain ⟨A3, q3, rfl, _, _⟩ := h3
  have HC1 := Lib.hid c1
  have HC2 := Lib.hid c2
  have HC3 := Lib.hid c3
  have HG := Lib.hid (fun n w => tlgrow_any n w)
  have s1 : a.length ≤ 90000 := by omega
  have s2 : b.length ≤ 90000 := by omega
  have s3 : c.length ≤ 90000 := by omega
  go_enter Tryz.func256, Tryz.ntmps256
  go_wp2_with fail
  refine wp_loop_rounds 4 ?_
  rw [rounds_succ]
  go_wp2_with fail
  rw [rounds_succ]
  go_wp2_with fail
  rw [rounds_succ]
  go_wp2_with fail
  rw [rounds_succ]
  go_wp2_with fail
  refine (HG.out _ _ (by omega) (by omega)).mono ?_
  rintro e w1 ⟨x1, rfl, b1, o1⟩
  have HB1 := Lib.hid (And.intro b1 o1)
  clear b1 o1 c1 c2 c3
  obtain ⟨A9, q9, rfl, _, _⟩ := OQ.rq HB1.out.2
  go_wp2_with fail
  refine wp_loop_rounds 4 ?_
  rw [rounds_succ]
  have c1 : w1.cell? ⟨g, 0, none⟩ = some (.slice A1 a.length q1) := (HB1.out.1.below.cell hg).trans HC1.out
  obtain ⟨x2, w2, k1, k2, k3⟩ := appQ pairTall HB1.out.2 (H1.out.later HB1.out.1) HB1.out.1.below.size (by simp only [List.length_append, List.length_nil]; omega)
  have K1 := Lib.hid k1
  have HB2 := Lib.hid (And.intro (OQ.grown HB1.out.2 (Nat.le_refl _) HB1.out.1 k3) k2)
  clear k1 k2 k3
  go_wp2_with (at_builtin; refine Lib.wpList_append_run _ rfl _ _ _ _ rfl _ _ rfl rfl _ _ K1.out ?_)
  rw [rounds_succ]
  have c2 : w2.cell? ⟨g, 1, none⟩ = some (.slice A2 b.length q2) := (HB2.out.1.below.cell hg).trans HC2.out
  obtain ⟨x3, w3, k1, k2, k3⟩ := appQ pairTall HB2.out.2 (H2.out.later HB2.out.1) HB2.out.1.below.size (by simp only [List.length_append, List.length_nil]; omega)
  have K2 := Lib.hid k1
  have HB3 := Lib.hid (And.intro (OQ.grown HB2.out.2 (Nat.le_refl _) HB2.out.1 k3) k2)
  clear k1 k2 k3
  go_wp2_with (at_builtin; refine Lib.wpList_append_run _ rfl _ _ _ _ rfl _ _ rfl rfl _ _ K2.out ?_)
  rw [rounds_succ]
  have c3 : w3.cell? ⟨g, 2, none⟩ = some (.slice A3 c.length q3) := (HB3.out.1.below.cell hg).trans HC3.out
  obtain ⟨x4, w4, k1, k2, k3⟩ := appQ pairTall HB3.out.2 (H3.out.later HB3.out.1) HB3.out.1.below.size (by simp only [List.length_append, List.length_nil]; omega)
  have K3 := Lib.hid k1
  have HB4 := Lib.hid (And.intro (OQ.grown HB3.out.2 (Nat.le_refl _) HB3.out.1 k3) k2)
  clear k1 k2 k3
  go_wp2_with (at_builtin; refine Lib.wpList_append_run _ rfl _ _ _ _ rfl _ _ rfl rfl _ _ K3.out ?_)
  rw [rounds_succ]
  go_wp2_with fail
  go_ret
  exact ⟨_, rfl, HB4.out⟩
end Go.Proofs.YtamhnffokoejjaaGreatDoor
namespace Go.Proofs.YtamhnffokoejjaaGreatDoor
set_option linter.unusedSimpArgs false
set_option linter.unusedVariables false
set_option linter.unusedSectionVars false
open Go.RowKit
variable {B : Nat}
theorem OQ.block {t : TypeId} {w : World} {B : Nat} {v : Value} {l : Qs} (h : OQ t w B v l) (h0 : 0 < l.length) : ∃ g cap, v = .slice (some ⟨g, 0, none⟩) l.length cap ∧ B ≤ g := by
  rcases h.2 with ⟨_, e⟩ | ⟨g, cap, cur, e, h2, _⟩
  · omega
  · exact ⟨g, cap, e, h2⟩
def isBuilt (W : World) (l : Qs) (v : Value) (w : World) : Prop := ∃ T : Ht, isH W.heap.size T v w ∧ T.hs = l ∧ T.Fine ∧ T.lev = bldL l.length ∧ T.bks.Nodup ∧ ∀ b ∈ T.bks, W.heap.size ≤ b
theorem isBuilt.wide {W V : World} {l : Qs} {v : Value} {w : World} (s : isBuilt W l v w) (h : V.heap.size ≤ W.heap.size) : isBuilt V l v w := by
  obtain ⟨T, h1, h2, h3, h4, h5, h6⟩ := s
  exact ⟨T, h1.mono h, h2, h3, h4, h5, fun b hb => Nat.le_trans h (h6 b hb)⟩
set_option maxRecDepth 100000 in
theorem hbuild_none (A : Option Addr) (cap : Nat) (w : World) : Calls Tryz.prog 255 #[.slice A 0 cap] w (HAns (isBuilt w []) w) := by
  have HB : Hid (isBuilt w [] (.pointer none) w) := Lib.hid ⟨.nil, isH_none (Nat.le_refl _), rfl, Ht.Fine.nil, by rw [show ([] : Qs).length = 0 from rfl, bldL]; rfl, List.nodup_nil, fun b hb => by cases hb⟩
  go_enter Tryz.func255, Tryz.ntmps255
  go_wp2_with fail
  go_ret
  exact ⟨_, rfl, AnyLater.refl _, HB.out⟩
set_option maxRecDepth 100000 in
theorem hbuild_leaf (v : Value) (l : Qs) (w : World) (hv : QR w v l) (h0 : 0 < l.length) (hl : l.length ≤ 32) (hT : Tls l) : Calls Tryz.prog 255 #[v] w (HAns (isBuilt w l) w) := by
  have HC := Lib.hid (tlclone_any v l w hv (by omega))
  have HN := Lib.hid (fun (w' : World) (u : Value) (o : OQ 61 w' w.heap.size u l) => noted_leaf u l w' (OQ.rq o) (by omega) hT)
  have HE : Hid (∀ (w1 w2 : World) (u : Value) (g : Nat), OQ 61 w1 w.heap.size u l → AnyLater w w1 → w1.heap.size ≤ g → AnyLater w1 w2 → w2.heap[g]? = some (.cells #[.pointer none, .pointer none, u, .int .i64 (l.length : Int), .int .i64 (tlR l), .int .i64 (tlH l), .int .i64 1] 249) → isBuilt w l (.pointer (some ⟨g, 0, none⟩)) w2) := Lib.hid (fun w1 w2 u g o a0 hlg a hg => by
    obtain ⟨b, cap, rfl, hb⟩ := OQ.block o h0
    exact ⟨.leaf b l, ⟨(a0.trans a).below.size, _, ⟨g, cap, rfl, rfl, hg, OQ.wide (Nat.zero_le _) (OQ.later a o)⟩, fun x hx => by
      rcases List.mem_cons.1 hx with rfl | hx
      · exact Nat.le_trans a0.below.size hlg
      · obtain rfl : x = b := by simpa using hx
        exact hb⟩, rfl, ⟨trivial, h0⟩, (bldL_some h0 hl).symm, by simp [Ht.bks], fun x hx => by
      obtain rfl : x = b := by simpa [Ht.bks] using hx
      exact hb⟩)
  obtain ⟨A, cap, rfl, -⟩ := hv.form
  have HL : Hid (∀ u w1, OQ 61 w1 w.heap.size u l → ∃ A cap, u = .slice A l.length cap) := Lib.hid (fun u w1 o => by obtain ⟨A, cap, e, _⟩ := OQ.form o; exact ⟨A, cap, e⟩)
  have hne : decide (l.length = 0) = false := decide_eq_false (by omega)
  have h1 : ((l.length : Int) == 0) = false := by simp; intro h; rw [h] at h0; simp at h0
  have h2 : (l.length : Int) ≤ 32 := by omega
  clear hv hT
  generalize l.length = n at *
  go_enter Tryz.func255, Tryz.ntmps255
  go_wp2_with fail
  refine HC.out.mono ?_
  rintro e w1 ⟨u, rfl, b1, o1⟩
  have HO := Lib.hid (And.intro b1 o1)
  clear b1 o1
  obtain ⟨A2, cap2, rfl⟩ := HL.out u w1 HO.out.2
  go_wp2_with fail
  refine (HN.out w1 _ HO.out.2).mono ?_
  rintro e w2 ⟨g, rfl, hlg, b2, hg⟩
  have HG := Lib.hid (And.intro (HO.out.1.trans b2) (HE.out w1 w2 _ g HO.out.2 HO.out.1 hlg b2 hg))
  clear b2 hg hlg
  go_wp2_with fail
  go_ret
  exact ⟨_, rfl, HG.out.1, HG.out.2⟩
def halves (W : World) (a b : Qs) (x y : Value) (w : World) : Prop := ∃ S T : Ht, isH W.heap.size S x w ∧ isH W.heap.size T y w ∧ S.hs = a ∧ T.hs = b ∧ S.Fine ∧ T.Fine ∧ S.lev = bldL a.length ∧ T.lev = bldL b.length ∧ (S.bks ++ T.bks).Nodup ∧ ∀ b ∈ S.bks ++ T.bks, W.heap.size ≤ b
theorem halves_of {W w w' : World} {a b : Qs} {x y : Value} (hW : AnyLater W w) (h : isBuilt W a x w) (k : isBuilt w b y w') (hl : AnyLater w w') : halves W a b x y w' := by
  obtain ⟨S, h1, h2, h3, h4, h5, h6⟩ := h
  obtain ⟨T, k1, k2, k3, k4, k5, k6⟩ := k
  refine ⟨S, T, isH_stays hl h1, k1.mono hW.below.size, h2, k2, h3, k3, h4, k4, ?_, ?_⟩
  · refine List.nodup_append.2 ⟨h5, k5, fun p hp q hq e => ?_⟩
    obtain ⟨_, F, hF, _⟩ := h1
    have q1 := own_lt (hF.rows p hp).2.choose_spec
    have q2 := k6 q hq
    omega
  · intro p hp
    rcases List.mem_append.1 hp with hp | hp
    · exact h6 p hp
    · exact Nat.le_trans hW.below.size (k6 p hp)
def stB (W : World) (a b : Qs) : Nat → (Nat → Value) → World → Prop
  | 0, _, _ => True
  | 1, g, x => isBuilt W a (g 3) x
  | 2, g, x => halves W a b (g 3) (g 7) x
  | _, g, x => isBuilt W (a ++ b) (g 8) x
def HBuilds (n : Nat) : Prop := ∀ (v : Value) (l : Qs) (w : World), l.length ≤ n → QR w v l → l.length ≤ 90000 → Tls l → Calls Tryz.prog 255 #[v] w (HAns (isBuilt w l) w)
set_option maxRecDepth 100000 in
set_option maxHeartbeats 1600000 in
theorem hbuild_many (N : Nat) (ih : HBuilds N) (v : Value) (l : Qs) (w : World) (hN : l.length ≤ N + 1) (hv : QR w v l) (h0 : 32 < l.length) (hl : l.length ≤ 90000) (hT : Tls l) : Calls Tryz.prog 255 #[v] w (HAns (isBuilt w l) w) := by
  obtain ⟨h, hh⟩ : ∃ h, l.length / 2 = h := ⟨_, rfl⟩
  have lt : (l.take h).length = h := by rw [List.length_take]; omega
  have ld : (l.drop h).length = l.length - h := List.length_drop
  have eq1 : l.take h ++ l.drop h = l := List.take_append_drop ..
  obtain ⟨A1, cap1, q1, k1⟩ := hv.uptoQ pairTall h (by omega)
  obtain ⟨u2, q2, k2⟩ := hv.cutQ pairTall h (by omega)
  have HB1 := Lib.hid (fun (w' : World) (a : AnyLater w w') => ih (.slice A1 h cap1) (l.take h) w' (by omega) (q1.later a) (by omega) (hT.take h))
  have HB2 := Lib.hid (fun (w' : World) (a : AnyLater w w') => ih u2 (l.drop h) w' (by omega) (q2.later a) (by omega) (hT.drop h))
  have HT : Hid (∀ (x : World) (u y : Value), AnyLater w x → halves w (l.take h) (l.drop h) u y x → Calls Tryz.prog 273 #[u, y] x (HAns (isBuilt w (l.take h ++ l.drop h)) x)) := Lib.hid (fun x u y a ⟨S, T, s1, t1, s2, t2, s3, t3, s4, t4, d1, d2⟩ => by
    have n1 : S ≠ .nil := fun e => by rw [e] at s2; simp only [Ht.hs] at s2; rw [← s2] at lt; simp at lt; omega
    have n2 : T ≠ .nil := fun e => by rw [e] at t2; simp only [Ht.hs] at t2; rw [← t2] at ld; simp at ld; omega
    have hb := bldL_half (n := l.length)
    rw [hh] at hb
    rw [lt] at s4
    rw [ld] at t4
    refine (htie_any S T u y x s1 t1 ⟨⟨n1, n2, s3.2, t3.2⟩, by rw [Ht.hs, s2, t2, eq1]; exact hT, by rw [Ht.hs, s2, t2, eq1]; exact hl⟩).mono ?_
    rintro e x' ⟨z, rfl, b, hz⟩
    refine ⟨z, rfl, b, .node S T, hz, by rw [Ht.hs, s2, t2], ⟨⟨by omega, by omega, s3.1, t3.1⟩, n1, n2, s3.2, t3.2⟩, ?_, d1, d2⟩
    rw [Ht.lev, eq1, bldL_many h0, hh]
    omega)
  obtain ⟨A, cap, rfl, -⟩ := hv.form
  obtain ⟨A2, cap2, rfl, -⟩ := q2.form
  rw [ld] at HB2 k2
  rw [eq1] at HT
  have HE := Lib.hid eq1
  have h1 : ((l.length : Int) == 0) = false := by simp; intro h; rw [h] at h0; simp at h0
  have h2 : decide ((l.length : Int) ≤ 32) = false := decide_eq_false (by omega)
  have h3 : (l.length : Int) / 2 = (h : Int) := by omega
  have h4 : h ≤ l.length := by omega
  clear hv hT ih q1 q2 lt ld eq1 h0 hN hh
  generalize hn : l.length = n at *
  clear hn
  obtain ⟨a, ha⟩ : ∃ a, l.take h = a := ⟨_, rfl⟩
  obtain ⟨b, hb⟩ : ∃ b, l.drop h = b := ⟨_, rfl⟩
  rw [ha] at HB1 HT HE
  rw [hb] at HB2 HT HE
  clear ha hb
  go_enter Tryz.func255, Tryz.ntmps255
  go_wp2_with fail
  apply wp_region_chain 9 [(3, undef), (7, undef), (8, undef)] [⟨3, 10, fun _ _ => True⟩, ⟨7, 14, fun _ _ => True⟩, ⟨8, 15, fun _ _ => True⟩] (AnyLater w) (stB w a b) (by kernel_rfl) (by kernel_rfl) (by kernel_rfl) (by simp) (by kernel_rfl) (AnyLater.refl w).drew (fun _ => trivial)
  case hlex =>
    intro U hU
    simp only [actFrom, actOp, List.lookup, Nat.reduceBEq, Nat.reduceLeDiff, Nat.reduceAdd, if_false, if_true]
    repeat (go_big_quiet_step (fail))
    exact wpQuiet_nil rfl
  case hact =>
    intro i hi o ho
    have hj3 : i = 0 ∨ i = 1 ∨ i = 2 := by simp at hi; omega
    rcases hj3 with rfl | rfl | rfl
    · cases ho
      refine ⟨rfl, fun g x hC hS => ?_⟩
      simp only [fillAll, Act.put, List.setIfInBounds_toArray, List.set_cons_zero, List.set_cons_succ]
      refine chain_go ?_ ((HB1.out x hC).mono fun e x' ⟨u, h1, h2, h3⟩ => ⟨u, h1, hC.trans h2, .inl ⟨_, List.mem_of_getElem? (i := 0) rfl, rfl⟩, h3.wide hC.below.size⟩)
      simp [go_sem, execOp]
    · cases ho
      refine ⟨rfl, fun g x hC hS => ?_⟩
      have hS2 : isBuilt w a (g 3) x := hS
      simp only [fillAll, Act.put, List.setIfInBounds_toArray, List.set_cons_zero, List.set_cons_succ]
      refine chain_go ?_ ((HB2.out x hC).mono fun e x' ⟨u, h1, h2, h3⟩ => ⟨u, h1, hC.trans h2, .inl ⟨_, List.mem_of_getElem? (i := 1) rfl, rfl⟩, halves_of hC hS2 h3 h2⟩)
      simp [go_sem, execOp]
    · cases ho
      refine ⟨rfl, fun g x hC hS => ?_⟩
      have hS2 : halves w a b (g 3) (g 7) x := hS
      simp only [fillAll, Act.put, List.setIfInBounds_toArray, List.set_cons_zero, List.set_cons_succ]
      refine chain_go ?_ ((HT.out x (g 3) (g 7) hC hS2).mono fun e x' ⟨u, h1, h2, h3⟩ => ⟨u, h1, hC.trans h2, .inl ⟨_, List.mem_of_getElem? (i := 2) rfl, rfl⟩, by show isBuilt w (a ++ b) u x'; rw [HE.out]; exact h3⟩)
      simp [go_sem, execOp]
  case htail =>
    intro g x hC hS
    have hS2 : isBuilt w (a ++ b) (g 8) x := hS
    rw [HE.out] at hS2
    have HZ := Lib.hid (And.intro hC hS2)
    clear hC hS hS2
    simp only [fillAll, Act.put, List.setIfInBounds_toArray, List.set_cons_zero, List.set_cons_succ, List.drop_succ_cons, List.drop_zero, List.drop_nil]
    generalize g 8 = u at *
    go_wp2_with fail
    go_ret
    exact ⟨_, rfl, HZ.out.1, HZ.out.2⟩
theorem hbuilds (n : Nat) : HBuilds n := by
  induction n with
  | zero =>
    intro v l w hn hv hl hT
    obtain rfl := List.eq_nil_of_length_eq_zero (Nat.le_zero.1 hn)
    obtain ⟨A, cap, rfl, _⟩ := hv.form
    exact hbuild_none A cap w
  | succ n ih =>
    intro v l w hn hv hl hT
    by_cases h0 : l.length = 0
    · obtain rfl := List.eq_nil_of_length_eq_zero h0
      obtain ⟨A, cap, rfl, _⟩ := hv.form
      exact hbuild_none A cap w
    · by_cases h1 : l.length ≤ 32
      · exact hbuild_leaf v l w hv (by omega) h1 hT
      · exact hbuild_many n ih v l w hn hv (by omega) hl hT
theorem hbuild_any (v : Value) (l : Qs) (w : World) (hv : QR w v l) (hl : l.length ≤ 90000) (hT : Tls l) : Calls Tryz.prog 255 #[v] w (HAns (isBuilt w l) w) := hbuilds l.length v l w (Nat.le_refl _) hv hl hT
end Go.Proofs.YtamhnffokoejjaaGreatDoor
namespace Go.Proofs.YtamhnffokoejjaaGreatDoor
set_option linter.unusedSimpArgs false
set_option linter.unusedVariables false
set_option linter.unusedSectionVars false
open Go.RowKit
variable {B : Nat}
def HTwo (B : Nat) (t : Ht) (l : Qs) (swap : Bool) (w : World) (e : Ending) (w' : World) : Prop := ∃ u s, e = .returned (.tuple (if swap then #[s, u] else #[u, s])) ∧ AnyLater w w' ∧ isH B t u w' ∧ QR w' s l
def HAheads (B : Nat) (t : Ht) : Prop := ∀ (i : Nat) (v : Value) (w : World), isH B t v w → i ≤ t.hs.length → Calls Tryz.prog 252 #[v, .int .i64 (i : Int)] w (HTwo B (t.ahead i).1 (t.ahead i).2 false w)
def HBehinds (B : Nat) (t : Ht) : Prop := ∀ (i : Nat) (v : Value) (w : World), isH B t v w → i ≤ t.hs.length → Calls Tryz.prog 253 #[v, .int .i64 (i : Int)] w (HTwo B (t.behind i).2 (t.behind i).1 true w)
set_option maxRecDepth 100000 in
theorem hahead_nil {w : World} (hB : B ≤ w.heap.size) (i : Int) : Calls Tryz.prog 252 #[.pointer none, .int .i64 i] w (HTwo B .nil [] false w) := by
  go_enter Tryz.func252, Tryz.ntmps252
  go_wp2_with fail
  refine bodyPost_ret (v := .tuple #[.pointer none, .slice none 0 0]) (by simp [results, Tryz.results252, go_sem]) rfl ?_
  exact ⟨_, _, rfl, AnyLater.refl _, isH_none hB, QR.void _ _ _⟩
set_option maxRecDepth 100000 in
theorem hbehind_nil {w : World} (hB : B ≤ w.heap.size) (i : Int) : Calls Tryz.prog 253 #[.pointer none, .int .i64 i] w (HTwo B .nil [] true w) := by
  go_enter Tryz.func253, Tryz.ntmps253
  go_wp2_with fail
  refine bodyPost_ret (v := .tuple #[.slice none 0 0, .pointer none]) (by simp [results, Tryz.results253, go_sem]) rfl ?_
  exact ⟨_, _, rfl, AnyLater.refl _, isH_none hB, QR.void _ _ _⟩
set_option maxRecDepth 100000 in
theorem hahead_leaf (b : Nat) (l : Qs) (i : Nat) (v : Value) (w : World) (h : isH B (.leaf b l) v w) (hi : i ≤ l.length) : Calls Tryz.prog 252 #[v, .int .i64 (i : Int)] w (HTwo B .nil (l.take i) false w) := by
  have hB := h.1
  obtain ⟨k, cap, rfl, hk, ho⟩ := h.leaf
  obtain ⟨A1, cap1, q1, k1⟩ := (OQ.rq ho).uptoQ pairTall i hi
  have HQ := Lib.hid q1
  unfold hnodeC at hk
  have r0 := own_row hk
  clear hk ho q1
  generalize l.take i = m at *
  generalize l.length = n at *
  go_enter Tryz.func252, Tryz.ntmps252
  go_wp2_with fail
  go_quiet (fail)
  go_wp2_with fail
  refine bodyPost_ret (v := .tuple #[.pointer none, .slice A1 i cap1]) (by simp [results, Tryz.results252, go_sem]) rfl ?_
  exact ⟨_, _, rfl, (AnyLater.refl _).drewN _, isH_none hB, HQ.out.later ((AnyLater.refl _).drewN _)⟩
set_option maxRecDepth 100000 in
theorem hbehind_leaf (b : Nat) (l : Qs) (i : Nat) (v : Value) (w : World) (h : isH B (.leaf b l) v w) (hi : i ≤ l.length) : Calls Tryz.prog 253 #[v, .int .i64 (i : Int)] w (HTwo B .nil (l.drop i) true w) := by
  have hB := h.1
  obtain ⟨k, cap, rfl, hk, ho⟩ := h.leaf
  obtain ⟨u1, q1, k1⟩ := (OQ.rq ho).cutQ pairTall i hi
  have HQ := Lib.hid q1
  obtain ⟨A1, cap1, rfl, -⟩ := q1.form
  unfold hnodeC at hk
  have r0 := own_row hk
  clear hk ho q1
  generalize (l.drop i).length = n1 at *
  generalize l.drop i = m at *
  generalize l.length = n at *
  go_enter Tryz.func253, Tryz.ntmps253
  go_wp2_with fail
  refine bodyPost_ret (v := .tuple #[.slice A1 n1 cap1, .pointer none]) (by simp [results, Tryz.results253, go_sem]) rfl ?_
  exact ⟨_, _, rfl, AnyLater.refl _, isH_none hB, HQ.out⟩
set_option maxRecDepth 100000 in
set_option maxHeartbeats 1600000 in
theorem hahead_left (l r : Ht) (ih : HAheads B l) (i : Nat) (v : Value) (w : World) (h : isH B (.node l r) v w) (hf : (Ht.node l r).Fit) (hi : i ≤ l.hs.length) : Calls Tryz.prog 252 #[v, .int .i64 (i : Int)] w (HTwo B (l.ahead i).1 (l.ahead i).2 false w) := by
  have hm := hf.most
  rw [Ht.hs, List.length_append] at hm
  obtain ⟨k, av, bv, rfl, na, nb, hk, ha, hb⟩ := h.node
  have HJ := Lib.hid (fun (w' : World) (e : AnyLater w w') => ih i av w' (isH_stays e ha) hi)
  obtain ⟨k1, a0, a1, a2, rfl, h1⟩ := ha.noted na
  unfold hnodeC at hk h1
  have r0 := own_row hk
  have r1 := own_row h1
  have d1 : decide ((i : Int) ≤ (l.hs.length : Int)) = true := decide_eq_true (by omega)
  have d2 : decide ((i : Int) - (l.hs.length : Int) ≤ 0) = true := decide_eq_true (by omega)
  have d3 : -90000 ≤ (i : Int) - (l.hs.length : Int) := by omega
  clear ha hb hk h1 hf ih
  generalize (l.ahead i).1 = t1 at *
  generalize (l.ahead i).2 = m1 at *
  generalize l.hs.length = n at *
  go_enter Tryz.func252, Tryz.ntmps252
  go_wp2_with fail
  refine (HJ.out _ (AnyLater.refl w)).mono ?_
  rintro e w1 ⟨u, s, rfl, b1, p1, q1⟩
  have HU := Lib.hid (And.intro b1 (And.intro p1 q1))
  clear b1 p1 q1
  go_wp2_with fail
  refine bodyPost_ret (v := .tuple #[u, s]) (by simp [results, Tryz.results252, go_sem]) rfl ?_
  exact ⟨_, _, rfl, HU.out.1, HU.out.2.1, HU.out.2.2⟩
set_option maxRecDepth 100000 in
set_option maxHeartbeats 1600000 in
theorem hahead_right (l r : Ht) (ih : HAheads B r) (i : Nat) (v : Value) (w : World) (h : isH B (.node l r) v w) (hf : (Ht.node l r).Fit) (fn : (Ht.node l r).Fine) (hi : ¬ i ≤ l.hs.length) (hi2 : i - l.hs.length ≤ r.hs.length) : Calls Tryz.prog 252 #[v, .int .i64 (i : Int)] w (HTwo B (l.join (r.ahead (i - l.hs.length)).1) (r.ahead (i - l.hs.length)).2 false w) := by
  have hm := hf.most
  rw [Ht.hs, List.length_append] at hm
  obtain ⟨k, av, bv, rfl, na, nb, hk, ha, hb⟩ := h.node
  have hg := Ht.ahead_hs r (i - l.hs.length)
  have hg2 : (r.ahead (i - l.hs.length)).1.hs.length ≤ r.hs.length := by
    have := congrArg List.length hg
    rw [List.length_append, List.length_take] at this
    omega
  have hg3 : Tls (r.ahead (i - l.hs.length)).1.hs := by
    have : Tls (r.hs.take (i - l.hs.length)) := hf.right.tls.take _
    rw [← hg] at this
    exact this.left
  have HJ := Lib.hid (fun (w' : World) (e : AnyLater w w') => ih (i - l.hs.length) bv w' (isH_stays e hb) hi2)
  have HK := Lib.hid (fun (w' : World) (u : Value) (e : AnyLater w w') (hu : isH B (r.ahead (i - l.hs.length)).1 u w') => hjoin_any l (r.ahead (i - l.hs.length)).1 av u w' _ rfl (isH_stays e ha) hu fn.left (Ht.ahead_fine _ _ fn.right) hf.left.tls hg3 (by omega))
  obtain ⟨k1, a0, a1, a2, rfl, h1⟩ := ha.noted na
  obtain ⟨q2, rfl⟩ := hb.ptr
  unfold hnodeC at hk h1
  have s0_w := hk
  have r0 := own_row hk
  have r1 := own_row h1
  have hj : ((i - l.hs.length : Nat) : Int) = (i : Int) - (l.hs.length : Int) := by omega
  rw [hj] at HJ
  have d1 : decide ((i : Int) ≤ (l.hs.length : Int)) = false := decide_eq_false (by omega)
  have d2 : decide ((i : Int) - (l.hs.length : Int) ≤ 0) = false := decide_eq_false (by omega)
  have d3 : (i : Int) - (l.hs.length : Int) ≤ 90000 := by omega
  have d4 : 0 < (i : Int) - (l.hs.length : Int) := by omega
  clear ha hb h1 hf ih hj hg hg2 hg3 fn
  generalize l.join (r.ahead (i - l.hs.length)).1 = t1 at *
  generalize (r.ahead (i - l.hs.length)).1 = t2 at *
  generalize (r.ahead (i - l.hs.length)).2 = m1 at *
  generalize l.hs.length = n at *
  go_enter Tryz.func252, Tryz.ntmps252
  go_wp2_with fail
  refine (HJ.out _ (AnyLater.refl w)).mono ?_
  rintro e w1 ⟨u, s, rfl, b_w1, p1, q1⟩
  have HQ := Lib.hid q1
  have HC := Lib.hid (HK.out _ _ b_w1 p1)
  obtain ⟨A5, cap5, rfl, -⟩ := q1.form
  have z_w1 := b_w1.below.size
  have a_w1 := b_w1
  have s0_w1 := any_own b_w1 s0_w
  have r0_w1 := own_row s0_w1
  have f0_w1 := own_free s0_w1
  have l0_w1 := own_lt s0_w1
  (try clear r0_w); (try clear f0_w)
  clear p1 q1 r0 r1
  go_wp2_with fail
  refine HC.out.mono ?_
  rintro e w2 ⟨u2, rfl, b2, p2⟩
  have HU := Lib.hid (And.intro (a_w1.trans b2) (And.intro p2 (HQ.out.later b2)))
  clear b2 p2
  go_wp2_with fail
  refine bodyPost_ret (v := .tuple #[u2, .slice A5 m1.length cap5]) (by simp [results, Tryz.results252, go_sem]) rfl ?_
  exact ⟨_, _, rfl, HU.out.1, HU.out.2.1, HU.out.2.2⟩
set_option maxRecDepth 100000 in
set_option maxHeartbeats 1600000 in
theorem hbehind_right (l r : Ht) (ih : HBehinds B r) (i : Nat) (v : Value) (w : World) (h : isH B (.node l r) v w) (hf : (Ht.node l r).Fit) (hi : l.hs.length ≤ i) (hi2 : i - l.hs.length ≤ r.hs.length) : Calls Tryz.prog 253 #[v, .int .i64 (i : Int)] w (HTwo B (r.behind (i - l.hs.length)).2 (r.behind (i - l.hs.length)).1 true w) := by
  have hm := hf.most
  rw [Ht.hs, List.length_append] at hm
  obtain ⟨k, av, bv, rfl, na, nb, hk, ha, hb⟩ := h.node
  have HJ := Lib.hid (fun (w' : World) (e : AnyLater w w') => ih (i - l.hs.length) bv w' (isH_stays e hb) hi2)
  obtain ⟨k1, a0, a1, a2, rfl, h1⟩ := ha.noted na
  obtain ⟨q2, rfl⟩ := hb.ptr
  unfold hnodeC at hk h1
  have r0 := own_row hk
  have r1 := own_row h1
  have hj : ((i - l.hs.length : Nat) : Int) = (i : Int) - (l.hs.length : Int) := by omega
  rw [hj] at HJ
  have d1 : decide ((l.hs.length : Int) ≤ (i : Int)) = true := decide_eq_true (by omega)
  have d2 : decide (0 ≤ (i : Int) - (l.hs.length : Int)) = true := decide_eq_true (by omega)
  have d3 : (i : Int) - (l.hs.length : Int) ≤ 90000 := by omega
  clear ha hb hk h1 hf ih hj
  generalize (r.behind (i - l.hs.length)).2 = t1 at *
  generalize (r.behind (i - l.hs.length)).1 = m1 at *
  generalize l.hs.length = n at *
  go_enter Tryz.func253, Tryz.ntmps253
  go_wp2_with fail
  refine (HJ.out _ (AnyLater.refl w)).mono ?_
  rintro e w1 ⟨u, s, rfl, b1, p1, q1⟩
  have HU := Lib.hid (And.intro b1 (And.intro p1 q1))
  clear b1 p1 q1
  go_wp2_with fail
  refine bodyPost_ret (v := .tuple #[s, u]) (by simp [results, Tryz.results253, go_sem]) rfl ?_
  exact ⟨_, _, rfl, HU.out.1, HU.out.2.1, HU.out.2.2⟩
set_option maxRecDepth 100000 in
set_option maxHeartbeats 1600000 in
theorem hbehind_left (l r : Ht) (ih : HBehinds B l) (i : Nat) (v : Value) (w : World) (h : isH B (.node l r) v w) (hf : (Ht.node l r).Fit) (fn : (Ht.node l r).Fine) (hi : ¬ l.hs.length ≤ i) : Calls Tryz.prog 253 #[v, .int .i64 (i : Int)] w (HTwo B ((l.behind i).2.join r) (l.behind i).1 true w) := by
  have hm := hf.most
  rw [Ht.hs, List.length_append] at hm
  obtain ⟨k, av, bv, rfl, na, nb, hk, ha, hb⟩ := h.node
  have hg := Ht.behind_hs l i
  have hg2 : (l.behind i).2.hs.length ≤ l.hs.length := by
    have := congrArg List.length hg
    rw [List.length_append, List.length_drop] at this
    omega
  have hg3 : Tls (l.behind i).2.hs := by
    have : Tls (l.hs.drop i) := hf.left.tls.drop _
    rw [← hg] at this
    exact this.right
  have HJ := Lib.hid (fun (w' : World) (e : AnyLater w w') => ih i av w' (isH_stays e ha) (by omega))
  have HK := Lib.hid (fun (w' : World) (u : Value) (e : AnyLater w w') (hu : isH B (l.behind i).2 u w') => hjoin_any (l.behind i).2 r u bv w' _ rfl hu (isH_stays e hb) (Ht.behind_fine _ _ fn.left) fn.right hg3 hf.right.tls (by omega))
  obtain ⟨k1, a0, a1, a2, rfl, h1⟩ := ha.noted na
  obtain ⟨q2, rfl⟩ := hb.ptr
  unfold hnodeC at hk h1
  have s0_w := hk
  have r0 := own_row hk
  have r1 := own_row h1
  have d1 : decide ((l.hs.length : Int) ≤ (i : Int)) = false := decide_eq_false (by omega)
  have d2 : decide (0 ≤ (i : Int) - (l.hs.length : Int)) = false := decide_eq_false (by omega)
  have d3 : -90000 ≤ (i : Int) - (l.hs.length : Int) := by omega
  have d4 : (i : Int) - (l.hs.length : Int) < 0 := by omega
  clear ha hb h1 hf ih hg hg2 hg3 fn
  generalize (l.behind i).2.join r = t1 at *
  generalize (l.behind i).2 = t2 at *
  generalize (l.behind i).1 = m1 at *
  generalize l.hs.length = n at *
  go_enter Tryz.func253, Tryz.ntmps253
  go_wp2_with fail
  refine (HJ.out _ (AnyLater.refl w)).mono ?_
  rintro e w1 ⟨u, s, rfl, b_w1, p1, q1⟩
  have HQ := Lib.hid q1
  have HC := Lib.hid (HK.out _ _ b_w1 p1)
  obtain ⟨A5, cap5, rfl, -⟩ := q1.form
  have z_w1 := b_w1.below.size
  have a_w1 := b_w1
  have s0_w1 := any_own b_w1 s0_w
  have r0_w1 := own_row s0_w1
  have f0_w1 := own_free s0_w1
  have l0_w1 := own_lt s0_w1
  (try clear r0_w); (try clear f0_w)
  clear p1 q1 r0 r1
  go_wp2_with fail
  refine HC.out.mono ?_
  rintro e w2 ⟨u2, rfl, b2, p2⟩
  have HU := Lib.hid (And.intro (a_w1.trans b2) (And.intro p2 (HQ.out.later b2)))
  clear b2 p2
  go_wp2_with fail
  refine bodyPost_ret (v := .tuple #[.slice A5 m1.length cap5, u2]) (by simp [results, Tryz.results253, go_sem]) rfl ?_
  exact ⟨_, _, rfl, HU.out.1, HU.out.2.1, HU.out.2.2⟩
theorem haheads : ∀ (t : Ht), t.Fit → t.Fine → HAheads B t
  | .nil, _, _, i, v, w, h, hi => by
    have hB := h.1
    obtain rfl := h.nil
    exact hahead_nil hB i
  | .leaf b l, _, _, i, v, w, h, hi => hahead_leaf b l i v w h hi
  | .node l r, hf, fn, i, v, w, h, hi => by
    rw [Ht.hs, List.length_append] at hi
    unfold Ht.ahead
    split
    · rename_i hc
      exact hahead_left l r (haheads l hf.left fn.left) i v w h hf hc
    · rename_i hc
      exact hahead_right l r (haheads r hf.right fn.right) i v w h hf fn hc (by omega)
theorem hbehinds : ∀ (t : Ht), t.Fit → t.Fine → HBehinds B t
  | .nil, _, _, i, v, w, h, hi => by
    have hB := h.1
    obtain rfl := h.nil
    exact hbehind_nil hB i
  | .leaf b l, _, _, i, v, w, h, hi => hbehind_leaf b l i v w h hi
  | .node l r, hf, fn, i, v, w, h, hi => by
    rw [Ht.hs, List.length_append] at hi
    unfold Ht.behind
    split
    · rename_i hc
      exact hbehind_right l r (hbehinds r hf.right fn.right) i v w h hf hc (by omega)
    · rename_i hc
      exact hbehind_left l r (hbehinds l hf.left fn.left) i v w h hf fn hc
structure Ht.Ok (t : Ht) : Prop where
  fine : t.Fine
  tls : Tls t.hs
  most : t.hs.length ≤ 45000
  rows : t.bks.Nodup
theorem Ht.Ok.fit {t : Ht} (h : t.Ok) : t.Fit := ⟨h.fine.2, h.tls, by have := h.most; omega⟩
def isSpliced (B : Nat) (W : World) (t : Ht) (l : Qs) (v : Value) (w : World) : Prop := ∃ T : Ht, isH B T v w ∧ T.hs = l ∧ T.Fine ∧ T.bks.Nodup ∧ ∀ b ∈ T.bks, b ∈ t.bks ∨ W.heap.size ≤ b
set_option maxRecDepth 100000 in
set_option maxHeartbeats 400000 in
theorem hsplice_any (t : Ht) (a b : Nat) (v u : Value) (l : Qs) (w : World) (h : isH B t v w) (hok : t.Ok) (hab : a ≤ b) (hb : b ≤ t.hs.length) (hu : QR w u l) (hl : t.hs.length + l.length ≤ 80000) (hT : Tls l) :
    Calls Tryz.prog 222 #[v, .int .i64 (a : Int), .int .i64 (b : Int), u] w (HAns (isSpliced B w t (t.hs.take a ++ l ++ t.hs.drop b)) w) := by
  have HA := Lib.hid (haheads t hok.fit hok.fine a v w h (by omega))
  have HB := Lib.hid (fun (w' : World) (e : AnyLater w w') => hbehinds t hok.fit hok.fine b v w' (isH_stays e h) hb)
  have ha1 := Ht.ahead_hs t a
  have hb1 := Ht.behind_hs t b
  have ha2 := Ht.ahead_fine t a hok.fine
  have hb2 := Ht.behind_fine t b hok.fine
  have hbk := Ht.parted_bks t a b hab
  have hbn := hbk.nodup hok.rows
  have la : (t.ahead a).1.hs.length + (t.ahead a).2.length = a := by
    have := congrArg List.length ha1
    rw [List.length_append, List.length_take] at this
    omega
  have lb : (t.behind b).1.length + (t.behind b).2.hs.length = t.hs.length - b := by
    have := congrArg List.length hb1
    rwa [List.length_append, List.length_drop] at this
  have ta : Tls ((t.ahead a).1.hs ++ (t.ahead a).2) := by rw [ha1]; exact hok.tls.take _
  have tb : Tls ((t.behind b).1 ++ (t.behind b).2.hs) := by rw [hb1]; exact hok.tls.drop _
  have hmem : ∀ x, x ∈ (t.ahead a).1.bks ∨ x ∈ (t.behind b).2.bks → x ∈ t.bks := fun x hx => hbk.subset (List.mem_append.2 hx)
  have HLt : Hid (∀ x ∈ t.bks, x < w.heap.size) := Lib.hid (fun x hx => by
    obtain ⟨_, F, hF, _⟩ := h
    exact own_lt (hF.rows x hx).2.choose_spec)
  have HR : Hid (t.hs.take a ++ l ++ t.hs.drop b = (t.ahead a).1.hs ++ ((t.ahead a).2 ++ l ++ (t.behind b).1) ++ (t.behind b).2.hs) := Lib.hid (by rw [← ha1, ← hb1]; simp)
  generalize (t.ahead a).1 = X at *
  generalize (t.ahead a).2 = p at *
  generalize (t.behind b).1 = q at *
  generalize (t.behind b).2 = Y at *
  have HCat := Lib.hid (fun (g : Nat) (v1 v2 v3 : Value) (w' : World) (hg : g < w'.heap.size) c1 c2 c3 (h1 : QR w' v1 p) (h2 : QR w' v2 l) (h3 : QR w' v3 q) => tlcat_three g v1 v2 v3 p l q w' hg c1 c2 c3 h1 h2 h3 (by omega))
  have tm : Tls (p ++ l ++ q) := (ta.right.append hT).append tb.left
  have lm : (p ++ l ++ q).length = p.length + l.length + q.length := by rw [List.length_append, List.length_append]
  have HBu := Lib.hid (fun (w' : World) (z : Value) (hz : QR w' z (p ++ l ++ q)) => hbuild_any z (p ++ l ++ q) w' hz (by omega) tm)
  have HJ1 := Lib.hid (fun (w' : World) (x z : Value) (M : Ht) (hx : isH B X x w') (hz : isH B M z w') (hM : M.hs = p ++ l ++ q) (fM : M.Fine) => hjoin_any X M x z w' _ rfl hx hz ha2 fM ta.left (by rw [hM]; exact tm) (by rw [hM, lm]; omega))
  have HJ2 := Lib.hid (fun (w' : World) (x z : Value) (M : Ht) (hx : isH B (X.join M) x w') (hz : isH B Y z w') (hM : M.hs = p ++ l ++ q) (fM : M.Fine) => hjoin_any (X.join M) Y x z w' _ rfl hx hz (ha2.join fM) hb2 (by rw [Ht.hs_join, hM]; exact ta.left.append tm) tb.right (by rw [Ht.hs_join, hM, List.length_append, lm]; omega))
  have HE : Hid (∀ (w1 w' : World) (M : Ht) (z : Value), AnyLater w w1 → isH B ((X.join M).join Y) z w' → M.hs = p ++ l ++ q → M.Fine → M.bks.Nodup → (∀ x ∈ M.bks, w1.heap.size ≤ x) → isSpliced B w t (t.hs.take a ++ l ++ t.hs.drop b) z w') := Lib.hid (fun w1 w' M z e hz hM fM nM bM => by
    refine ⟨_, hz, ?_, (ha2.join fM).join hb2, ?_, fun x hx => ?_⟩
    · rw [Ht.hs_join, Ht.hs_join, hM, HR.out]
    · rw [Ht.bks_join, Ht.bks_join]
      obtain ⟨n1, n2, n3⟩ := List.nodup_append.1 hbn
      have old : ∀ x, x ∈ X.bks ∨ x ∈ Y.bks → ∀ y ∈ M.bks, x ≠ y := fun x hx y hy e2 => by
        have q1 := HLt.out x (hmem x hx)
        have q2 := bM y hy
        have q3 := e.below.size
        omega
      refine List.nodup_append.2 ⟨List.nodup_append.2 ⟨n1, nM, fun x hx y hy => old x (.inl hx) y hy⟩, n2, fun x hx y hy => ?_⟩
      rcases List.mem_append.1 hx with hx | hx
      · exact n3 x hx y hy
      · exact fun e2 => old y (.inr hy) x hx e2.symm
    · rw [Ht.bks_join, Ht.bks_join] at hx
      rcases List.mem_append.1 hx with hx | hx
      · rcases List.mem_append.1 hx with hx | hx
        · exact .inl (hmem x (.inl hx))
        · exact .inr (Nat.le_trans e.below.size (bM x hx))
      · exact .inl (hmem x (.inr hx)))
  have HU := Lib.hid hu
  have HBs := Lib.hid h.1
  obtain ⟨q0, rfl⟩ := h.ptr
  obtain ⟨A0, cap0, rfl, -⟩ := hu.form
  clear h hok hbk hbn la lb ta tb hmem HR ha1 hb1 ha2 hb2 tm lm hu hT
  generalize t.hs.take a ++ l ++ t.hs.drop b = R at *
  generalize p ++ l ++ q = pm at *
  generalize l.length = nl at *
  go_enter Tryz.func222, Tryz.ntmps222
  go_wp2_with fail
  refine HA.out.mono ?_
  rintro e w1 ⟨x1, s1, rfl, b_w1, p1, q1⟩
  have H1 := Lib.hid (And.intro b_w1 (And.intro p1 q1))
  obtain ⟨q4, rfl⟩ := p1.ptr
  obtain ⟨A1, cap1, rfl, -⟩ := q1.form
  clear b_w1 p1 q1
  go_wp2_with fail
  refine (HB.out _ H1.out.1).mono ?_
  rintro e w2 ⟨x2, s2, rfl, b_w2, p2, q2⟩
  have H2 := Lib.hid (And.intro (H1.out.1.trans b_w2) (And.intro p2 q2))
  have H1 := Lib.hid (And.intro (isH_stays b_w2 H1.out.2.1) (H1.out.2.2.later b_w2))
  obtain ⟨q5, rfl⟩ := p2.ptr
  obtain ⟨A2, cap2, rfl, -⟩ := q2.form
  have a_w2 := H2.out.1
  have z0 := b_w2.below.size
  clear b_w2 p2 q2
  go_wp2_with fail
  first | refine settle_wp (fun wS => AnyLater w2 wS ∧ wS.heap[w2.heap.size]? = some (.cells #[.slice A1 p.length cap1, .slice A0 nl cap0, .slice A2 q.length cap2] 84)) ?_ ?_ | refine settle_calls (fun wS => AnyLater w2 wS ∧ wS.heap[w2.heap.size]? = some (.cells #[.slice A1 p.length cap1, .slice A0 nl cap0, .slice A2 q.length cap2] 84)) ?_ ?_
  · refine ⟨?_, ?_⟩
    · repeat' (first | with_reducible assumption | with_reducible exact AnyLater.refl _ | with_reducible apply AnyLater.setCell | with_reducible apply AnyLater.later | with_reducible apply AnyLater.drewN | with_reducible apply AnyLater.drew | with_reducible apply AnyLater.alloc | ((try simp only [World.size_alloc, World.size_setCell, World.size_drew]); (try dsimp only); omega))
    · ((repeat (first | with_reducible assumption | ((with_reducible apply heap_new); (try simp only [World.size_alloc, World.size_setCell, World.size_drew, World.heap_drewN]); done) | ((with_reducible apply heap_new); (try simp only [World.size_alloc, World.size_setCell, World.size_drew, World.heap_drewN]); omega) | (with_reducible refine heap_old (by (try simp only [World.size_alloc, World.size_setCell, World.size_drew, World.heap_drewN]); omega) ?_) | (with_reducible refine heap_drew ?_) | (with_reducible refine heap_far (by omega) ?_) | (with_reducible apply heap_at))); all_goals rfl)
  rintro w3 ⟨b_w3, s0_w3⟩
  have a_w3 := a_w2.trans b_w3
  have r0_w3 := own_row s0_w3
  have f0_w3 := own_free s0_w3
  have l0_w3 := own_lt s0_w3
  have z_w3 := b_w3.below.size
  refine (HCat.out w2.heap.size _ _ _ w3 l0_w3 (by rw [r0_w3]; rfl) (by rw [r0_w3]; rfl) (by rw [r0_w3]; rfl) (H1.out.2.later b_w3) (HU.out.later a_w3) (H2.out.2.2.later b_w3)).mono ?_
  rintro e w4 ⟨x4, rfl, b_w4, o4⟩
  have H4 := Lib.hid (And.intro (a_w3.trans b_w4) (And.intro (b_w3.trans b_w4) o4))
  obtain ⟨A4, cap4, rfl, -⟩ := OQ.form o4
  clear o4 b_w4
  go_wp2_with fail
  refine (HBu.out w4 _ (OQ.rq H4.out.2.2)).mono ?_
  rintro e w5 ⟨x5, rfl, b_w5, p5⟩
  obtain ⟨M, hM, e1, e2, -, e3, e4⟩ := p5
  have hM := hM.mono (Nat.le_trans HBs.out H4.out.1.below.size)
  have H5 := Lib.hid (And.intro e1 (And.intro e2 (And.intro e3 e4)))
  obtain ⟨q6, rfl⟩ := hM.ptr
  have HC5 := Lib.hid (HJ1.out w5 _ _ M (isH_stays (H4.out.2.1.trans b_w5) H1.out.1) hM e1 e2)
  have H6 := Lib.hid (H4.out.2.1.trans b_w5)
  have H7 := Lib.hid (H4.out.1.trans b_w5)
  clear hM e1 e2 e3 e4 b_w5
  go_wp2_with fail
  refine HC5.out.mono ?_
  rintro e w6 ⟨x6, rfl, b_w6, p6⟩
  have HC6 := Lib.hid (HJ2.out w6 _ _ M p6 (isH_stays (H6.out.trans b_w6) H2.out.2.1) H5.out.1 H5.out.2.1)
  have H8 := Lib.hid (H7.out.trans b_w6)
  clear p6 b_w6
  go_wp2_with fail
  refine HC6.out.mono ?_
  rintro e w7 ⟨x7, rfl, b_w7, p7⟩
  have H9 := Lib.hid (And.intro (H8.out.trans b_w7) (HE.out w4 w7 M x7 H4.out.1 p7 H5.out.1 H5.out.2.1 H5.out.2.2.1 H5.out.2.2.2))
  clear p7 b_w7
  go_wp2_with fail
  go_ret
  exact ⟨_, rfl, H9.out.1, H9.out.2⟩
end Go.Proofs.YtamhnffokoejjaaGreatDoor
