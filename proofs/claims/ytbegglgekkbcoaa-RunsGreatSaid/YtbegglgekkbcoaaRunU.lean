/- runs, the program: slices.Grow of none, slices.Concat of three lists, between. -/
import Derived.Test.YtbegglgekkbcoaaRunT
import Derived.Lib.AppendZeros
namespace Go.Proofs.Ytbegglgekkbcoaa
set_option linter.unusedSimpArgs false
set_option linter.unusedVariables false
set_option linter.unusedSectionVars false
open Go.RowKit

/-- append of zeros onto nothing, cut down to none: a row of none -/
theorem zeroRow (w : World) (n : Nat) (h0 : 0 < n) (hn : n ≤ 300000) :
    ∃ g cap w2, (Builtin.append_ #[22, 3] 22 #[.slice none 0 0, .int .i64 (n : Int)]).run Try.prog w = .ok (.slice (some ⟨g, 0, none⟩) n cap) w2 ∧ AnyLater w w2 ∧ ORn w2 w.heap.size (.slice (some ⟨g, 0, none⟩) 0 cap) [] := by
  obtain ⟨i0, hi0, hz0, hz1, hz2⟩ := info_parts info_run
  have hcap := grownCap_ge w n 0 45
  have hcap2 := grownCap_le_maxLen w n 0 45 (by unfold maxLen; omega)
  refine ⟨_, _, _, Lib.run_append_nil_zeros (P := Try.prog) w 22 3 22 45 i0 (.agg #[.int .i64 0, .int .i64 0]) .i64 .i64 Try.underlying22 (by kernel_rfl) hi0 hz0 n h0 (by rw [hz1]; decide) (by omega) (by rw [hz2]; omega), ?_, rfl, .inr ⟨w.heap.size, _, _, rfl, Nat.le_refl _, heap_new rfl, Nat.zero_le _, hcap2, ?_, rfl⟩⟩
  · exact (((AnyLater.refl w).drewN 1).alloc _)
  · rw [Array.size_append, size_zeroCells, size_zeroCells]
    show n * 2 + (grownCap w n 0 45 - n) * 2 = _
    omega
set_option maxRecDepth 100000 in
theorem pgrow_none (n : Int) (w : World) (h0 : 1 ≤ n) (hn : n ≤ 300000) : Calls Try.prog 32 #[.slice none 0 0, .int .i64 n] w (RowN w []) := by
  obtain ⟨N, rfl⟩ := Int.eq_ofNat_of_zero_le (show 0 ≤ n by omega)
  obtain ⟨g, cap, w2, k1, k2, k3⟩ := zeroRow w N (by omega) (by omega)
  have K1 := Lib.hid k1
  have HB := Lib.hid (And.intro k2 k3)
  have hcap : N ≤ 300000 := by omega
  have hpos : 0 < N := by omega
  clear k1 k2 k3
  go_enter Try.func32, Try.ntmps32
  go_wp2_with (at_builtin; refine Lib.wpList_append_run _ rfl _ _ _ _ rfl _ _ rfl rfl _ _ K1.out ?_)
  go_ret
  exact ⟨_, rfl, HB.out⟩
set_option maxRecDepth 100000 in
set_option maxHeartbeats 3200000 in
/-- slices.Concat of three lists of runs -/
theorem pcat_any (g : Nat) (v1 v2 v3 : Value) (a b c : Runs) (w : World) (hg : g < w.heap.size) (c1 : w.cell? ⟨g, 0, none⟩ = some v1) (c2 : w.cell? ⟨g, 1, none⟩ = some v2) (c3 : w.cell? ⟨g, 2, none⟩ = some v3) (h1 : RRn w v1 a) (h2 : RRn w v2 b) (h3 : RRn w v3 c) (hp : 1 ≤ b.length) (hs : a.length + b.length + c.length ≤ 90000) :
    Calls Try.prog 31 #[.slice (some ⟨g, 0, none⟩) 3 3] w (RowN w (a ++ b ++ c)) := by
  have H1 := Lib.hid h1
  have H2 := Lib.hid h2
  have H3 := Lib.hid h3
  obtain ⟨A1, q1, rfl, _, _⟩ := h1
  obtain ⟨A2, q2, rfl, _, _⟩ := h2
  obtain ⟨A3, q3, rfl, _, _⟩ := h3
  have HC1 := Lib.hid c1
  have HC2 := Lib.hid c2
  have HC3 := Lib.hid c3
  have HG := Lib.hid (fun n w => pgrow_none n w)
  have s1 : a.length ≤ 90000 := by omega
  have s2 : b.length ≤ 90000 := by omega
  have s3 : c.length ≤ 90000 := by omega
  go_enter Try.func31, Try.ntmps31
  go_wp2_with fail
  refine wp_loop_rounds 4 ?_
  rw [rounds_succ]
  go_wp2_with fail
  rw [rounds_succ]
  go_wp2_with fail
  rw [rounds_succ]
  go_wp2_with fail
  rw [rounds_succ]
  go_wp2_with fail
  refine (HG.out _ _ (by omega) (by omega)).mono ?_
  rintro e w1 ⟨x1, rfl, b1, o1⟩
  have HB1 := Lib.hid (And.intro b1 o1)
  clear b1 o1 c1 c2 c3
  obtain ⟨A9, q9, rfl, _, _⟩ := HB1.out.2.reads
  go_wp2_with fail
  refine wp_loop_rounds 4 ?_
  rw [rounds_succ]
  have c1 : w1.cell? ⟨g, 0, none⟩ = some (.slice A1 a.length q1) := (HB1.out.1.below.cell hg).trans HC1.out
  obtain ⟨x2, w2, k1, k2, k3⟩ := appRuns HB1.out.2 (H1.out.later HB1.out.1) HB1.out.1.below.size (by simp only [List.length_append, List.length_nil]; omega)
  have K1 := Lib.hid k1
  have HB2 := Lib.hid (And.intro (ORn.grown HB1.out.2 (Nat.le_refl _) HB1.out.1 k3) k2)
  clear k1 k2 k3
  go_wp2_with (at_builtin; refine Lib.wpList_append_run _ rfl _ _ _ _ rfl _ _ rfl rfl _ _ K1.out ?_)
  rw [rounds_succ]
  have c2 : w2.cell? ⟨g, 1, none⟩ = some (.slice A2 b.length q2) := (HB2.out.1.below.cell hg).trans HC2.out
  obtain ⟨x3, w3, k1, k2, k3⟩ := appRuns HB2.out.2 (H2.out.later HB2.out.1) HB2.out.1.below.size (by simp only [List.length_append, List.length_nil]; omega)
  have K2 := Lib.hid k1
  have HB3 := Lib.hid (And.intro (ORn.grown HB2.out.2 (Nat.le_refl _) HB2.out.1 k3) k2)
  clear k1 k2 k3
  go_wp2_with (at_builtin; refine Lib.wpList_append_run _ rfl _ _ _ _ rfl _ _ rfl rfl _ _ K2.out ?_)
  rw [rounds_succ]
  have c3 : w3.cell? ⟨g, 2, none⟩ = some (.slice A3 c.length q3) := (HB3.out.1.below.cell hg).trans HC3.out
  obtain ⟨x4, w4, k1, k2, k3⟩ := appRuns HB3.out.2 (H3.out.later HB3.out.1) HB3.out.1.below.size (by simp only [List.length_append, List.length_nil]; omega)
  have K3 := Lib.hid k1
  have HB4 := Lib.hid (And.intro (ORn.grown HB3.out.2 (Nat.le_refl _) HB3.out.1 k3) k2)
  clear k1 k2 k3
  go_wp2_with (at_builtin; refine Lib.wpList_append_run _ rfl _ _ _ _ rfl _ _ rfl rfl _ _ K3.out ?_)
  rw [rounds_succ]
  go_wp2_with fail
  go_ret
  exact ⟨_, rfl, HB4.out⟩

/-! ### between -/
set_option maxRecDepth 100000 in
theorem pbetween_any (v1 v3 : Value) (a c m : Runs) (n s : Int) (w : World) (hm : tidyR (a ++ [(n, s)] ++ c) = m) (h1 : RRn w v1 a) (h3 : RRn w v3 c) (ha : NumsR a) (hc : NumsR c) (hn : I64s n) (hs : I64s s) (hl : a.length + c.length ≤ 89000) :
    Calls Try.prog 28 #[v1, .agg #[.int .i64 n, .int .i64 s], v3] w (RowN w m) := by
  have HCAT : Hid (∀ (w' : World) (g : Nat) (v2 : Value), AnyLater w w' → g < w'.heap.size → w'.cell? ⟨g, 0, none⟩ = some v1 → w'.cell? ⟨g, 1, none⟩ = some v2 → w'.cell? ⟨g, 2, none⟩ = some v3 → RRn w' v2 [(n, s)] → Calls Try.prog 31 #[.slice (some ⟨g, 0, none⟩) 3 3] w' (RowN w' (a ++ [(n, s)] ++ c))) :=
    Lib.hid (fun w' g v2 hw hg c1 c2 c3 h2 => pcat_any g v1 v2 v3 a [(n, s)] c w' hg c1 c2 c3 (h1.later hw) h2 (h3.later hw) (Nat.le_refl 1) (by simp only [List.length_cons, List.length_nil]; omega))
  have hN : NumsR (a ++ [(n, s)] ++ c) := fun r hr => by
    rcases List.mem_append.1 hr with hr | hr
    · exact numsR_snoc ha hn hs r hr
    · exact hc r hr
  have HT := Lib.hid (fun (w' : World) u (h : RRn w' u (a ++ [(n, s)] ++ c)) => ptidy_any u _ w' h hN (by simp only [List.length_append, List.length_cons, List.length_nil]; omega))
  have HM := Lib.hid hm
  obtain ⟨A1, q1, rfl, _, _⟩ := h1
  obtain ⟨A3, q3, rfl, _, _⟩ := h3
  clear ha hc hn hs hl hN hm
  go_enter Try.func28, Try.ntmps28
  go_wp2_with fail
  have hw : AnyLater w (((w.alloc (.cells #[.int .i64 n, .int .i64 s] 45)).alloc (.cells #[.int .i64 n, .int .i64 s] 45)).alloc (.cells #[.slice A1 a.length q1, .slice (some ⟨w.heap.size + 1, 0, none⟩) 1 1, .slice A3 c.length q3] 22)) := (((AnyLater.refl w).alloc _).alloc _).alloc _
  have hz : (((w.alloc (.cells #[.int .i64 n, .int .i64 s] 45)).alloc (.cells #[.int .i64 n, .int .i64 s] 45)).alloc (.cells #[.slice A1 a.length q1, .slice (some ⟨w.heap.size + 1, 0, none⟩) 1 1, .slice A3 c.length q3] 22)).heap[w.heap.size + 1 + 1]? = some (.cells #[.slice A1 a.length q1, .slice (some ⟨w.heap.size + 1, 0, none⟩) 1 1, .slice A3 c.length q3] 22) := heap_new (by simp)
  have hy : RRn (((w.alloc (.cells #[.int .i64 n, .int .i64 s] 45)).alloc (.cells #[.int .i64 n, .int .i64 s] 45)).alloc (.cells #[.slice A1 a.length q1, .slice (some ⟨w.heap.size + 1, 0, none⟩) 1 1, .slice A3 c.length q3] 22)) (.slice (some ⟨w.heap.size + 1, 0, none⟩) 1 1) [(n, s)] :=
    (ORn.one (B := 0) (r := (n, s)) (Nat.zero_le _) (heap_new (w := w.alloc (.cells #[.int .i64 n, .int .i64 s] 45)) (by simp))).reads.later ((AnyLater.refl _).alloc _)
  refine (HCAT.out _ _ _ hw (own_lt hz) ((own_row hz 0).trans rfl) ((own_row hz 1).trans rfl) ((own_row hz 2).trans rfl) hy).mono ?_
  rintro e w1 ⟨u, rfl, b1, o1⟩
  have HB1 := Lib.hid (And.intro (hw.trans b1) o1.reads)
  clear hw hz hy b1 o1
  go_wp2_with fail
  refine (HT.out _ _ HB1.out.2).mono ?_
  rintro e w2 ⟨u2, rfl, b2, o2⟩
  have HB2 := Lib.hid (And.intro (HB1.out.1.trans b2) (o2.wide HB1.out.1.below.size))
  clear b2 o2
  go_wp2_with fail
  go_ret
  exact ⟨_, rfl, HB2.out.1, by rw [← HM.out]; exact HB2.out.2⟩
end Go.Proofs.Ytbegglgekkbcoaa
