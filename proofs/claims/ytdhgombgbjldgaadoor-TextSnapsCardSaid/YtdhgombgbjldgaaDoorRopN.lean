/- rope: bytes taken away; a byte: by contract. -/
import Derived.Test.YtdhgombgbjldgaaDoorRopM
namespace Go.Proofs.YtdhgombgbjldgaaDoor
set_option linter.unusedSimpArgs false
set_option linter.unusedVariables false
set_option linter.unusedSectionVars false
open Go.RowKit

/-! ### bytes taken away -/
set_option maxRecDepth 100000 in
theorem rdel_nil (x n : Int) (w : World) : Calls Tryd.prog 50 #[.pointer none, .int .i64 x, .int .i64 n] w fun e w' => e = .returned (.tuple #[.slice none 0 0, .int .i64 1]) ∧ AnyLater w w' := by
  have HL := Lib.hid (rlen_any (.pointer none) .nil w (.inl ⟨rfl, rfl⟩))
  have HS : Hid (∀ w', Calls Tryd.prog 63 #[.int .i64 x, .int .i64 n, .int .i64 0] w' fun e w'' => (∃ (a b : Int) (c : Bool), e = .returned (.tuple #[.int .i64 a, .int .i64 b, .bool c])) ∧ w' = w'') := Lib.hid (fun w' => by
    by_cases h : In3 x n 0
    · refine (rspan_yes x n 0 w' h (by decide)).mono ?_
      rintro e w'' ⟨rfl, rfl⟩
      exact ⟨⟨_, _, _, rfl⟩, rfl⟩
    · refine (rspan_no x n 0 w' h (by decide) (by decide)).mono ?_
      rintro e w'' ⟨rfl, rfl⟩
      exact ⟨⟨_, _, _, rfl⟩, rfl⟩)
  have e0 : ((Tr.nil.len : Nat) : Int) = 0 := rfl
  rw [e0] at HL
  clear e0
  go_enter Tryd.func50, Tryd.ntmps50
  go_wp2_with fail
  refine HL.out.mono ?_
  rintro e w2 ⟨rfl, b2⟩
  go_wp2_with fail
  refine (HS.out _).mono ?_
  rintro e w3 ⟨⟨a, b, c, rfl⟩, rfl⟩
  have B2 := Lib.hid b2
  clear b2
  go_wp2_with fail
  refine bodyPost_ret (v := .tuple #[.slice none 0 0, .int .i64 1]) (by simp [results, Tryd.results50, go_sem]) rfl ?_
  exact ⟨rfl, B2.out⟩
set_option maxRecDepth 100000 in
theorem rdel_bad (g : Nat) (most : Int) (t : Tr) (x n : Int) (w : World) (h : IsR w g most t) (ok : t.Ok) (hx : ¬ In3 x n t.len) :
    Calls Tryd.prog 50 #[.pointer (some ⟨g, 0, none⟩), .int .i64 x, .int .i64 n] w fun e w' => e = .returned (.tuple #[.slice none 0 0, .int .i64 1]) ∧ AnyLater w w' := by
  have HL := Lib.hid (rlen_any _ t w (.inr ⟨g, most, rfl, h⟩))
  have hlen := ok.len
  have HS := Lib.hid (fun w' => rspan_no x n t.len w' hx (by omega) (by omega))
  clear h ok hx
  generalize t.len = m at *
  go_enter Tryd.func50, Tryd.ntmps50
  go_wp2_with fail
  refine HL.out.mono ?_
  rintro e w2 ⟨rfl, b2⟩
  have B2 := Lib.hid b2
  clear b2
  go_wp2_with fail
  refine (HS.out _).mono ?_
  rintro e w3 ⟨rfl, rfl⟩
  go_wp2_with fail
  refine bodyPost_ret (v := .tuple #[.slice none 0 0, .int .i64 1]) (by simp [results, Tryd.results50, go_sem]) rfl ?_
  exact ⟨rfl, B2.out⟩
set_option maxRecDepth 100000 in
theorem rdel_none (g : Nat) (most : Int) (t : Tr) (x : Int) (w : World) (h : IsR w g most t) (ok : t.Ok) (hx : In3 x 0 t.len) :
    Calls Tryd.prog 50 #[.pointer (some ⟨g, 0, none⟩), .int .i64 x, .int .i64 0] w fun e w' => e = .returned (.tuple #[.slice none 0 0, .int .i64 0]) ∧ AnyLater w w' := by
  have HL := Lib.hid (rlen_any _ t w (.inr ⟨g, most, rfl, h⟩))
  have hlen := ok.len
  have HS := Lib.hid (fun w' => rspan_yes x 0 t.len w' hx (by omega))
  clear h ok hx
  generalize t.len = m at *
  go_enter Tryd.func50, Tryd.ntmps50
  go_wp2_with fail
  refine HL.out.mono ?_
  rintro e w2 ⟨rfl, b2⟩
  have B2 := Lib.hid b2
  clear b2
  go_wp2_with fail
  refine (HS.out _).mono ?_
  rintro e w3 ⟨rfl, rfl⟩
  go_wp2_with fail
  refine bodyPost_ret (v := .tuple #[.slice none 0 0, .int .i64 0]) (by simp [results, Tryd.results50, go_sem]) rfl ?_
  exact ⟨rfl, B2.out⟩
/-- what a text is behind bytes are taken away -/
def delT (t : Tr) (i m : Nat) : Tr := Tr.meet (Tr.split (Tr.split t (i + m)).1 i).1 (Tr.split t (i + m)).2
theorem delT_bs (t : Tr) (i m : Nat) : (delT t i m).bs = t.bs.take i ++ t.bs.drop (i + m) := by
  unfold delT
  rw [Tr.bs_meet, (Tr.bs_split _ i).1, (Tr.bs_split t (i + m)).1, (Tr.bs_split t (i + m)).2, List.take_take, Nat.min_eq_left (Nat.le_add_right i m)]
theorem delT_ok {t : Tr} {i m : Nat} (ok : t.Ok) : (delT t i m).Ok := by
  obtain ⟨f1, f2⟩ := Tr.fair_split t (i + m) ok.fair
  obtain ⟨e1, e2⟩ := Tr.even_split t (i + m) ok.even
  refine ⟨Tr.fair_meet (Tr.fair_split _ i f1).1 f2, Tr.even_meet _ _ (Tr.even_split _ i e1).1 e2, ?_⟩
  have := ok.len
  rw [← Tr.len_bs, delT_bs, List.length_append, List.length_take, List.length_drop, Tr.len_bs]; omega
set_option maxRecDepth 100000 in
set_option maxHeartbeats 1600000 in
theorem rdel_yes (g : Nat) (most : Int) (t : Tr) (i m : Nat) (w : World) (h : IsR w g most t) (ok : t.Ok) (hi : i + m ≤ t.len) (hm : 0 < m) :
    Calls Tryd.prog 50 #[.pointer (some ⟨g, 0, none⟩), .int .i64 (i : Int), .int .i64 (m : Int)] w fun e w' => ∃ u, e = .returned (.tuple #[u, .int .i64 0]) ∧ But g w w' ∧ IsR w' g most (delT t i m) ∧ isB ((t.bs.drop i).take m) u w' := by
  have HL := Lib.hid (rlen_any _ t w (.inr ⟨g, most, rfl, h⟩))
  have hlen := ok.len
  have HS := Lib.hid (fun w' => rspan_yes (i : Int) (m : Int) t.len w' ⟨by omega, by omega, by omega, by omega⟩ (by omega))
  have hcut : cutZ t.bs (i : Int) ((i : Int) + (m : Int)) = (t.bs.drop i).take m := by
    unfold cutZ
    rw [show ((i : Int) + (m : Int)).toNat = i + m by omega, Int.toNat_natCast, List.drop_take, Nat.add_sub_cancel_left]
  have HP := Lib.hid (fun (w' : World) (b : AnyLater w w') => rpart_any (.pointer (some ⟨g, 0, none⟩)) t (i : Int) ((i : Int) + (m : Int)) _ hcut w' (.inr ⟨g, most, rfl, h.later b⟩) ok)
  obtain ⟨rv, hg, ht⟩ := h
  have HG := Lib.hid hg
  obtain ⟨f1, f2⟩ := Tr.fair_split t (i + m) ok.fair
  obtain ⟨l1, l2⟩ := Tr.len_split t (i + m) hi
  have f3 := (Tr.fair_split _ i f1).1
  have l3 := (Tr.len_split (Tr.split t (i + m)).1 i (by omega)).1
  have HS1 := Lib.hid (fun (w' : World) (a : AnyLater w w') => split_any t (i + m) ((i : Int) + (m : Int)) rv w' (by omega) (ht.later a) ok.fair (by omega) (by omega))
  have HS2 := Lib.hid (fun (w' : World) (u : Value) (hu : IsT w' (Tr.split t (i + m)).1 u) => split_any (Tr.split t (i + m)).1 i (i : Int) u w' rfl hu f1 (by omega) (by omega))
  have HM := Lib.hid (fun (w' : World) (u1 u2 : Value) (h1 : IsT w' (Tr.split (Tr.split t (i + m)).1 i).1 u1) (h2 : IsT w' (Tr.split t (i + m)).2 u2) => (meet_any _ _ u1 u2 w' h1 h2 f3 f2 (by omega) : Calls Tryd.prog 65 #[u1, u2] w' (Ans (isT (delT t i m)) w')))
  obtain ⟨q, rfl⟩ := ht.ptr
  have d6 : ((m : Int) == 0) = false := by simpa using (by omega : m ≠ 0)
  have d7 : (m == 0) = false := by simpa using (by omega : m ≠ 0)
  have i9 : i ≤ 60000 := by omega
  have m9 : m ≤ 60000 := by omega
  clear ht hg ok hi f1 f2 f3 l1 l2 l3 hcut hm
  generalize t.len = n at *
  go_enter Tryd.func50, Tryd.ntmps50
  go_wp2_with fail
  refine HL.out.mono ?_
  rintro e w1 ⟨rfl, b_w1⟩
  have a_w1 := b_w1
  have s0_w1 := any_own a_w1 HG.out
  go_wp2_with fail
  refine (HS.out _).mono ?_
  rintro e w1' ⟨rfl, rfl⟩
  go_wp2_with fail
  refine (HP.out _ a_w1).mono ?_
  rintro e w2 ⟨gv, rfl, b_w2, hgv⟩
  have z_w2 := b_w2.below.size
  have a_w2 := a_w1.trans b_w2
  have s0_w2 := any_own b_w2 s0_w1
  have r0_w2 := own_row s0_w2
  have f0_w2 := own_free s0_w2
  have l0_w2 := own_lt s0_w2
  (try clear r0_w1); (try clear f0_w1)
  have HGV := Lib.hid hgv
  obtain ⟨A9, cap9, rfl, -⟩ := RT.form hgv
  clear hgv
  generalize ((t.bs.drop i).take m).length = m3 at *
  go_wp2_with fail
  refine (HS1.out _ a_w2).mono ?_
  rintro e w3 ⟨_, rfl, b_w3, u1, u2, rfl, t1, t2⟩
  have z_w3 := b_w3.below.size
  have a_w3 := a_w2.trans b_w3
  have s0_w3 := any_own b_w3 s0_w2
  have r0_w3 := own_row s0_w3
  have f0_w3 := own_free s0_w3
  have l0_w3 := own_lt s0_w3
  (try clear r0_w2); (try clear f0_w2)
  have HT := Lib.hid (And.intro t1 t2)
  clear t1 t2
  go_wp2_with fail
  refine (HS2.out _ _ HT.out.1).mono ?_
  rintro e w4 ⟨_, rfl, b_w4, u3, u4, rfl, t3, t4⟩
  have z_w4 := b_w4.below.size
  have a_w4 := a_w3.trans b_w4
  have s0_w4 := any_own b_w4 s0_w3
  have r0_w4 := own_row s0_w4
  have f0_w4 := own_free s0_w4
  have l0_w4 := own_lt s0_w4
  (try clear r0_w3); (try clear f0_w3)
  have HT2 := Lib.hid t3
  clear t3 t4
  go_wp2_with fail
  refine (HM.out _ _ _ HT2.out (HT.out.2.later b_w4)).mono ?_
  rintro e w5 ⟨u5, rfl, b_w5, t5⟩
  have z_w5 := b_w5.below.size
  have a_w5 := a_w4.trans b_w5
  have s0_w5 := any_own b_w5 s0_w4
  have r0_w5 := own_row s0_w5
  have f0_w5 := own_free s0_w5
  have l0_w5 := own_lt s0_w5
  (try clear r0_w4); (try clear f0_w4)
  have HT5 := Lib.hid t5
  obtain ⟨q5, rfl⟩ := IsT.ptr t5
  clear t5
  go_wp2_with fail
  refine bodyPost_ret (v := .tuple #[.slice A9 m3 cap9, .int .i64 0]) (by simp [results, Tryd.results50, go_sem]) rfl ?_
  exact ⟨_, rfl, (But.of a_w5).setCell 0 _, ⟨_, heap_at s0_w5 rfl, IsT.far s0_w5 (by decide) (by decide) (by decide) HT5.out⟩, RT.far (RT.later HGV.out (b_w3.trans (b_w4.trans b_w5))) s0_w5 (by decide)⟩

end Go.Proofs.YtdhgombgbjldgaaDoor
