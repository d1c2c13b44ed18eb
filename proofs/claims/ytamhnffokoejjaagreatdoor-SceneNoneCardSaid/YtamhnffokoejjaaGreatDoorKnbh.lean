/- what the proof stands on: RopM RopO -/
import Derived.Lib.JoinLaws
import Derived.Test.YtamhnffokoejjaaGreatDoorKnbg
namespace Go.Proofs.YtamhnffokoejjaaGreatDoor
set_option linter.unusedSimpArgs false
set_option linter.unusedVariables false
set_option linter.unusedSectionVars false
open Go.RowKit
structure But (g : Nat) (w w' : World) : Prop where
  os : w'.os = w.os
  tape : w'.tape = w.tape
  output : w'.output = w.output
  size : w.heap.size ≤ w'.heap.size
  block : ∀ k, k < w.heap.size → k ≠ g → w'.heap[k]? = w.heap[k]?
theorem But.of {g : Nat} {w w' : World} (h : AnyLater w w') : But g w w' := ⟨h.below.os, h.below.tape, h.below.output, h.below.size, fun k hk _ => h.below.block k hk⟩
theorem But.setCell {g : Nat} {w w' : World} (h : But g w w') (i : Nat) (v : Value) : But g w (w'.setCell ⟨g, i, none⟩ v) :=
  ⟨h.os, h.tape, h.output, by rw [World.size_setCell]; exact h.size, fun k hk hn => (heap_far hn (h.block k hk hn))⟩
theorem But.any {W : World} {g : Nat} {w w' : World} (hW : AnyLater W w) (hg : W.heap.size ≤ g) (h : But g w w') : AnyLater W w' :=
  .of ⟨h.os.trans hW.below.os, h.tape.trans hW.below.tape, h.output.trans hW.below.output, Nat.le_trans hW.below.size h.size,
    fun k hk => (h.block k (Nat.lt_of_lt_of_le hk hW.below.size) (fun e => by omega)).trans (hW.below.block k hk)⟩
def isB (l : List Int) (v : Value) (w : World) : Prop := RT .u8 5 w v l
theorem isB_stays {l : List Int} {v : Value} {w w' : World} (h : AnyLater w w') (s : isB l v w) : isB l v w' := RT.later s h
theorem cutZ_else {l : List Int} {f t : Int} {i j : Nat} (mi : (i : Int) = midZ f 0 l.length) (mj : (j : Int) = midZ t 0 l.length) (hij : ¬ i < j) : cutZ l f t = [] := by
  unfold cutZ
  apply List.drop_of_length_le
  rw [List.length_take]
  unfold midZ at mi mj
  split at mi <;> (try split at mi) <;> split at mj <;> (try split at mj) <;> omega
set_option maxRecDepth 100000 in
theorem rpart_none (v : Value) (t : Tr) (x y : Int) (i j : Nat) (w : World) (h : IsRN w v t) (mi : midZ x 0 (t.len : Int) = (i : Int)) (mj : midZ y 0 (t.len : Int) = (j : Int)) (hij : ¬ i < j) :
    Calls Tryz.prog 62 #[v, .int .i64 x, .int .i64 y] w (Ans (isB []) w) := by
  have HL := Lib.hid (fun (w' : World) (b : AnyLater w w') => rlen_any v t w' (h.later b))
  have HM1 := Lib.hid (fun w' => rclamp_any x 0 t.len w' _ mi)
  have HM2 := Lib.hid (fun w' => rclamp_any y 0 t.len w' _ mj)
  have d1 : (j : Int) ≤ (i : Int) := by omega
  clear h mi mj
  generalize t.len = n at *
  go_enter Tryz.func62, Tryz.ntmps62
  go_wp2_with fail
  refine (HL.out _ (AnyLater.refl _)).mono ?_
  rintro e w2 ⟨rfl, b2⟩
  have B2 := Lib.hid b2
  clear b2
  go_wp2_with fail
  refine (HM1.out _).mono ?_
  rintro e w2' ⟨rfl, rfl⟩
  go_wp2_with fail
  refine (HL.out _ B2.out).mono ?_
  rintro e w3 ⟨rfl, b3⟩
  have B3 := Lib.hid (B2.out.trans b3)
  clear b3
  go_wp2_with fail
  refine (HM2.out _).mono ?_
  rintro e w3' ⟨rfl, rfl⟩
  go_wp2_with fail
  go_ret
  exact ⟨_, rfl, B3.out, RT.nil _⟩
set_option maxRecDepth 100000 in
set_option maxHeartbeats 1600000 in
theorem rpart_some (g : Nat) (most : Int) (t : Tr) (x y : Int) (i c : Nat) (w : World) (h : IsR w g most t) (ok : t.Ok) (mi : midZ x 0 (t.len : Int) = (i : Int)) (mj : midZ y 0 (t.len : Int) = ((i + c : Nat) : Int)) (hi : i + c ≤ t.len) (hc : 0 < c) :
    Calls Tryz.prog 62 #[.pointer (some ⟨g, 0, none⟩), .int .i64 x, .int .i64 y] w (Ans (isB (cutZ t.bs i ((i : Int) + (c : Int)))) w) := by
  have hlen := ok.len
  have HL := Lib.hid (fun (w' : World) (b : AnyLater w w') => rlen_any _ t w' (.inr ⟨g, most, rfl, h.later b⟩))
  have HM1 := Lib.hid (fun w' => rclamp_any x 0 t.len w' _ mi)
  have HM2 := Lib.hid (fun w' => rclamp_any y 0 t.len w' _ mj)
  obtain ⟨rv, hg, ht⟩ := h
  have HE := Lib.hid (fun (X : Nat) (w' : World) (hX : w.heap.size ≤ X) (hw : OutS w X w' []) => each_any w X hX t rv (i : Int) ((i : Int) + (c : Int)) w' [] ht hw (by simp only [List.length_nil]; omega) (by omega) (by omega) (by omega) (by omega))
  have hm0 := run_make_room (P := Tryz.prog) 22 5 (.int .u8 0) 1 Tryz.underlying22 info_u8 rfl .i64 .i64 c (by omega) (by omega)
  obtain ⟨q, rfl⟩ := ht.ptr
  have HG := Lib.hid hg
  have d1 : decide ((i : Int) + (c : Int) ≤ (i : Int)) = false := decide_eq_false (by omega)
  have d2 : decide (c = 0) = false := decide_eq_false (by omega)
  have d3 : (i : Int) + (c : Int) - (i : Int) = (c : Int) := by omega
  have i9 : i ≤ 60000 := by omega
  have c9 : c ≤ 60000 := by omega
  clear ht ok mi mj hg
  generalize t.len = n at *
  go_enter Tryz.func62, Tryz.ntmps62
  go_wp2_with fail
  refine (HL.out _ (AnyLater.refl _)).mono ?_
  rintro e w2 ⟨rfl, b2⟩
  have B2 := Lib.hid b2
  clear b2
  go_wp2_with fail
  refine (HM1.out _).mono ?_
  rintro e w2' ⟨rfl, rfl⟩
  go_wp2_with fail
  refine (HL.out _ B2.out).mono ?_
  rintro e w3 ⟨rfl, b3⟩
  have B3 := Lib.hid (B2.out.trans b3)
  have s3 := any_own B3.out HG.out
  have r3 := own_row s3
  have l3 := own_lt s3
  clear b3 s3
  go_wp2_with fail
  refine (HM2.out _).mono ?_
  rintro e w3' ⟨rfl, rfl⟩
  go_wp2_with fail
  refine (HE.out _ _ ?_ ⟨?_, _, heap_new (by simp), ⟨rfl, .inr ⟨w3.heap.size, c, madeCells #[.int .u8 0] c, rfl, ?_, heap_old (by simp) (heap_new rfl), Nat.zero_le _, by unfold maxLen; omega, by rw [size_madeCells, Nat.mul_one], rfl⟩⟩⟩).mono ?_
  · have := B3.out.below.size; omega
  · have b3 := B3.out
    repeat' (first | with_reducible assumption | with_reducible exact AnyLater.refl _ | with_reducible apply AnyLater.setCell | with_reducible apply AnyLater.later | with_reducible apply AnyLater.drewN | with_reducible apply AnyLater.drew | with_reducible apply AnyLater.alloc | ((try simp only [World.size_alloc, World.size_setCell, World.size_drew]); (try dsimp only); omega))
  · exact B3.out.below.size
  rintro e w4 ⟨rfl, hW, ov, hx, ho⟩
  rw [List.nil_append] at ho
  have H4 := Lib.hid (And.intro hW ho.rt)
  obtain ⟨A, cap, rfl, -⟩ := ho.form
  have r4 := own_row hx
  clear hW hx ho r3
  go_wp2_with fail
  go_ret
  exact ⟨_, rfl, H4.out.1, H4.out.2⟩
theorem rpart_any (v : Value) (t : Tr) (x y : Int) (l : List Int) (hl : cutZ t.bs x y = l) (w : World) (h : IsRN w v t) (ok : t.Ok) :
    Calls Tryz.prog 62 #[v, .int .i64 x, .int .i64 y] w (Ans (isB l) w) := by
  subst hl
  obtain ⟨i, ei, hi, mi⟩ := midZ_cast x 0 t.len
  obtain ⟨j, ej, hj, mj⟩ := midZ_cast y 0 t.len
  simp only [Nat.zero_add, Int.natCast_zero, Int.sub_zero] at ei ej mi mj
  rw [← Tr.len_bs] at mi mj
  by_cases hij : i < j
  · obtain ⟨c, rfl⟩ : ∃ c, j = i + c := ⟨j - i, by omega⟩
    rcases h with ⟨rfl, rfl⟩ | ⟨g, most, rfl, h⟩
    · simp only [Tr.len] at hj; omega
    · have e : cutZ t.bs x y = cutZ t.bs (i : Int) ((i : Int) + (c : Int)) := by
        rw [cutZ_some mi mj hij]
        unfold cutZ
        rw [show ((i : Int) + (c : Int)).toNat = i + c by omega, Int.toNat_natCast, List.drop_take]
      rw [e]
      exact rpart_some g most t x y i c w h ok ei ej hj (by omega)
  · rw [cutZ_else mi mj hij]
    exact rpart_none v t x y i j w h ei ej hij
set_option maxRecDepth 100000 in
theorem rins_full (g : Nat) (most : Int) (t : Tr) (i m : Nat) (A : Option Addr) (cap : Nat) (w : World) (h : IsR w g most t) (ok : t.Ok) (hi : i ≤ t.len) (hm : most - t.len < m) (hmost : 0 ≤ most ∧ most ≤ 16777216) :
    Calls Tryz.prog 121 #[.pointer (some ⟨g, 0, none⟩), .int .i64 (i : Int), .slice A m cap] w fun e w' => e = .returned (.int .i64 2) ∧ AnyLater w w' := by
  have HL := Lib.hid (fun (w' : World) (b : AnyLater w w') => rlen_any _ t w' (.inr ⟨g, most, rfl, h.later b⟩))
  have hlen := ok.len
  obtain ⟨rv, hg, ht⟩ := h
  have HG := Lib.hid hg
  obtain ⟨h1, h2⟩ := hmost
  have d1 : decide ((i : Int) < 0) = false := decide_eq_false (by omega)
  have d2 : decide ((t.len : Int) < (i : Int)) = false := decide_eq_false (by omega)
  have d3 : decide (t.len < i) = false := decide_eq_false (by omega)
  clear ht hg ok hi
  generalize t.len = n at *
  go_enter Tryz.func121, Tryz.ntmps121
  go_wp2_with fail
  refine (HL.out _ (AnyLater.refl _)).mono ?_
  rintro e w1 ⟨rfl, b_w1⟩
  have a_w1 := b_w1
  have s0_w1 := any_own a_w1 HG.out
  go_wp2_with fail
  apply wp_region_mem (10) [] (by kernel_rfl) (by kernel_rfl) (by simp)
  case hstab =>
    intro e he v x y hxy hv
    simp only [List.mem_cons, List.not_mem_nil, or_false] at he
  case hlex =>
    intro U
    have q0 := fun (v : Later (later U)) => own_row (any_own ⟨v, rfl⟩ (any_own ⟨U, rfl⟩ s0_w1))
    simp only [absFrom, absOp, idx, List.map_cons, List.map_nil, List.contains_cons, List.contains_nil, Nat.reduceBEq, Bool.or_false, Bool.false_or, Bool.true_or, Bool.or_true, Bool.false_eq_true, Nat.reduceLeDiff, Nat.reduceAdd, if_false, if_true]
    repeat (go_big_quiet_step ((go_at_call 102; exact in_later (HL.out _ (by repeat' (first | with_reducible assumption | with_reducible exact AnyLater.refl _ | with_reducible apply AnyLater.setCell | with_reducible apply AnyLater.later | with_reducible apply AnyLater.drewN | with_reducible apply AnyLater.drew | with_reducible apply AnyLater.alloc | ((try simp only [World.size_alloc, World.size_setCell, World.size_drew]); (try dsimp only); omega)))))))
    exact wpQuiet_nil rfl
  case hown =>
    intro e he o ho
    simp only [List.mem_cons, List.not_mem_nil, or_false] at he
  case htail =>
    intro g u hst hne
    have b_w2 : AnyLater w1 (later u) := ⟨u, rfl⟩
    generalize later u = w2 at *
    clear u
    clear hst hne
    simp only [fillAll, Act.put, List.setIfInBounds_toArray, List.set_cons_zero, List.set_cons_succ, List.drop_succ_cons, List.drop_zero]
    have z_w2 := b_w2.below.size
    have a_w2 := a_w1.trans b_w2
    have s0_w2 := any_own b_w2 s0_w1
    have r0_w2 := own_row s0_w2
    have f0_w2 := own_free s0_w2
    have l0_w2 := own_lt s0_w2
    (try clear r0_w1); (try clear f0_w1)
    go_wp2_with fail
    go_ret
    exact ⟨rfl, a_w2⟩
set_option maxRecDepth 100000 in
theorem rins_none (g : Nat) (most : Int) (t : Tr) (i : Nat) (A : Option Addr) (cap : Nat) (w : World) (h : IsR w g most t) (ok : t.Ok) (hi : i ≤ t.len) (hm : (t.len : Int) ≤ most) (hmost : 0 ≤ most ∧ most ≤ 16777216) :
    Calls Tryz.prog 121 #[.pointer (some ⟨g, 0, none⟩), .int .i64 (i : Int), .slice A 0 cap] w fun e w' => e = .returned (.int .i64 0) ∧ AnyLater w w' := by
  have HL := Lib.hid (fun (w' : World) (b : AnyLater w w') => rlen_any _ t w' (.inr ⟨g, most, rfl, h.later b⟩))
  have hlen := ok.len
  obtain ⟨rv, hg, ht⟩ := h
  have HG := Lib.hid hg
  obtain ⟨h1, h2⟩ := hmost
  have d1 : decide ((i : Int) < 0) = false := decide_eq_false (by omega)
  have d2 : decide ((t.len : Int) < (i : Int)) = false := decide_eq_false (by omega)
  have d3 : decide (t.len < i) = false := decide_eq_false (by omega)
  have d4 : decide (most - (t.len : Int) < 0) = false := decide_eq_false (by omega)
  clear ht hg ok hi
  generalize t.len = n at *
  go_enter Tryz.func121, Tryz.ntmps121
  go_wp2_with fail
  refine (HL.out _ (AnyLater.refl _)).mono ?_
  rintro e w1 ⟨rfl, b_w1⟩
  have a_w1 := b_w1
  have s0_w1 := any_own a_w1 HG.out
  go_wp2_with fail
  apply wp_region_mem (10) [] (by kernel_rfl) (by kernel_rfl) (by simp)
  case hstab =>
    intro e he v x y hxy hv
    simp only [List.mem_cons, List.not_mem_nil, or_false] at he
  case hlex =>
    intro U
    have q0 := fun (v : Later (later U)) => own_row (any_own ⟨v, rfl⟩ (any_own ⟨U, rfl⟩ s0_w1))
    simp only [absFrom, absOp, idx, List.map_cons, List.map_nil, List.contains_cons, List.contains_nil, Nat.reduceBEq, Bool.or_false, Bool.false_or, Bool.true_or, Bool.or_true, Bool.false_eq_true, Nat.reduceLeDiff, Nat.reduceAdd, if_false, if_true]
    repeat (go_big_quiet_step ((go_at_call 102; exact in_later (HL.out _ (by repeat' (first | with_reducible assumption | with_reducible exact AnyLater.refl _ | with_reducible apply AnyLater.setCell | with_reducible apply AnyLater.later | with_reducible apply AnyLater.drewN | with_reducible apply AnyLater.drew | with_reducible apply AnyLater.alloc | ((try simp only [World.size_alloc, World.size_setCell, World.size_drew]); (try dsimp only); omega)))))))
    exact wpQuiet_nil rfl
  case hown =>
    intro e he o ho
    simp only [List.mem_cons, List.not_mem_nil, or_false] at he
  case htail =>
    intro g u hst hne
    have b_w2 : AnyLater w1 (later u) := ⟨u, rfl⟩
    generalize later u = w2 at *
    clear u
    clear hst hne
    simp only [fillAll, Act.put, List.setIfInBounds_toArray, List.set_cons_zero, List.set_cons_succ, List.drop_succ_cons, List.drop_zero]
    have z_w2 := b_w2.below.size
    have a_w2 := a_w1.trans b_w2
    have s0_w2 := any_own b_w2 s0_w1
    have r0_w2 := own_row s0_w2
    have f0_w2 := own_free s0_w2
    have l0_w2 := own_lt s0_w2
    (try clear r0_w1); (try clear f0_w1)
    go_wp2_with fail
    go_ret
    exact ⟨rfl, a_w2⟩
def insT (t : Tr) (i : Nat) (b : List Int) : Tr := Tr.join (Tr.split t i).1 ⟨b, 0⟩ (Tr.split t i).2
theorem insT_bs (t : Tr) (i : Nat) (b : List Int) : (insT t i b).bs = t.bs.take i ++ (b ++ t.bs.drop i) := by
  unfold insT
  obtain ⟨h1, h2⟩ := Tr.bs_split t i
  rw [Tr.bs_join, h1, h2]
theorem insT_ok {t : Tr} {i : Nat} {b : List Int} (ok : t.Ok) (hi : i ≤ t.len) (h0 : 0 < b.length) (hb : Bytes b) (hl : t.len + b.length ≤ 60000) : (insT t i b).Ok := by
  obtain ⟨f1, f2⟩ := Tr.fair_split t i ok.fair
  obtain ⟨e1, e2⟩ := Tr.even_split t i ok.even
  refine ⟨Tr.fair_join f1 ⟨h0, Int.le_refl _, by simp only; omega, hb⟩ f2, Tr.even_join _ _ _ e1 e2, ?_⟩
  rw [← Tr.len_bs, insT_bs, List.length_append, List.length_append, List.length_take, List.length_drop, Tr.len_bs]; omega
set_option maxRecDepth 100000 in
set_option maxHeartbeats 1600000 in
theorem rins_yes (g : Nat) (most : Int) (t : Tr) (i : Nat) (u : Value) (b : List Int) (w : World) (h : IsR w g most t) (ok : t.Ok) (hi : i ≤ t.len) (hu : RN .u8 w u b) (hb : Bytes b) (h0 : 0 < b.length) (hm : (t.len : Int) + b.length ≤ most) (hmost : 0 ≤ most ∧ most ≤ 16777216) (hl : t.len + b.length ≤ 60000) :
    Calls Tryz.prog 121 #[.pointer (some ⟨g, 0, none⟩), .int .i64 (i : Int), u] w fun e w' => e = .returned (.int .i64 0) ∧ But g w w' ∧ IsR w' g most (insT t i b) := by
  have HL := Lib.hid (fun (w' : World) (b : AnyLater w w') => rlen_any _ t w' (.inr ⟨g, most, rfl, h.later b⟩))
  have hlen := ok.len
  obtain ⟨rv, hg, ht⟩ := h
  have HG := Lib.hid hg
  obtain ⟨f1, f2⟩ := Tr.fair_split t i ok.fair
  obtain ⟨l1, l2⟩ := Tr.len_split t i hi
  have HSp := Lib.hid (fun (w' : World) (a : AnyLater w w') => rsplit_any t i (i : Int) rv w' rfl (ht.later a) ok.fair (by omega) (by omega))
  have HPc := Lib.hid (fun (w' : World) (a : AnyLater w w') => pieceOf_any u b w' (hu.later a) hb h0 (by omega))
  have HJ := Lib.hid (fun (w' : World) (u1 u2 pv : Value) (h1 : IsT w' (Tr.split t i).1 u1) (h2 : IsT w' (Tr.split t i).2 u2) (hp : isPc ⟨b, 0⟩ pv w') => (by
    obtain ⟨x, y, rfl, hp⟩ := hp
    exact rjoin_any _ _ _ u1 u2 x y w' (insT t i b) rfl h1 h2 hp f1 ⟨h0, Int.le_refl _, by simp only; omega, hb⟩ f2 (by rw [l1, l2]; simp only; omega) : Calls Tryz.prog 169 #[u1, pv, u2] w' (Ans (isT (insT t i b)) w')))
  obtain ⟨A, cap, rfl, -⟩ := hu.form
  obtain ⟨q, rfl⟩ := ht.ptr
  obtain ⟨k1, k2⟩ := hmost
  have d1 : decide ((i : Int) < 0) = false := decide_eq_false (by omega)
  have d2 : decide ((t.len : Int) < (i : Int)) = false := decide_eq_false (by omega)
  have d3 : decide (t.len < i) = false := decide_eq_false (by omega)
  have d4 : decide (most - (t.len : Int) < (b.length : Int)) = false := decide_eq_false (by omega)
  have d5 : decide (b.length = 0) = false := decide_eq_false (by omega)
  have d6 : ((b.length : Int) == 0) = false := by simpa using (by omega : b.length ≠ 0)
  have d7 : (b.length == 0) = false := by simpa using (by omega : b.length ≠ 0)
  clear ht hg ok hi hu f1 f2 l1 l2 h0
  generalize t.len = n at *
  generalize b.length = m at *
  go_enter Tryz.func121, Tryz.ntmps121
  go_wp2_with fail
  refine (HL.out _ (AnyLater.refl _)).mono ?_
  rintro e w1 ⟨rfl, b_w1⟩
  have a_w1 := b_w1
  have s0_w1 := any_own a_w1 HG.out
  go_wp2_with fail
  apply wp_region_mem (10) [] (by kernel_rfl) (by kernel_rfl) (by simp)
  case hstab =>
    intro e he v x y hxy hv
    simp only [List.mem_cons, List.not_mem_nil, or_false] at he
  case hlex =>
    intro U
    have q0 := fun (v : Later (later U)) => own_row (any_own ⟨v, rfl⟩ (any_own ⟨U, rfl⟩ s0_w1))
    simp only [absFrom, absOp, idx, List.map_cons, List.map_nil, List.contains_cons, List.contains_nil, Nat.reduceBEq, Bool.or_false, Bool.false_or, Bool.true_or, Bool.or_true, Bool.false_eq_true, Nat.reduceLeDiff, Nat.reduceAdd, if_false, if_true]
    repeat (go_big_quiet_step ((go_at_call 102; exact in_later (HL.out _ (by repeat' (first | with_reducible assumption | with_reducible exact AnyLater.refl _ | with_reducible apply AnyLater.setCell | with_reducible apply AnyLater.later | with_reducible apply AnyLater.drewN | with_reducible apply AnyLater.drew | with_reducible apply AnyLater.alloc | ((try simp only [World.size_alloc, World.size_setCell, World.size_drew]); (try dsimp only); omega)))))))
    exact wpQuiet_nil rfl
  case hown =>
    intro e he o ho
    simp only [List.mem_cons, List.not_mem_nil, or_false] at he
  case htail =>
    intro g u hst hne
    have b_w2 : AnyLater w1 (later u) := ⟨u, rfl⟩
    generalize later u = w2 at *
    clear u
    clear hst hne
    simp only [fillAll, Act.put, List.setIfInBounds_toArray, List.set_cons_zero, List.set_cons_succ, List.drop_succ_cons, List.drop_zero]
    have z_w2 := b_w2.below.size
    have a_w2 := a_w1.trans b_w2
    have s0_w2 := any_own b_w2 s0_w1
    have r0_w2 := own_row s0_w2
    have f0_w2 := own_free s0_w2
    have l0_w2 := own_lt s0_w2
    (try clear r0_w1); (try clear f0_w1)
    go_wp2_with fail
    refine (HSp.out _ a_w2).mono ?_
    rintro e w3 ⟨_, rfl, b_w3, u1, u2, rfl, t1, t2⟩
    have z_w3 := b_w3.below.size
    have a_w3 := a_w2.trans b_w3
    have s0_w3 := any_own b_w3 s0_w2
    have r0_w3 := own_row s0_w3
    have f0_w3 := own_free s0_w3
    have l0_w3 := own_lt s0_w3
    (try clear r0_w2); (try clear f0_w2)
    have HT := Lib.hid (And.intro t1 t2)
    clear t1 t2
    go_wp2_with fail
    refine (HPc.out _ a_w3).mono ?_
    rintro e w4 ⟨pv, rfl, b_w4, hp⟩
    have z_w4 := b_w4.below.size
    have a_w4 := a_w3.trans b_w4
    have s0_w4 := any_own b_w4 s0_w3
    have r0_w4 := own_row s0_w4
    have f0_w4 := own_free s0_w4
    have l0_w4 := own_lt s0_w4
    (try clear r0_w3); (try clear f0_w3)
    have HP := Lib.hid hp
    clear hp
    go_wp2_with fail
    refine (HJ.out _ _ _ _ (HT.out.1.later b_w4) (HT.out.2.later b_w4) HP.out).mono ?_
    rintro e w5 ⟨u5, rfl, b_w5, t5⟩
    have z_w5 := b_w5.below.size
    have a_w5 := a_w4.trans b_w5
    have s0_w5 := any_own b_w5 s0_w4
    have r0_w5 := own_row s0_w5
    have f0_w5 := own_free s0_w5
    have l0_w5 := own_lt s0_w5
    (try clear r0_w4); (try clear f0_w4)
    have HT5 := Lib.hid t5
    obtain ⟨q5, rfl⟩ := IsT.ptr t5
    clear t5
    go_wp2_with fail
    go_ret
    exact ⟨rfl, (But.of a_w5).setCell 0 _, _, heap_at s0_w5 rfl, IsT.far s0_w5 (by decide) (by decide) (by decide) HT5.out⟩
set_option maxRecDepth 100000 in
theorem rnew_yes (u : Value) (b : List Int) (most : Int) (w : World) (hu : RN .u8 w u b) (hb : Bytes b) (h0 : 0 < b.length) (hm : (b.length : Int) ≤ most) (hmost : 0 ≤ most ∧ most ≤ 16777216) (hl : b.length ≤ 60000) :
    Calls Tryz.prog 87 #[u, .int .i64 most] w fun e w' => ∃ g, e = .returned (.tuple #[.pointer (some ⟨g, 0, none⟩), .int .i64 0]) ∧ AnyLater w w' ∧ w.heap.size ≤ g ∧ IsR w' g most (insT .nil 0 b) := by
  have HI : Hid (∀ w', AnyLater w w' → w'.heap[w.heap.size]? = some (.cells #[.pointer none, .int .i64 most] 146) → Calls Tryz.prog 121 #[.pointer (some ⟨w.heap.size, 0, none⟩), .int .i64 0, u] w' fun e w'' => e = .returned (.int .i64 0) ∧ But w.heap.size w' w'' ∧ IsR w'' w.heap.size most (insT .nil 0 b)) := Lib.hid (fun w' a hg => by
    have h : IsR w' w.heap.size most .nil := ⟨_, hg, rfl⟩
    exact rins_yes w.heap.size most .nil 0 u b w' h ⟨trivial, trivial, Nat.zero_le _⟩ (Nat.zero_le _) (hu.later a) hb h0 (by simp only [Tr.len]; omega) hmost (by simp only [Tr.len]; omega))
  obtain ⟨A, cap, rfl, -⟩ := hu.form
  obtain ⟨k1, k2⟩ := hmost
  have d1 : decide (most < 0) = false := decide_eq_false (by omega)
  have d2 : decide (16777216 < most) = false := decide_eq_false (by omega)
  clear hu h0 hm hb
  go_enter Tryz.func87, Tryz.ntmps87
  go_wp2_with fail
  have s0 : (w.alloc (.cells #[.pointer none, .int .i64 most] 146)).heap[w.heap.size]? = some (.cells #[.pointer none, .int .i64 most] 146) := heap_new rfl
  refine (HI.out _ (by repeat' (first | with_reducible assumption | with_reducible exact AnyLater.refl _ | with_reducible apply AnyLater.setCell | with_reducible apply AnyLater.later | with_reducible apply AnyLater.drewN | with_reducible apply AnyLater.drew | with_reducible apply AnyLater.alloc | ((try simp only [World.size_alloc, World.size_setCell, World.size_drew]); (try dsimp only); omega))) s0).mono ?_
  rintro e w2 ⟨rfl, b2, r2⟩
  have H2 : Hid (AnyLater w w2 ∧ IsR w2 w.heap.size most (insT .nil 0 b)) := Lib.hid ⟨b2.any (by repeat' (first | with_reducible assumption | with_reducible exact AnyLater.refl _ | with_reducible apply AnyLater.setCell | with_reducible apply AnyLater.later | with_reducible apply AnyLater.drewN | with_reducible apply AnyLater.drew | with_reducible apply AnyLater.alloc | ((try simp only [World.size_alloc, World.size_setCell, World.size_drew]); (try dsimp only); omega))) (Nat.le_refl _), r2⟩
  clear b2 r2 s0
  go_wp2_with fail
  refine bodyPost_ret (v := .tuple #[.pointer (some ⟨w.heap.size, 0, none⟩), .int .i64 0]) (by simp [results, Tryz.results87, go_sem]) rfl ?_
  exact ⟨_, rfl, H2.out.1, Nat.le_refl _, H2.out.2⟩
end Go.Proofs.YtamhnffokoejjaaGreatDoor
namespace Go.Proofs.YtamhnffokoejjaaGreatDoor
set_option linter.unusedSimpArgs false
set_option linter.unusedVariables false
set_option linter.unusedSectionVars false
open Go.RowKit
theorem feN_getD (l : List Int) (i : Int) (k : Nat) (h : k < (feN 0 l).length) : (feN i l).getD k 0 = i + (feN 0 l).getD k 0 := by
  rw [feN_base l i]
  simp only [List.getD_eq_getElem?_getD, List.getElem?_map, List.getElem?_eq_getElem h, Option.map_some, Option.getD_some]
  omega
def brk (t : Tr) (k : Nat) : Int := (feN 0 t.bs).getD k 0
theorem brk_node (a b : Tr) (p : Pc) (j : Nat) (hj : j < (Tr.node a p b).nf) : brk (Tr.node a p b) j = if j < a.nf then brk a j else if j < a.nf + p.fs.length then (a.len : Int) + (p.fs.getD (j - a.nf) 0 - p.base) else (a.len : Int) + (p.b.length : Int) + brk b (j - (a.nf + p.fs.length)) := by
  have h1 := Tr.nf_bs a
  have h2 : (feN ((0 : Int) + (a.bs.length : Int)) p.b).length = p.fs.length := by rw [feN_length, ← feN_length p.b p.base]; rfl
  have h3 : (feN 0 p.b).length = p.fs.length := (feN_length p.b p.base).symm
  have hj2 : j < a.nf + p.fs.length + b.nf := hj
  unfold brk
  rw [Tr.bs, feN_append, feN_append]
  simp only [List.getD_eq_getElem?_getD]
  split
  · rw [List.getElem?_append_left (by omega)]
  · rw [List.getElem?_append_right (by omega), h1]
    split
    · rw [List.getElem?_append_left (by omega)]
      have e1 := feN_getD p.b ((0 : Int) + (a.bs.length : Int)) (j - a.nf) (by omega)
      have e2 := feN_getD p.b p.base (j - a.nf) (by omega)
      simp only [List.getD_eq_getElem?_getD] at e1 e2
      unfold Pc.fs
      rw [e1, e2, Tr.len_bs]
      omega
    · rw [List.getElem?_append_right (by omega), h2, Nat.sub_sub]
      have e1 := feN_getD b.bs ((0 : Int) + (a.bs.length : Int) + (p.b.length : Int)) (j - (a.nf + p.fs.length)) (by rw [Tr.nf_bs]; omega)
      simp only [List.getD_eq_getElem?_getD] at e1
      rw [e1, Tr.len_bs]
      omega
set_option maxRecDepth 100000 in
theorem rbreak_no (v : Value) (t : Tr) (x : Int) (w : World) (h : IsRN w v t) (hx : x < 0 ∨ (t.nf : Int) ≤ x) :
    Calls Tryz.prog 158 #[v, .int .i64 x] w fun e w' => e = .returned (.tuple #[.int .i64 0, .bool false]) ∧ AnyLater w w' := by
  have HL := Lib.hid (rbreaks_any v t w h)
  clear h
  generalize t.nf = m at *
  by_cases h1 : x < 0
  · clear hx
    go_enter Tryz.func158, Tryz.ntmps158
    go_wp2_with fail
    refine bodyPost_ret (v := .tuple #[.int .i64 0, .bool false]) (by simp [results, Tryz.results158, go_sem]) rfl ?_
    exact ⟨rfl, AnyLater.refl _⟩
  · have h2 : (m : Int) ≤ x := by omega
    have d1 : decide (x < 0) = false := decide_eq_false h1
    clear hx h1
    go_enter Tryz.func158, Tryz.ntmps158
    go_wp2_with fail
    refine HL.out.mono ?_
    rintro e w2 ⟨rfl, b2⟩
    have B2 := Lib.hid b2
    clear b2
    go_wp2_with fail
    refine bodyPost_ret (v := .tuple #[.int .i64 0, .bool false]) (by simp [results, Tryz.results158, go_sem]) rfl ?_
    exact ⟨rfl, B2.out⟩
set_option maxRecDepth 100000 in
set_option maxHeartbeats 3200000 in
theorem rbreak_yes (g : Nat) (most : Int) (t : Tr) (i : Nat) (c : Int) (w : World) (hc : brk t i = c) (h : IsR w g most t) (ok : t.Ok) (hi : i < t.nf) :
    Calls Tryz.prog 158 #[.pointer (some ⟨g, 0, none⟩), .int .i64 (i : Int)] w fun e w' => e = .returned (.tuple #[.int .i64 c, .bool true]) ∧ AnyLater w w' := by
  have HL := Lib.hid (rbreaks_any _ t w (.inr ⟨g, most, rfl, h⟩))
  have hlen := ok.len
  obtain ⟨rv, hg, ht⟩ := h
  have HG := Lib.hid (And.intro hg ht)
  obtain ⟨q, rfl⟩ := ht.ptr
  have HC := Lib.hid (And.intro hc (And.intro hi ok.fair))
  have d0 : decide ((i : Int) < 0) = false := decide_eq_false (by omega)
  have d1 : decide ((t.nf : Int) ≤ (i : Int)) = false := decide_eq_false (by omega)
  have d2 : decide (t.nf ≤ i) = false := decide_eq_false (by omega)
  have hnf := t.nf_le
  have i9 : i ≤ 60000 := by omega
  have f1 := fld1
  clear ht hg ok hi hc hnf
  generalize hnn : t.nf = nn at *
  generalize hn : t.len = n at *
  have HN := Lib.hid (And.intro hnn hn)
  clear hn hnn
  go_enter Tryz.func158, Tryz.ntmps158
  go_wp2_with fail
  refine HL.out.mono ?_
  rintro e w1 ⟨rfl, b_w1⟩
  have a_w1 := b_w1
  have r1 := own_row (any_own a_w1 HG.out.1)
  go_wp2_with fail
  go_loopg [1, 6, 7] t.np (fun kk xv nv fv wr => AnyLater w1 wr ∧ ∃ (s : Tr) (j f : Nat), kk = s.np ∧ xv = .int .i64 (j : Int) ∧ fv = .int .i64 (f : Int) ∧ IsT w s nv ∧ s.Fair ∧ f + s.len ≤ n ∧ j < s.nf ∧ (f : Int) + brk s j = c)
  case atStart => exact ⟨AnyLater.refl _, t, i, 0, rfl, rfl, rfl, HG.out.2, HC.out.2.2, by rw [HN.out.2, Nat.zero_add]; exact Nat.le_refl _, by rw [HN.out.1]; exact HC.out.2.1, by rw [HC.out.1]; omega⟩
  case round =>
    obtain ⟨b_wr, s, j, f, hk, rfl, rfl, hs, fs, hsn, hj, hgc⟩ := hrel
    have a_wr := a_w1.trans b_wr
    cases s with
    | nil => simp [Tr.nf] at hj
    | node a p b =>
      have hl2 : f + (a.len + p.b.length + b.len) ≤ n := hsn
      have HE := Lib.hid (ends_any a b p _ wr (hs.later a_wr) (by simp only [Tr.len]; omega))
      obtain ⟨kb, lv, rv, bv, fv, rfl, hkb, ha, hb, hp⟩ := hs
      obtain ⟨fa, fp, fb⟩ := fs
      rw [brk_node a b p j hj] at hgc
      have hj2 : j < a.nf + p.fs.length + b.nf := hj
      have np2 : (Tr.node a p b).np = a.np + 1 + b.np := rfl
      have HNo := Lib.hid (fun (w' : World) (e : AnyLater w w') => noted_any a lv w' (ha.later e))
      unfold sumV at HNo
      have HPl := Lib.hid (fun (w' : World) (d : Nat) (e : AnyLater w w') (hd : d < p.fs.length) => place_any p bv fv w' (d : Int) _ d rfl hd rfl (hp.later e) fp)
      have HK := Lib.hid hkb
      have hnf := a.nf_le
      have hfl := p.fs_len
      obtain ⟨A, cap, rfl, -⟩ := hp.1.form
      obtain ⟨A2, cap2, rfl, -⟩ := hp.2.form
      unfold nodeC at HK
      unfold pcV at HPl
      have HA := Lib.hid a_wr
      have HB := Lib.hid b_wr
      clear hkb hsn hj hp a_wr b_wr r1
      by_cases c1 : j < a.nf
      · rw [if_pos c1] at hgc
        have HR : Hid (IsT w a lv ∧ a.Fair ∧ f + a.len ≤ n ∧ j < a.nf ∧ (f : Int) + brk a j = c) := Lib.hid ⟨ha, fa, by omega, c1, hgc⟩
        have d3 : (j : Int) < (a.nf : Int) := by omega
        have e9 : a.nf ≤ 60000 := by omega
        have m9 : p.fs.length ≤ 60000 := by omega
        clear ha fa fp fb hb hgc hj2 hl2 hnf hfl HPl
        generalize p.b.length = m at *
        generalize p.fs.length = m2 at *
        generalize p.base = b0 at *
        generalize he1 : a.nf = e1 at *
        have HE1 := Lib.hid he1
        clear he1
        go_wp2_with fail
        refine HE.out.mono ?_
        rintro e w2 ⟨rfl, b2⟩
        have r2 := own_row (any_own (HA.out.trans b2) HK.out)
        go_wp2_with fail
        refine (HNo.out _ (HA.out.trans b2)).mono ?_
        rintro e w3 ⟨rfl, b3⟩
        have r3 := own_row (any_own ((HA.out.trans b2).trans b3) HK.out)
        have B3 := Lib.hid ((HB.out.trans b2).trans b3)
        clear b2 b3 r2
        go_wp2_with fail
        go_roundg a.np
        case measure => omega
        case rel => exact ⟨B3.out, a, j, f, rfl, rfl, rfl, HR.out.1, HR.out.2.1, HR.out.2.2.1, by rw [HE1.out]; exact HR.out.2.2.2.1, HR.out.2.2.2.2⟩
      · rw [if_neg c1] at hgc
        have d3 : decide (j < a.nf) = false := decide_eq_false c1
        have d3' : decide ((j : Int) < (a.nf : Int)) = false := decide_eq_false (by omega)
        by_cases c2 : j < a.nf + p.fs.length
        · rw [if_pos c2] at hgc
          obtain ⟨d, hd⟩ : ∃ d, j = a.nf + d := ⟨j - a.nf, by omega⟩
          subst hd
          rw [Nat.add_sub_cancel_left] at hgc
          have hdl : d < p.fs.length := by omega
          have hgd : p.fs.getD d 0 = p.fs[d] := by simp [List.getD_eq_getElem?_getD, hdl]
          rw [hgd] at hgc
          have hmm := feN_mem p.b p.base p.fs[d] (List.getElem_mem hdl)
          have HP2 : Hid (∀ w', AnyLater w w' → Calls Tryz.prog 194 #[.agg #[.slice A p.b.length cap, .slice A2 p.fs.length cap2, .int .i64 p.base], .int .i64 (d : Int)] w' fun e w'' => e = .returned (.int .i64 (p.fs[d] - p.base)) ∧ AnyLater w' w'') := Lib.hid (fun w' e => HPl.out w' d e hdl)
          have d4 : decide ((a.nf : Int) + (p.fs.length : Int) ≤ (a.nf : Int) + (d : Int)) = false := decide_eq_false (by omega)
          have d5 : decide (p.fs.length ≤ d) = false := decide_eq_false (by omega)
          have d6 : (a.nf : Int) + (d : Int) - (a.nf : Int) = (d : Int) := by omega
          have e9 : a.nf ≤ 60000 := by omega
          have m9 : p.fs.length ≤ 60000 := by omega
          have q9 : a.len ≤ 60000 := by omega
          have f9 : f ≤ 60000 := by omega
          have d9 : d ≤ 60000 := by omega
          have y1 : 0 ≤ p.fs[d] - p.base := by omega
          have y2 : p.fs[d] - p.base ≤ 60000 := by omega
          generalize p.fs[d] - p.base = y at *
          have HCc : Hid ((f : Int) + (a.len : Int) + y = c) := Lib.hid (by omega)
          clear ha fa fp fb hb hgc hj2 hl2 hnf hfl HPl hgd hmm hdl c2
          generalize p.b.length = m at *
          generalize p.fs.length = m2 at *
          generalize p.base = b0 at *
          generalize a.nf = e1 at *
          generalize a.len = e2 at *
          go_wp2_with fail
          refine HE.out.mono ?_
          rintro e w2 ⟨rfl, b2⟩
          have r2 := own_row (any_own (HA.out.trans b2) HK.out)
          go_wp2_with fail
          refine (HNo.out _ (HA.out.trans b2)).mono ?_
          rintro e w3 ⟨rfl, b3⟩
          have r3 := own_row (any_own ((HA.out.trans b2).trans b3) HK.out)
          have B3 := Lib.hid ((HA.out.trans b2).trans b3)
          clear b2 b3 r2
          go_wp2_with fail
          refine (HP2.out _ B3.out).mono ?_
          rintro e w4 ⟨rfl, b4⟩
          have B4 := Lib.hid (B3.out.trans b4)
          clear b4 r3
          go_wp2_with fail
          refine bodyPost_ret (v := .tuple #[.int .i64 ((f : Int) + (e2 : Int) + y), .bool true]) (by simp [results, Tryz.results158, go_sem]) rfl ?_
          exact ⟨by rw [HCc.out], B4.out⟩
        · rw [if_neg c2] at hgc
          have HR : Hid (IsT w b rv ∧ b.Fair ∧ f + (a.len + p.b.length) + b.len ≤ n ∧ j - (a.nf + p.fs.length) < b.nf ∧ ((f + (a.len + p.b.length) : Nat) : Int) + brk b (j - (a.nf + p.fs.length)) = c) := Lib.hid ⟨hb, fb, by omega, by omega, by omega⟩
          have d4 : (a.nf : Int) + (p.fs.length : Int) ≤ (j : Int) := by omega
          have bnf := b.nf_le
          have e9 : a.nf ≤ 60000 := by omega
          have m9 : p.fs.length ≤ 60000 := by omega
          have q9 : a.len ≤ 60000 := by omega
          have f9 : f ≤ 60000 := by omega
          have p9 : p.b.length ≤ 60000 := by omega
          have j9 : j ≤ 200000 := by omega
          clear ha fa fp fb hb hgc hj2 hl2 hnf hfl HPl bnf
          generalize p.b.length = m at *
          generalize p.fs.length = m2 at *
          generalize p.base = b0 at *
          generalize a.nf = e1 at *
          generalize a.len = e2 at *
          go_wp2_with fail
          refine HE.out.mono ?_
          rintro e w2 ⟨rfl, b2⟩
          have r2 := own_row (any_own (HA.out.trans b2) HK.out)
          go_wp2_with fail
          refine (HNo.out _ (HA.out.trans b2)).mono ?_
          rintro e w3 ⟨rfl, b3⟩
          have r3 := own_row (any_own ((HA.out.trans b2).trans b3) HK.out)
          have B3 := Lib.hid ((HB.out.trans b2).trans b3)
          clear b2 b3 r2
          go_wp2_with fail
          try go_quiet (fail)
          go_wp2_with fail
          go_roundg b.np
          case measure => omega
          case rel => exact ⟨by first | exact B3.out | exact B3.out.drewN _, b, j - (e1 + m2), f + (e2 + m), rfl, by (congr 1; omega), by (congr 1), HR.out.1, HR.out.2.1, HR.out.2.2.1, HR.out.2.2.2.1, HR.out.2.2.2.2⟩
end Go.Proofs.YtamhnffokoejjaaGreatDoor
