/- rope: a part of a text; bytes put in; a text made: by contract. -/
import Derived.Test.YtiicaldnegcdiaaGreatRopL
import Derived.Lib.JoinLaws
namespace Go.Proofs.YtiicaldnegcdiaaGreat
set_option linter.unusedSimpArgs false
set_option linter.unusedVariables false
set_option linter.unusedSectionVars false
open Go.RowKit

/-- all blocks stay as they were, but for one; more may have been made -/
structure But (g : Nat) (w w' : World) : Prop where
  os : w'.os = w.os
  tape : w'.tape = w.tape
  output : w'.output = w.output
  size : w.heap.size ≤ w'.heap.size
  block : ∀ k, k < w.heap.size → k ≠ g → w'.heap[k]? = w.heap[k]?
theorem But.of {g : Nat} {w w' : World} (h : AnyLater w w') : But g w w' := ⟨h.below.os, h.below.tape, h.below.output, h.below.size, fun k hk _ => h.below.block k hk⟩
theorem But.trans {g : Nat} {a b c : World} (h : But g a b) (k : But g b c) : But g a c :=
  ⟨k.os.trans h.os, k.tape.trans h.tape, k.output.trans h.output, Nat.le_trans h.size k.size, fun i hi hn => (k.block i (Nat.lt_of_lt_of_le hi h.size) hn).trans (h.block i hi hn)⟩
theorem But.setCell {g : Nat} {w w' : World} (h : But g w w') (i : Nat) (v : Value) : But g w (w'.setCell ⟨g, i, none⟩ v) :=
  ⟨h.os, h.tape, h.output, by rw [World.size_setCell]; exact h.size, fun k hk hn => (heap_far hn (h.block k hk hn))⟩
theorem But.any {W : World} {g : Nat} {w w' : World} (hW : AnyLater W w) (hg : W.heap.size ≤ g) (h : But g w w') : AnyLater W w' :=
  .of ⟨h.os.trans hW.below.os, h.tape.trans hW.below.tape, h.output.trans hW.below.output, Nat.le_trans hW.below.size h.size,
    fun k hk => (h.block k (Nat.lt_of_lt_of_le hk hW.below.size) (fun e => by omega)).trans (hW.below.block k hk)⟩
theorem But.own {g : Nat} {w w' : World} {k : Nat} {o : Obj} (h : But g w w') (hk : w.heap[k]? = some o) (hne : k ≠ g) : w'.heap[k]? = some o := (h.block k (own_lt hk) hne).trans hk
theorem RT.but {k : IntKind} {t s : TypeId} {w w' : World} {v : Value} {l : List Int} {g : Nat} {cs : Array Value} {m : Nat × Nat} (h : RT k t w v l) (hb : But g w w') (hg : w.heap[g]? = some (.cells cs s m)) (hne : s ≠ t) : RT k t w' v l := by
  obtain ⟨A, cap, h1, h2, h3⟩ := h
  refine ⟨A, cap, h1, h2, fun h0 => ?_⟩
  obtain ⟨b, off, c2, m2, e, hbb, hc⟩ := h3 h0
  refine ⟨b, off, c2, m2, e, hb.own hbb (fun e2 => ?_), hc⟩
  rw [e2, hg] at hbb
  cases hbb
  exact hne rfl
theorem IsT.but {w w' : World} {g : Nat} {cs : Array Value} {s : TypeId} {m : Nat × Nat} (hb : But g w w') (hg : w.heap[g]? = some (.cells cs s m)) (h8 : s ≠ 5) (h3 : s ≠ 21) (hn : s ≠ 105) :
    ∀ {t : Tr} {v : Value}, IsT w t v → IsT w' t v
  | .nil, _, h => h
  | .node l p r, v, h => by
    obtain ⟨k, lv, rv, bv, fv, q1, q2, q3, q4, q5⟩ := h
    refine ⟨k, lv, rv, bv, fv, q1, hb.own q2 (fun e => ?_), IsT.but hb hg h8 h3 hn q3, IsT.but hb hg h8 h3 hn q4, q5.1.but hb hg h8, q5.2.but hb hg h3⟩
    rw [e, hg] at q2
    cases q2
    exact hn rfl

/-! ### a part -/
/-- a slice of bytes -/
def isB (l : List Int) (v : Value) (w : World) : Prop := RT .u8 5 w v l
theorem isB_stays {l : List Int} {v : Value} {w w' : World} (h : AnyLater w w') (s : isB l v w) : isB l v w' := RT.later s h
theorem cutZ_else {l : List Int} {f t : Int} {i j : Nat} (mi : (i : Int) = midZ f 0 l.length) (mj : (j : Int) = midZ t 0 l.length) (hij : ¬ i < j) : cutZ l f t = [] := by
  unfold cutZ
  apply List.drop_of_length_le
  rw [List.length_take]
  unfold midZ at mi mj
  split at mi <;> (try split at mi) <;> split at mj <;> (try split at mj) <;> omega
theorem info_bs : (Tryz.prog.info? 22).map (fun i => (i.zero, i.size, i.bytes)) = some (some (.slice none 0 0), 1, 24) := by kernel_rfl
/-! ### bytes put in -/
set_option maxRecDepth 100000 in
theorem rins_nil (x : Int) (u : Value) (w : World) : Calls Tryz.prog 39 #[.pointer none, .int .i64 x, u] w fun e w' => e = .returned (.int .i64 1) ∧ AnyLater w w' := by
  go_enter Tryz.func39, Tryz.ntmps39
  go_wp2_with fail
  go_ret
  exact ⟨rfl, AnyLater.refl _⟩
set_option maxRecDepth 100000 in
theorem rins_bad (g : Nat) (most : Int) (t : Tr) (x : Int) (u : Value) (w : World) (h : IsR w g most t) (hx : x < 0 ∨ (t.len : Int) < x) :
    Calls Tryz.prog 39 #[.pointer (some ⟨g, 0, none⟩), .int .i64 x, u] w fun e w' => e = .returned (.int .i64 1) ∧ AnyLater w w' := by
  have HL := Lib.hid (rlen_any _ t w (.inr ⟨g, most, rfl, h⟩))
  clear h
  generalize t.len = n at *
  by_cases h1 : x < 0
  · clear hx
    go_enter Tryz.func39, Tryz.ntmps39
    go_wp2_with fail
    go_ret
    exact ⟨rfl, AnyLater.refl _⟩
  · have h2 : (n : Int) < x := by omega
    have d1 : decide (x < 0) = false := decide_eq_false h1
    clear hx h1
    go_enter Tryz.func39, Tryz.ntmps39
    go_wp2_with fail
    refine HL.out.mono ?_
    rintro e w2 ⟨rfl, b2⟩
    go_wp2_with fail
    go_ret
    exact ⟨rfl, b2⟩
set_option maxRecDepth 100000 in
theorem rins_full (g : Nat) (most : Int) (t : Tr) (i m : Nat) (A : Option Addr) (cap : Nat) (w : World) (h : IsR w g most t) (ok : t.Ok) (hi : i ≤ t.len) (hm : most - t.len < m) (hmost : 0 ≤ most ∧ most ≤ 16777216) :
    Calls Tryz.prog 39 #[.pointer (some ⟨g, 0, none⟩), .int .i64 (i : Int), .slice A m cap] w fun e w' => e = .returned (.int .i64 2) ∧ AnyLater w w' := by
  have HL := Lib.hid (fun (w' : World) (b : AnyLater w w') => rlen_any _ t w' (.inr ⟨g, most, rfl, h.later b⟩))
  have hlen := ok.len
  obtain ⟨rv, hg, ht⟩ := h
  have HG := Lib.hid hg
  obtain ⟨h1, h2⟩ := hmost
  have d1 : decide ((i : Int) < 0) = false := decide_eq_false (by omega)
  have d2 : decide ((t.len : Int) < (i : Int)) = false := decide_eq_false (by omega)
  have d3 : decide (t.len < i) = false := decide_eq_false (by omega)
  clear ht hg ok hi
  generalize t.len = n at *
  go_enter Tryz.func39, Tryz.ntmps39
  go_wp2_with fail
  refine (HL.out _ (AnyLater.refl _)).mono ?_
  rintro e w1 ⟨rfl, b_w1⟩
  have a_w1 := b_w1
  have s0_w1 := any_own a_w1 HG.out
  go_wp2_with fail
  apply wp_region_mem (10) [] (by kernel_rfl) (by kernel_rfl) (by simp)
  case hstab =>
    intro e he v x y hxy hv
    simp only [List.mem_cons, List.not_mem_nil, or_false] at he
  case hlex =>
    intro U
    have q0 := fun (v : Later (later U)) => own_row (any_own ⟨v, rfl⟩ (any_own ⟨U, rfl⟩ s0_w1))
    simp only [absFrom, absOp, idx, List.map_cons, List.map_nil, List.contains_cons, List.contains_nil, Nat.reduceBEq, Bool.or_false, Bool.false_or, Bool.true_or, Bool.or_true, Bool.false_eq_true, Nat.reduceLeDiff, Nat.reduceAdd, if_false, if_true]
    repeat (go_big_quiet_step ((go_at_call 56; exact in_later (HL.out _ (by repeat' (first | with_reducible assumption | with_reducible exact AnyLater.refl _ | with_reducible apply AnyLater.setCell | with_reducible apply AnyLater.later | with_reducible apply AnyLater.drewN | with_reducible apply AnyLater.drew | with_reducible apply AnyLater.alloc | ((try simp only [World.size_alloc, World.size_setCell, World.size_drew]); (try dsimp only); omega)))))))
    exact wpQuiet_nil rfl
  case hown =>
    intro e he o ho
    simp only [List.mem_cons, List.not_mem_nil, or_false] at he
  case htail =>
    intro g u hst hne
    have b_w2 : AnyLater w1 (later u) := ⟨u, rfl⟩
    generalize later u = w2 at *
    clear u
    clear hst hne
    simp only [fillAll, Act.put, List.setIfInBounds_toArray, List.set_cons_zero, List.set_cons_succ, List.drop_succ_cons, List.drop_zero]
    have z_w2 := b_w2.below.size
    have a_w2 := a_w1.trans b_w2
    have s0_w2 := any_own b_w2 s0_w1
    have r0_w2 := own_row s0_w2
    have f0_w2 := own_free s0_w2
    have l0_w2 := own_lt s0_w2
    (try clear r0_w1); (try clear f0_w1)
    go_wp2_with fail
    go_ret
    exact ⟨rfl, a_w2⟩
set_option maxRecDepth 100000 in
theorem rins_none (g : Nat) (most : Int) (t : Tr) (i : Nat) (A : Option Addr) (cap : Nat) (w : World) (h : IsR w g most t) (ok : t.Ok) (hi : i ≤ t.len) (hm : (t.len : Int) ≤ most) (hmost : 0 ≤ most ∧ most ≤ 16777216) :
    Calls Tryz.prog 39 #[.pointer (some ⟨g, 0, none⟩), .int .i64 (i : Int), .slice A 0 cap] w fun e w' => e = .returned (.int .i64 0) ∧ AnyLater w w' := by
  have HL := Lib.hid (fun (w' : World) (b : AnyLater w w') => rlen_any _ t w' (.inr ⟨g, most, rfl, h.later b⟩))
  have hlen := ok.len
  obtain ⟨rv, hg, ht⟩ := h
  have HG := Lib.hid hg
  obtain ⟨h1, h2⟩ := hmost
  have d1 : decide ((i : Int) < 0) = false := decide_eq_false (by omega)
  have d2 : decide ((t.len : Int) < (i : Int)) = false := decide_eq_false (by omega)
  have d3 : decide (t.len < i) = false := decide_eq_false (by omega)
  have d4 : decide (most - (t.len : Int) < 0) = false := decide_eq_false (by omega)
  clear ht hg ok hi
  generalize t.len = n at *
  go_enter Tryz.func39, Tryz.ntmps39
  go_wp2_with fail
  refine (HL.out _ (AnyLater.refl _)).mono ?_
  rintro e w1 ⟨rfl, b_w1⟩
  have a_w1 := b_w1
  have s0_w1 := any_own a_w1 HG.out
  go_wp2_with fail
  apply wp_region_mem (10) [] (by kernel_rfl) (by kernel_rfl) (by simp)
  case hstab =>
    intro e he v x y hxy hv
    simp only [List.mem_cons, List.not_mem_nil, or_false] at he
  case hlex =>
    intro U
    have q0 := fun (v : Later (later U)) => own_row (any_own ⟨v, rfl⟩ (any_own ⟨U, rfl⟩ s0_w1))
    simp only [absFrom, absOp, idx, List.map_cons, List.map_nil, List.contains_cons, List.contains_nil, Nat.reduceBEq, Bool.or_false, Bool.false_or, Bool.true_or, Bool.or_true, Bool.false_eq_true, Nat.reduceLeDiff, Nat.reduceAdd, if_false, if_true]
    repeat (go_big_quiet_step ((go_at_call 56; exact in_later (HL.out _ (by repeat' (first | with_reducible assumption | with_reducible exact AnyLater.refl _ | with_reducible apply AnyLater.setCell | with_reducible apply AnyLater.later | with_reducible apply AnyLater.drewN | with_reducible apply AnyLater.drew | with_reducible apply AnyLater.alloc | ((try simp only [World.size_alloc, World.size_setCell, World.size_drew]); (try dsimp only); omega)))))))
    exact wpQuiet_nil rfl
  case hown =>
    intro e he o ho
    simp only [List.mem_cons, List.not_mem_nil, or_false] at he
  case htail =>
    intro g u hst hne
    have b_w2 : AnyLater w1 (later u) := ⟨u, rfl⟩
    generalize later u = w2 at *
    clear u
    clear hst hne
    simp only [fillAll, Act.put, List.setIfInBounds_toArray, List.set_cons_zero, List.set_cons_succ, List.drop_succ_cons, List.drop_zero]
    have z_w2 := b_w2.below.size
    have a_w2 := a_w1.trans b_w2
    have s0_w2 := any_own b_w2 s0_w1
    have r0_w2 := own_row s0_w2
    have f0_w2 := own_free s0_w2
    have l0_w2 := own_lt s0_w2
    (try clear r0_w1); (try clear f0_w1)
    go_wp2_with fail
    go_ret
    exact ⟨rfl, a_w2⟩
/-- what a text is behind bytes are put in -/
def insT (t : Tr) (i : Nat) (b : List Int) : Tr := Tr.join (Tr.split t i).1 ⟨b, 0⟩ (Tr.split t i).2
theorem insT_bs (t : Tr) (i : Nat) (b : List Int) : (insT t i b).bs = t.bs.take i ++ (b ++ t.bs.drop i) := by
  unfold insT
  obtain ⟨h1, h2⟩ := Tr.bs_split t i
  rw [Tr.bs_join, h1, h2]
theorem insT_ok {t : Tr} {i : Nat} {b : List Int} (ok : t.Ok) (hi : i ≤ t.len) (h0 : 0 < b.length) (hb : Bytes b) (hl : t.len + b.length ≤ 60000) : (insT t i b).Ok := by
  obtain ⟨f1, f2⟩ := Tr.fair_split t i ok.fair
  obtain ⟨e1, e2⟩ := Tr.even_split t i ok.even
  refine ⟨Tr.fair_join f1 ⟨h0, Int.le_refl _, by simp only; omega, hb⟩ f2, Tr.even_join _ _ _ e1 e2, ?_⟩
  rw [← Tr.len_bs, insT_bs, List.length_append, List.length_append, List.length_take, List.length_drop, Tr.len_bs]; omega
set_option maxRecDepth 100000 in
set_option maxHeartbeats 1600000 in
theorem rins_yes (g : Nat) (most : Int) (t : Tr) (i : Nat) (u : Value) (b : List Int) (w : World) (h : IsR w g most t) (ok : t.Ok) (hi : i ≤ t.len) (hu : RN .u8 w u b) (hb : Bytes b) (h0 : 0 < b.length) (hm : (t.len : Int) + b.length ≤ most) (hmost : 0 ≤ most ∧ most ≤ 16777216) (hl : t.len + b.length ≤ 60000) :
    Calls Tryz.prog 39 #[.pointer (some ⟨g, 0, none⟩), .int .i64 (i : Int), u] w fun e w' => e = .returned (.int .i64 0) ∧ But g w w' ∧ IsR w' g most (insT t i b) := by
  have HL := Lib.hid (fun (w' : World) (b : AnyLater w w') => rlen_any _ t w' (.inr ⟨g, most, rfl, h.later b⟩))
  have hlen := ok.len
  obtain ⟨rv, hg, ht⟩ := h
  have HG := Lib.hid hg
  obtain ⟨f1, f2⟩ := Tr.fair_split t i ok.fair
  obtain ⟨l1, l2⟩ := Tr.len_split t i hi
  have HSp := Lib.hid (fun (w' : World) (a : AnyLater w w') => rsplit_any t i (i : Int) rv w' rfl (ht.later a) ok.fair (by omega) (by omega))
  have HPc := Lib.hid (fun (w' : World) (a : AnyLater w w') => pieceOf_any u b w' (hu.later a) hb h0 (by omega))
  have HJ := Lib.hid (fun (w' : World) (u1 u2 pv : Value) (h1 : IsT w' (Tr.split t i).1 u1) (h2 : IsT w' (Tr.split t i).2 u2) (hp : isPc ⟨b, 0⟩ pv w') => (by
    obtain ⟨x, y, rfl, hp⟩ := hp
    exact rjoin_any _ _ _ u1 u2 x y w' (insT t i b) rfl h1 h2 hp f1 ⟨h0, Int.le_refl _, by simp only; omega, hb⟩ f2 (by rw [l1, l2]; simp only; omega) : Calls Tryz.prog 58 #[u1, pv, u2] w' (Ans (isT (insT t i b)) w')))
  obtain ⟨A, cap, rfl, -⟩ := hu.form
  obtain ⟨q, rfl⟩ := ht.ptr
  obtain ⟨k1, k2⟩ := hmost
  have d1 : decide ((i : Int) < 0) = false := decide_eq_false (by omega)
  have d2 : decide ((t.len : Int) < (i : Int)) = false := decide_eq_false (by omega)
  have d3 : decide (t.len < i) = false := decide_eq_false (by omega)
  have d4 : decide (most - (t.len : Int) < (b.length : Int)) = false := decide_eq_false (by omega)
  have d5 : decide (b.length = 0) = false := decide_eq_false (by omega)
  have d6 : ((b.length : Int) == 0) = false := by simpa using (by omega : b.length ≠ 0)
  have d7 : (b.length == 0) = false := by simpa using (by omega : b.length ≠ 0)
  clear ht hg ok hi hu f1 f2 l1 l2 h0
  generalize t.len = n at *
  generalize b.length = m at *
  go_enter Tryz.func39, Tryz.ntmps39
  go_wp2_with fail
  refine (HL.out _ (AnyLater.refl _)).mono ?_
  rintro e w1 ⟨rfl, b_w1⟩
  have a_w1 := b_w1
  have s0_w1 := any_own a_w1 HG.out
  go_wp2_with fail
  apply wp_region_mem (10) [] (by kernel_rfl) (by kernel_rfl) (by simp)
  case hstab =>
    intro e he v x y hxy hv
    simp only [List.mem_cons, List.not_mem_nil, or_false] at he
  case hlex =>
    intro U
    have q0 := fun (v : Later (later U)) => own_row (any_own ⟨v, rfl⟩ (any_own ⟨U, rfl⟩ s0_w1))
    simp only [absFrom, absOp, idx, List.map_cons, List.map_nil, List.contains_cons, List.contains_nil, Nat.reduceBEq, Bool.or_false, Bool.false_or, Bool.true_or, Bool.or_true, Bool.false_eq_true, Nat.reduceLeDiff, Nat.reduceAdd, if_false, if_true]
    repeat (go_big_quiet_step ((go_at_call 56; exact in_later (HL.out _ (by repeat' (first | with_reducible assumption | with_reducible exact AnyLater.refl _ | with_reducible apply AnyLater.setCell | with_reducible apply AnyLater.later | with_reducible apply AnyLater.drewN | with_reducible apply AnyLater.drew | with_reducible apply AnyLater.alloc | ((try simp only [World.size_alloc, World.size_setCell, World.size_drew]); (try dsimp only); omega)))))))
    exact wpQuiet_nil rfl
  case hown =>
    intro e he o ho
    simp only [List.mem_cons, List.not_mem_nil, or_false] at he
  case htail =>
    intro g u hst hne
    have b_w2 : AnyLater w1 (later u) := ⟨u, rfl⟩
    generalize later u = w2 at *
    clear u
    clear hst hne
    simp only [fillAll, Act.put, List.setIfInBounds_toArray, List.set_cons_zero, List.set_cons_succ, List.drop_succ_cons, List.drop_zero]
    have z_w2 := b_w2.below.size
    have a_w2 := a_w1.trans b_w2
    have s0_w2 := any_own b_w2 s0_w1
    have r0_w2 := own_row s0_w2
    have f0_w2 := own_free s0_w2
    have l0_w2 := own_lt s0_w2
    (try clear r0_w1); (try clear f0_w1)
    go_wp2_with fail
    refine (HSp.out _ a_w2).mono ?_
    rintro e w3 ⟨_, rfl, b_w3, u1, u2, rfl, t1, t2⟩
    have z_w3 := b_w3.below.size
    have a_w3 := a_w2.trans b_w3
    have s0_w3 := any_own b_w3 s0_w2
    have r0_w3 := own_row s0_w3
    have f0_w3 := own_free s0_w3
    have l0_w3 := own_lt s0_w3
    (try clear r0_w2); (try clear f0_w2)
    have HT := Lib.hid (And.intro t1 t2)
    clear t1 t2
    go_wp2_with fail
    refine (HPc.out _ a_w3).mono ?_
    rintro e w4 ⟨pv, rfl, b_w4, hp⟩
    have z_w4 := b_w4.below.size
    have a_w4 := a_w3.trans b_w4
    have s0_w4 := any_own b_w4 s0_w3
    have r0_w4 := own_row s0_w4
    have f0_w4 := own_free s0_w4
    have l0_w4 := own_lt s0_w4
    (try clear r0_w3); (try clear f0_w3)
    have HP := Lib.hid hp
    clear hp
    go_wp2_with fail
    refine (HJ.out _ _ _ _ (HT.out.1.later b_w4) (HT.out.2.later b_w4) HP.out).mono ?_
    rintro e w5 ⟨u5, rfl, b_w5, t5⟩
    have z_w5 := b_w5.below.size
    have a_w5 := a_w4.trans b_w5
    have s0_w5 := any_own b_w5 s0_w4
    have r0_w5 := own_row s0_w5
    have f0_w5 := own_free s0_w5
    have l0_w5 := own_lt s0_w5
    (try clear r0_w4); (try clear f0_w4)
    have HT5 := Lib.hid t5
    obtain ⟨q5, rfl⟩ := IsT.ptr t5
    clear t5
    go_wp2_with fail
    go_ret
    exact ⟨rfl, (But.of a_w5).setCell 0 _, _, heap_at s0_w5 rfl, IsT.far s0_w5 (by decide) (by decide) (by decide) HT5.out⟩

/-! ### a text made -/
set_option maxRecDepth 100000 in
theorem rnew_yes (u : Value) (b : List Int) (most : Int) (w : World) (hu : RN .u8 w u b) (hb : Bytes b) (h0 : 0 < b.length) (hm : (b.length : Int) ≤ most) (hmost : 0 ≤ most ∧ most ≤ 16777216) (hl : b.length ≤ 60000) :
    Calls Tryz.prog 23 #[u, .int .i64 most] w fun e w' => ∃ g, e = .returned (.tuple #[.pointer (some ⟨g, 0, none⟩), .int .i64 0]) ∧ AnyLater w w' ∧ w.heap.size ≤ g ∧ IsR w' g most (insT .nil 0 b) := by
  have HI : Hid (∀ w', AnyLater w w' → w'.heap[w.heap.size]? = some (.cells #[.pointer none, .int .i64 most] 76) → Calls Tryz.prog 39 #[.pointer (some ⟨w.heap.size, 0, none⟩), .int .i64 0, u] w' fun e w'' => e = .returned (.int .i64 0) ∧ But w.heap.size w' w'' ∧ IsR w'' w.heap.size most (insT .nil 0 b)) := Lib.hid (fun w' a hg => by
    have h : IsR w' w.heap.size most .nil := ⟨_, hg, rfl⟩
    exact rins_yes w.heap.size most .nil 0 u b w' h ⟨trivial, trivial, Nat.zero_le _⟩ (Nat.zero_le _) (hu.later a) hb h0 (by simp only [Tr.len]; omega) hmost (by simp only [Tr.len]; omega))
  obtain ⟨A, cap, rfl, -⟩ := hu.form
  obtain ⟨k1, k2⟩ := hmost
  have d1 : decide (most < 0) = false := decide_eq_false (by omega)
  have d2 : decide (16777216 < most) = false := decide_eq_false (by omega)
  clear hu h0 hm hb
  go_enter Tryz.func23, Tryz.ntmps23
  go_wp2_with fail
  have s0 : (w.alloc (.cells #[.pointer none, .int .i64 most] 76)).heap[w.heap.size]? = some (.cells #[.pointer none, .int .i64 most] 76) := heap_new rfl
  refine (HI.out _ (by repeat' (first | with_reducible assumption | with_reducible exact AnyLater.refl _ | with_reducible apply AnyLater.setCell | with_reducible apply AnyLater.later | with_reducible apply AnyLater.drewN | with_reducible apply AnyLater.drew | with_reducible apply AnyLater.alloc | ((try simp only [World.size_alloc, World.size_setCell, World.size_drew]); (try dsimp only); omega))) s0).mono ?_
  rintro e w2 ⟨rfl, b2, r2⟩
  have H2 : Hid (AnyLater w w2 ∧ IsR w2 w.heap.size most (insT .nil 0 b)) := Lib.hid ⟨b2.any (by repeat' (first | with_reducible assumption | with_reducible exact AnyLater.refl _ | with_reducible apply AnyLater.setCell | with_reducible apply AnyLater.later | with_reducible apply AnyLater.drewN | with_reducible apply AnyLater.drew | with_reducible apply AnyLater.alloc | ((try simp only [World.size_alloc, World.size_setCell, World.size_drew]); (try dsimp only); omega))) (Nat.le_refl _), r2⟩
  clear b2 r2 s0
  go_wp2_with fail
  refine bodyPost_ret (v := .tuple #[.pointer (some ⟨w.heap.size, 0, none⟩), .int .i64 0]) (by simp [results, Tryz.results23, go_sem]) rfl ?_
  exact ⟨_, rfl, H2.out.1, Nat.le_refl _, H2.out.2⟩
end Go.Proofs.YtiicaldnegcdiaaGreat
