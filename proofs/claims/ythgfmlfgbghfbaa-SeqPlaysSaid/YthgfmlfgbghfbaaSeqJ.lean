/- seq: whether all that is noted is right; a height that is set: by contract. Trees of up to 90000 heights. -/
import Derived.Test.YthgfmlfgbghfbaaSeqI
import Derived.Test.YthgfmlfgbghfbaaFree
import Derived.LoopN
import Derived.Deep.LoopGhost
import Derived.BigRegion
import Derived.RegionTactic
import Derived.Shelf.Abstract
import Derived.ChangeKeysEq
namespace Go.Proofs.Ythgfmlfgbghfbaa
set_option linter.unusedSimpArgs false
set_option linter.unusedVariables false
set_option linter.unusedSectionVars false
open Go.RowKit
variable {B : Nat}

theorem stood_notes : Try.prog.stoodInHeld 76 = false := by kernel_rfl
theorem fields_notes : Try.prog.underlying 76 = some (.struct (Try.prog.fieldsOf 76)) := by kernel_rfl
theorem guard_notes : Try.prog.eqGuardType Try.prog.depth 76 = false := by kernel_rfl
theorem cells_one : Try.prog.cellsOf 3 = 1 := by kernel_rfl
set_option maxRecDepth 100000 in
theorem eq_counts (d : Nat) (a b c : Int) (w : World) : (Op.equalIn (d + 2) 63 (.agg #[.int .i64 a, .int .i64 b, .int .i64 c]) (.agg #[.int .i64 a, .int .i64 b, .int .i64 c])).run Try.prog w = .ok true w := by
  have hs : (Try.prog.info? 3).isSome = true := by kernel_rfl
  obtain ⟨i, hi⟩ := Option.isSome_iff_exists.1 hs
  rw [run_equalIn_array w (d + 1) _ _ Try.underlying63 hi, cells_one, show List.range 3 = [0, 1, 2] from rfl]
  simp [go_sem, Op.eqItems]
set_option maxRecDepth 100000 in
theorem eql_notes (a b c d : Int) (w : World) : (binOp .eql 76 (.agg #[.int .i64 a, .int .i64 b, .int .i64 c, .int .i64 d]) (.agg #[.int .i64 a, .int .i64 b, .int .i64 c, .int .i64 d])).run Try.prog w = .ok (.bool true) w := by
  rw [run_eql_struct, run_equalIn_agg w 9999 _ _ _ fields_notes stood_notes]
  have h := eq_counts 9997 a b c w
  simp [go_sem, h]
theorem hsound_nil (w : World) : Calls Try.prog 29 #[.pointer none] w fun e w' => e = .returned (.bool true) ∧ AnyLater w w' := by
  go_enter Try.func29, Try.ntmps29
  go_wp2_with fail
  go_ret
  exact ⟨rfl, AnyLater.refl _⟩
set_option maxRecDepth 100000 in
set_option maxHeartbeats 1600000 in
theorem hsound_leaf (b : Nat) (l : Qs) (v : Value) (w : World) (h : isH B (.leaf b l) v w) (hf : (Ht.leaf b l).Fit) : Calls Try.prog 29 #[v] w fun e w' => e = .returned (.bool true) ∧ AnyLater w w' := by
  obtain ⟨k, cap, rfl, hk, ho⟩ := h.leaf
  have HR := Lib.hid (fun (w' : World) (a : AnyLater w w') => reckoned_leaf k (.pointer none) (.slice (some ⟨b, 0, none⟩) l.length cap) _ _ _ _ l w' (any_own a hk) ((OQ.rq ho).later a) hf.most hf.tls)
  have eqs := eql_notes
  have gs := guard_notes
  unfold hnodeC Ht.hs Ht.lev at hk
  have s0_w := hk
  have r0_w := own_row s0_w
  have f0_w := own_free s0_w
  have l0_w := own_lt s0_w
  have b_w := AnyLater.refl w
  clear ho hk hf
  generalize tlR l = R at *
  generalize tlH l = H at *
  generalize l.length = n at *
  go_enter Try.func29, Try.ntmps29
  go_wp2_with fail
  clear r0_w f0_w
  apply wp_region_mem (8) [] (by kernel_rfl) (by kernel_rfl) (by simp)
  case hstab =>
    intro e he v x y hxy hv
    simp only [List.mem_cons, List.not_mem_nil, or_false] at he
  case hlex =>
    intro U
    have q0 := fun (v : Later (later U)) => own_row (any_own ⟨v, rfl⟩ (any_own ⟨U, rfl⟩ s0_w))
    simp only [absFrom, absOp, idx, List.map_cons, List.map_nil, List.contains_cons, List.contains_nil, Nat.reduceBEq, Bool.or_false, Bool.false_or, Bool.true_or, Bool.or_true, Bool.false_eq_true, Nat.reduceLeDiff, Nat.reduceAdd, if_false, if_true]
    repeat (go_big_quiet_step (first | (go_at_call 39; exact in_later (HR.out _ (AnyLater.trans ⟨U, rfl⟩ ⟨_, rfl⟩)))))
    exact wpQuiet_nil rfl
  case hown =>
    intro e he o ho
    simp only [List.mem_cons, List.not_mem_nil, or_false] at he
  case htail =>
    intro g u hst hne
    have b_w1 : AnyLater w (later u) := ⟨u, rfl⟩
    generalize later u = w1 at *
    clear u
    clear hst hne
    simp only [fillAll, Act.put, List.setIfInBounds_toArray, List.set_cons_zero, List.set_cons_succ, List.drop_succ_cons, List.drop_zero]
    have z_w1 := b_w1.below.size
    have a_w1 := b_w1
    have s0_w1 := any_own b_w1 s0_w
    have r0_w1 := own_row s0_w1
    have f0_w1 := own_free s0_w1
    have l0_w1 := own_lt s0_w1
    (try clear r0_w); (try clear f0_w)
    go_wp2_with fail
    go_ret
    exact ⟨rfl, b_w1⟩
set_option maxRecDepth 100000 in
set_option maxHeartbeats 3200000 in
theorem hsound_node (l r : Ht) (v : Value) (w : World) (h : isH B (.node l r) v w) (hf : (Ht.node l r).Fit) (h1 : l.lev ≤ r.lev + 1) (h2 : r.lev ≤ l.lev + 1)
    (ih1 : ∀ (u : Value) (w' : World), isH B l u w' → Calls Try.prog 29 #[u] w' fun e w'' => e = .returned (.bool true) ∧ AnyLater w' w'')
    (ih2 : ∀ (u : Value) (w' : World), isH B r u w' → Calls Try.prog 29 #[u] w' fun e w'' => e = .returned (.bool true) ∧ AnyLater w' w'') :
    Calls Try.prog 29 #[v] w fun e w' => e = .returned (.bool true) ∧ AnyLater w w' := by
  obtain ⟨k, lv, rv, rfl, nl, nr, hk, hl, hr⟩ := h.node
  have f1 := hf.left.sums
  have f2 := hf.right.sums
  have v1 := hf.left.lev
  have v2 := hf.right.lev
  have f5 := hf.most
  rw [Ht.hs, List.length_append] at f5
  obtain ⟨k1, a0, a1, a2, e1, q1⟩ := hl.noted nl
  obtain ⟨k2, b0, b1, b2, e2, q2⟩ := hr.noted nr
  unfold hnodeC at hk q1 q2
  rw [Ht.hs, List.length_append, tlR_append, tlH_append, Ht.lev] at hk
  have HS := Lib.hid (fun (w' : World) (b : AnyLater w w') => reckoned_two k k1 k2 (.slice none 0 0) _ _ _ _ a0 a1 a2 b0 b1 b2 l.hs.length r.hs.length l.lev r.lev (tlR l.hs) (tlH l.hs) (tlR r.hs) (tlH r.hs) w' (any_own b (by rw [← e1, ← e2]; exact hk)) (any_own b q1) (any_own b q2) f5 ⟨v1, v2⟩ ⟨by omega, by omega⟩ ⟨by omega, by omega⟩)
  obtain ⟨D, hD1, hD2, hD⟩ : ∃ D : Value → Value → Prop, D lv rv ∧ D rv lv ∧ ∀ u v, D u v → (u = lv ∧ v = rv) ∨ (u = rv ∧ v = lv) := ⟨fun u v => (u = lv ∧ v = rv) ∨ (u = rv ∧ v = lv), .inl ⟨rfl, rfl⟩, .inr ⟨rfl, rfl⟩, fun _ _ h => h⟩
  obtain ⟨S, hS1, hS2, hS⟩ : ∃ S : Value → Prop, S lv ∧ S rv ∧ ∀ u, S u → u = lv ∨ u = rv := ⟨fun u => u = lv ∨ u = rv, .inl rfl, .inr rfl, fun _ h => h⟩
  have HDp : Hid (∀ (w' : World) (u v : Value), AnyLater w w' → D u v → Calls Try.prog 40 #[u, v] w' fun e w'' => e = .returned (.bool false) ∧ AnyLater w' w'') := Lib.hid (fun w' u v b hd => by
    rcases hD u v hd with ⟨rfl, rfl⟩ | ⟨rfl, rfl⟩
    · exact hdeeper_any l r _ _ w' false (decide_eq_false (by omega)) (isH_stays b hl) (isH_stays b hr) nl nr v1 v2
    · exact hdeeper_any r l _ _ w' false (decide_eq_false (by omega)) (isH_stays b hr) (isH_stays b hl) nr nl v2 v1)
  have HSo : Hid (∀ (w' : World) (u : Value), AnyLater w w' → S u → Calls Try.prog 29 #[u] w' fun e w'' => e = .returned (.bool true) ∧ AnyLater w' w'') := Lib.hid (fun w' u b hs => by
    rcases hS u hs with rfl | rfl
    · exact ih1 _ w' (isH_stays b hl)
    · exact ih2 _ w' (isH_stays b hr))
  clear hl hr q1 q2 nl nr f1 f2 v1 v2 f5 h1 h2 ih1 ih2 hD hS hf
  subst e1
  subst e2
  have eqs := eql_notes
  have gs := guard_notes
  have s0_w := hk
  have r0_w := own_row s0_w
  have f0_w := own_free s0_w
  have l0_w := own_lt s0_w
  have b_w := AnyLater.refl w
  clear hk
  generalize l.hs.length + r.hs.length = N at *
  generalize tlR l.hs + tlR r.hs = R at *
  generalize tlH l.hs + tlH r.hs = H at *
  generalize 1 + max l.lev r.lev = M at *
  go_enter Try.func29, Try.ntmps29
  go_wp2_with fail
  clear r0_w f0_w
  apply wp_region_mem (46) [] (by kernel_rfl) (by kernel_rfl) (by simp)
  case hstab =>
    intro e he v x y hxy hv
    simp only [List.mem_cons, List.not_mem_nil, or_false] at he
  case hlex =>
    intro U
    have q0 := fun (v : Later (later U)) => own_row (any_own ⟨v, rfl⟩ (any_own ⟨U, rfl⟩ s0_w))
    simp only [absFrom, absOp, idx, List.map_cons, List.map_nil, List.contains_cons, List.contains_nil, Nat.reduceBEq, Bool.or_false, Bool.false_or, Bool.true_or, Bool.or_true, Bool.false_eq_true, Nat.reduceLeDiff, Nat.reduceAdd, if_false, if_true]
    repeat (go_big_quiet_step (first | (go_at_call 39; exact in_later (HS.out _ (AnyLater.trans ⟨U, rfl⟩ ⟨_, rfl⟩))) | (go_at_call 40; exact in_later (HDp.out _ _ _ (AnyLater.trans ⟨U, rfl⟩ ⟨_, rfl⟩) (by assumption))) | (go_at_call 29; exact in_later (HSo.out _ _ (AnyLater.trans ⟨U, rfl⟩ ⟨_, rfl⟩) (by assumption)))))
    exact wpQuiet_nil rfl
  case hown =>
    intro e he o ho
    simp only [List.mem_cons, List.not_mem_nil, or_false] at he
  case htail =>
    intro g u hst hne
    have b_w1 : AnyLater w (later u) := ⟨u, rfl⟩
    generalize later u = w1 at *
    clear u
    clear hst hne
    simp only [fillAll, Act.put, List.setIfInBounds_toArray, List.set_cons_zero, List.set_cons_succ, List.drop_succ_cons, List.drop_zero]
    have z_w1 := b_w1.below.size
    have a_w1 := b_w1
    have s0_w1 := any_own b_w1 s0_w
    have r0_w1 := own_row s0_w1
    have f0_w1 := own_free s0_w1
    have l0_w1 := own_lt s0_w1
    (try clear r0_w); (try clear f0_w)
    go_wp2_with fail
    go_ret
    exact ⟨rfl, b_w1⟩
/-- all that is noted of an even tree is right -/
theorem hsound_any : ∀ (t : Ht) (v : Value) (w : World), isH B t v w → t.Fit → t.Even → Calls Try.prog 29 #[v] w fun e w' => e = .returned (.bool true) ∧ AnyLater w w'
  | .nil, v, w, h, _, _ => by
    obtain rfl := h.nil
    exact hsound_nil w
  | .leaf b l, v, w, h, hf, _ => hsound_leaf b l v w h hf
  | .node l r, v, w, h, hf, hE => hsound_node l r v w h hf hE.1 hE.2.1 (fun u w' hu => hsound_any l u w' hu hf.left hE.2.2.1) (fun u w' hu => hsound_any r u w' hu hf.right hE.2.2.2)
end Go.Proofs.Ythgfmlfgbghfbaa
