/- what the proof stands on: SeqE SeqF -/
import Derived.LoopN
import Derived.Deep.LoopGhost
import Derived.BigRegion
import Derived.RegionTactic
import Derived.Test.YtamhnffokoejjaaGreatDoorKnar
import Derived.Test.YtamhnffokoejjaaGreatDoorKnad
namespace Go.Proofs.YtamhnffokoejjaaGreatDoor
set_option linter.unusedSimpArgs false
set_option linter.unusedVariables false
set_option linter.unusedSectionVars false
open Go.RowKit
variable {B : Nat}
theorem Ht.Fit.of {t : Ht} {l r : Ht} (h : (Ht.node l r).Fit) (e : t.hs = l.hs ++ r.hs) (f : t.Full) : t.Fit := ⟨f, by rw [e]; exact h.tls, by rw [e]; exact h.most⟩
set_option maxRecDepth 100000 in
set_option maxHeartbeats 1600000 in
theorem hturnRight_flat (o i r : Ht) (v rv : Value) (w : World) (h : isH B (.node o i) v w) (hr : isH B r rv w) (hf : (Ht.node (.node o i) r).Fit) (hlev : i.lev ≤ o.lev) :
    Calls Tryz.prog 297 #[v, rv] w (HAns (isH B (.node o (.node i r))) w) := by
  have F1 : (Ht.node i r).Fit := ⟨⟨hf.full.2.2.1.2.1, hf.full.2.1, hf.full.2.2.1.2.2.2, hf.full.2.2.2⟩, hf.left.right.tls.append hf.right.tls, by have := hf.most; simp only [Ht.hs, List.length_append] at this ⊢; omega⟩
  have F2 : (Ht.node o (.node i r)).Fit := hf.of (by simp [Ht.hs]) ⟨hf.full.2.2.1.1, by simp, hf.full.2.2.1.2.2.1, F1.full⟩
  have lo := hf.left.left.lev
  have li := hf.left.right.lev
  obtain ⟨k, ov, iv, rfl, no, ni, hk, ho, hi⟩ := h.node
  have HT1 := Lib.hid (fun (w' : World) (b : AnyLater w w') => htie_any i r iv rv w' (isH_stays b hi) (isH_stays b hr) F1)
  have HT2 := Lib.hid (fun (w' : World) (u : Value) (b : AnyLater w w') (hu : isH B (.node i r) u w') => htie_any o (.node i r) ov u w' (isH_stays b ho) hu F2)
  obtain ⟨ko, a0, a1, a2, rfl, h1⟩ := ho.noted no
  obtain ⟨ki, b0, b1, b2, rfl, h2⟩ := hi.noted ni
  unfold hnodeC at hk h1 h2
  have r0 := own_row hk
  have r1 := own_row h1
  have r2 := own_row h2
  have d1 : decide ((i.lev : Nat) ≤ o.lev) = true := decide_eq_true hlev
  clear ho hi hr hk h1 h2 hlev F1 F2 hf
  generalize o.lev = x1 at *
  generalize i.lev = x2 at *
  go_enter Tryz.func297, Tryz.ntmps297
  go_wp2_with fail
  go_quiet (fail)
  obtain ⟨n1, rfl⟩ : ∃ n1, n1 = nq := ⟨_, rfl⟩
  go_wp2_with fail
  go_quiet (fail)
  go_wp2_with fail
  refine (HT1.out _ ((AnyLater.refl w).drewN _)).mono ?_
  rintro e w2 ⟨u, rfl, c2, p2⟩
  have a2 := ((AnyLater.refl w).drewN _).trans c2
  go_wp2_with fail
  refine (HT2.out _ _ a2 p2).mono ?_
  rintro e w3 ⟨u3, rfl, c3, p3⟩
  have HU := Lib.hid (And.intro (a2.trans c3) p3)
  clear c3 p3
  go_wp2_with fail
  go_ret
  exact ⟨_, rfl, HU.out.1, HU.out.2⟩
set_option maxRecDepth 100000 in
set_option maxHeartbeats 1600000 in
theorem hturnRight_steep (o a b r : Ht) (v rv : Value) (w : World) (h : isH B (.node o (.node a b)) v w) (hr : isH B r rv w) (hf : (Ht.node (.node o (.node a b)) r).Fit) (hlev : ¬ (Ht.node a b).lev ≤ o.lev) :
    Calls Tryz.prog 297 #[v, rv] w (HAns (isH B (.node (.node o a) (.node b r))) w) := by
  have hm := hf.most
  simp only [Ht.hs, List.length_append] at hm
  have F1 : (Ht.node o a).Fit := ⟨⟨hf.full.2.2.1.1, hf.full.2.2.1.2.2.2.1, hf.full.2.2.1.2.2.1, hf.full.2.2.1.2.2.2.2.2.1⟩, hf.left.left.tls.append hf.left.right.left.tls, by simp only [Ht.hs, List.length_append]; omega⟩
  have F2 : (Ht.node b r).Fit := ⟨⟨hf.full.2.2.1.2.2.2.2.1, hf.full.2.1, hf.full.2.2.1.2.2.2.2.2.2, hf.full.2.2.2⟩, hf.left.right.right.tls.append hf.right.tls, by simp only [Ht.hs, List.length_append]; omega⟩
  have F3 : (Ht.node (.node o a) (.node b r)).Fit := hf.of (by simp [Ht.hs]) ⟨by simp, by simp, F1.full, F2.full⟩
  have lo := hf.left.left.lev
  have li := hf.left.right.lev
  obtain ⟨k, ov, iv, rfl, no, ni, hk, ho, hi⟩ := h.node
  obtain ⟨ki, av, bv, rfl, na, nb, h2, ha, hb⟩ := hi.node
  have HT1 := Lib.hid (fun (w' : World) (c : AnyLater w w') => htie_any o a ov av w' (isH_stays c ho) (isH_stays c ha) F1)
  have HT2 := Lib.hid (fun (w' : World) (c : AnyLater w w') => htie_any b r bv rv w' (isH_stays c hb) (isH_stays c hr) F2)
  have HT3 := Lib.hid (fun (w' : World) (x y : Value) (_ : AnyLater w w') (hx : isH B (.node o a) x w') (hy : isH B (.node b r) y w') => htie_any (.node o a) (.node b r) x y w' hx hy F3)
  obtain ⟨ko, a0, a1, a2, rfl, h1⟩ := ho.noted no
  obtain ⟨qa, rfl⟩ := ha.ptr
  obtain ⟨qb, rfl⟩ := hb.ptr
  unfold hnodeC at hk h1 h2
  have s0_w := hk
  have s1_w := h1
  have s2_w := h2
  have r0_w := own_row hk
  have r1_w := own_row h1
  have r2_w := own_row h2
  have d1 : decide ((Ht.node a b).lev ≤ o.lev) = false := decide_eq_false hlev
  clear ho ha hb hr hk h1 h2 hlev F1 F2 F3 hf hm
  generalize o.lev = x1 at *
  generalize (Ht.node a b).lev = x2 at *
  go_enter Tryz.func297, Tryz.ntmps297
  go_wp2_with fail
  go_quiet (fail)
  obtain ⟨n1, rfl⟩ : ∃ n1, n1 = nq := ⟨_, rfl⟩
  go_wp2_with fail
  go_quiet (fail)
  go_wp2_with fail
  obtain ⟨w2, hw2⟩ : ∃ w2, (w.drewN n1).drewN nq = w2 := ⟨_, rfl⟩
  rw [hw2]
  have b_w2 : AnyLater w w2 := by rw [← hw2]; exact ((AnyLater.refl w).drewN _).drewN _
  clear hw2
  have z_w2 := b_w2.below.size
  have a_w2 := b_w2
  have s0_w2 := any_own b_w2 s0_w
  have s1_w2 := any_own b_w2 s1_w
  have s2_w2 := any_own b_w2 s2_w
  have r0_w2 := own_row s0_w2
  have f0_w2 := own_free s0_w2
  have l0_w2 := own_lt s0_w2
  have r1_w2 := own_row s1_w2
  have f1_w2 := own_free s1_w2
  have l1_w2 := own_lt s1_w2
  have r2_w2 := own_row s2_w2
  have f2_w2 := own_free s2_w2
  have l2_w2 := own_lt s2_w2
  (try clear r0_w); (try clear f0_w)
  (try clear r1_w); (try clear f1_w)
  (try clear r2_w); (try clear f2_w)
  apply Wild.wp_region_free (13) [⟨5, 36, undef, true, isH B (.node o a)⟩, ⟨11, 42, undef, true, isH B (.node b r)⟩, ⟨12, 43, undef, true, isH B (.node (.node o a) (.node b r))⟩] [⟨5, 36, isH B (.node o a)⟩, ⟨11, 42, isH B (.node b r)⟩, ⟨12, 43, isH B (.node (.node o a) (.node b r))⟩] rfl (by kernel_rfl) (by kernel_rfl) (by kernel_rfl) (by simp) (by kernel_rfl)
  case hstab =>
    intro c hc
    simp only [List.mem_cons, List.not_mem_nil, or_false] at hc
    rcases hc with rfl | rfl | rfl
    · intro v x y hxy hv; exact isH_stays hxy hv
    · intro v x y hxy hv; exact isH_stays hxy hv
    · intro v x y hxy hv; exact isH_stays hxy hv
  case hfix =>
    intro c hc
    simp only [List.mem_cons, List.not_mem_nil, or_false] at hc
    rcases hc with rfl | rfl | rfl
    · exact .inl rfl
    · exact .inl rfl
    · exact .inl rfl
  case hlex =>
    intro U hU
    have q0 := own_row (any_own hU s0_w2)
    have q1 := own_row (any_own hU s1_w2)
    have q2 := own_row (any_own hU s2_w2)
    simp only [List.map_cons, List.map_nil, CA.act, actFrom, actOp, List.lookup, Nat.reduceBEq, Nat.reduceLeDiff, Nat.reduceAdd, if_false, if_true]
    repeat (go_big_quiet_step (fail))
    exact wpQuiet_nil rfl
  case hstep =>
    intro j hj o ho
    have hj2 : j = 0 ∨ j = 1 ∨ j = 2 := by simp at hj; omega
    rcases hj2 with rfl | rfl | rfl
    · cases ho
      refine ⟨rfl, fun g x hx hp => ?_⟩
      clear hp
      simp only [fillAll, Act.put, List.setIfInBounds_toArray, List.set_cons_zero, List.set_cons_succ]
      refine chain_go ?_ (Wild.free_tells (HT1.out x (a_w2.trans hx)))
      first | (simp [go_sem, execOp]; done) | simp [go_sem, execOp, hcf]
    · cases ho
      refine ⟨rfl, fun g x hx hp => ?_⟩
      clear hp
      simp only [fillAll, Act.put, List.setIfInBounds_toArray, List.set_cons_zero, List.set_cons_succ]
      refine chain_go ?_ (Wild.free_tells (HT2.out x (a_w2.trans hx)))
      first | (simp [go_sem, execOp]; done) | simp [go_sem, execOp, hcf]
    · cases ho
      refine ⟨rfl, fun g x hx hp => ?_⟩
      have p36 : (isH B (.node o a)) (g 5) x := hp _ (List.mem_of_getElem? (i := 0) rfl) (List.contains_iff_mem.1 (by kernel_rfl))
      have p42 : (isH B (.node b r)) (g 11) x := hp _ (List.mem_of_getElem? (i := 1) rfl) (List.contains_iff_mem.1 (by kernel_rfl))
      clear hp
      simp only [fillAll, Act.put, List.setIfInBounds_toArray, List.set_cons_zero, List.set_cons_succ]
      refine chain_go ?_ (Wild.free_tells (HT3.out _ _ _ (a_w2.trans hx) p36 p42))
      first | (simp [go_sem, execOp]; done) | simp [go_sem, execOp, hcf]
  case htail =>
    intro g u hst hne
    have b_w3 : AnyLater w2 (later u) := ⟨u, rfl⟩
    generalize later u = w3 at *
    clear u hne
    obtain ⟨p36_w3, -⟩ := hst _ (List.mem_of_getElem? (i := 0) rfl)
    (try dsimp only at p36_w3)
    obtain ⟨p42_w3, -⟩ := hst _ (List.mem_of_getElem? (i := 1) rfl)
    (try dsimp only at p42_w3)
    obtain ⟨p43_w3, -⟩ := hst _ (List.mem_of_getElem? (i := 2) rfl)
    (try dsimp only at p43_w3)
    clear hst
    simp only [fillAll, Act.put, List.setIfInBounds_toArray, List.set_cons_zero, List.set_cons_succ, List.drop_succ_cons, List.drop_zero, List.drop_nil]
    generalize g 5 = v36 at *
    generalize g 11 = v42 at *
    generalize g 12 = v43 at *
    have z_w3 := b_w3.below.size
    have a_w3 := a_w2.trans b_w3
    have s0_w3 := any_own b_w3 s0_w2
    have s1_w3 := any_own b_w3 s1_w2
    have s2_w3 := any_own b_w3 s2_w2
    have r0_w3 := own_row s0_w3
    have f0_w3 := own_free s0_w3
    have l0_w3 := own_lt s0_w3
    have r1_w3 := own_row s1_w3
    have f1_w3 := own_free s1_w3
    have l1_w3 := own_lt s1_w3
    have r2_w3 := own_row s2_w3
    have f2_w3 := own_free s2_w3
    have l2_w3 := own_lt s2_w3
    (try clear r0_w2); (try clear f0_w2)
    (try clear r1_w2); (try clear f1_w2)
    (try clear r2_w2); (try clear f2_w2)
    go_wp2_with fail
    go_ret
    exact ⟨_, rfl, a_w3, p43_w3⟩
theorem hturnRight_any (o i r : Ht) (v rv : Value) (w : World) (t : Ht) (ht : Ht.turnR (.node o i) r = t) (h : isH B (.node o i) v w) (hr : isH B r rv w) (hf : (Ht.node (.node o i) r).Fit) :
    Calls Tryz.prog 297 #[v, rv] w (HAns (isH B t) w) := by
  subst ht
  cases i with
  | nil => exact absurd rfl hf.full.2.2.1.2.1
  | leaf b l => exact hturnRight_flat o (.leaf b l) r v rv w h hr hf (Ht.lev_pos hf.full.2.2.1.1)
  | node a b =>
    rw [Ht.turnR_node]
    split
    · rename_i hc
      exact hturnRight_flat o _ r v rv w h hr hf hc
    · rename_i hc
      exact hturnRight_steep o a b r v rv w h hr hf hc
set_option maxRecDepth 100000 in
set_option maxHeartbeats 1600000 in
theorem hturnLeft_flat (l i o : Ht) (lv v : Value) (w : World) (hl : isH B l lv w) (h : isH B (.node i o) v w) (hf : (Ht.node l (.node i o)).Fit) (hlev : i.lev ≤ o.lev) :
    Calls Tryz.prog 298 #[lv, v] w (HAns (isH B (.node (.node l i) o)) w) := by
  have hm := hf.most
  simp only [Ht.hs, List.length_append] at hm
  have F1 : (Ht.node l i).Fit := ⟨⟨hf.full.1, hf.full.2.2.2.1, hf.full.2.2.1, hf.full.2.2.2.2.2.1⟩, hf.left.tls.append hf.right.left.tls, by simp only [Ht.hs, List.length_append]; omega⟩
  have F2 : (Ht.node (.node l i) o).Fit := hf.of (by simp [Ht.hs]) ⟨by simp, hf.full.2.2.2.2.1, F1.full, hf.full.2.2.2.2.2.2⟩
  have lo := hf.right.right.lev
  have li := hf.right.left.lev
  obtain ⟨k, iv, ov, rfl, ni, no, hk, hi, ho⟩ := h.node
  have HT1 := Lib.hid (fun (w' : World) (b : AnyLater w w') => htie_any l i lv iv w' (isH_stays b hl) (isH_stays b hi) F1)
  have HT2 := Lib.hid (fun (w' : World) (u : Value) (b : AnyLater w w') (hu : isH B (.node l i) u w') => htie_any (.node l i) o u ov w' hu (isH_stays b ho) F2)
  obtain ⟨ko, a0, a1, a2, rfl, h1⟩ := ho.noted no
  obtain ⟨ki, b0, b1, b2, rfl, h2⟩ := hi.noted ni
  unfold hnodeC at hk h1 h2
  have r0 := own_row hk
  have r1 := own_row h1
  have r2 := own_row h2
  have d1 : decide ((i.lev : Nat) ≤ o.lev) = true := decide_eq_true hlev
  clear ho hi hl hk h1 h2 hlev F1 F2 hf hm
  generalize o.lev = x1 at *
  generalize i.lev = x2 at *
  go_enter Tryz.func298, Tryz.ntmps298
  go_wp2_with fail
  go_quiet (fail)
  obtain ⟨n1, rfl⟩ : ∃ n1, n1 = nq := ⟨_, rfl⟩
  go_wp2_with fail
  go_quiet (fail)
  go_wp2_with fail
  refine (HT1.out _ ((AnyLater.refl w).drewN _)).mono ?_
  rintro e w2 ⟨u, rfl, c2, p2⟩
  have a2 := ((AnyLater.refl w).drewN _).trans c2
  go_wp2_with fail
  refine (HT2.out _ _ a2 p2).mono ?_
  rintro e w3 ⟨u3, rfl, c3, p3⟩
  have HU := Lib.hid (And.intro (a2.trans c3) p3)
  clear c3 p3
  go_wp2_with fail
  go_ret
  exact ⟨_, rfl, HU.out.1, HU.out.2⟩
set_option maxRecDepth 100000 in
set_option maxHeartbeats 1600000 in
theorem hturnLeft_steep (l a b o : Ht) (lv v : Value) (w : World) (hl : isH B l lv w) (h : isH B (.node (.node a b) o) v w) (hf : (Ht.node l (.node (.node a b) o)).Fit) (hlev : ¬ (Ht.node a b).lev ≤ o.lev) :
    Calls Tryz.prog 298 #[lv, v] w (HAns (isH B (.node (.node l a) (.node b o))) w) := by
  have hm := hf.most
  simp only [Ht.hs, List.length_append] at hm
  have F1 : (Ht.node l a).Fit := ⟨⟨hf.full.1, hf.full.2.2.2.2.2.1.1, hf.full.2.2.1, hf.full.2.2.2.2.2.1.2.2.1⟩, hf.left.tls.append hf.right.left.left.tls, by simp only [Ht.hs, List.length_append]; omega⟩
  have F2 : (Ht.node b o).Fit := ⟨⟨hf.full.2.2.2.2.2.1.2.1, hf.full.2.2.2.2.1, hf.full.2.2.2.2.2.1.2.2.2, hf.full.2.2.2.2.2.2⟩, hf.right.left.right.tls.append hf.right.right.tls, by simp only [Ht.hs, List.length_append]; omega⟩
  have F3 : (Ht.node (.node l a) (.node b o)).Fit := hf.of (by simp [Ht.hs]) ⟨by simp, by simp, F1.full, F2.full⟩
  have lo := hf.right.right.lev
  have li := hf.right.left.lev
  obtain ⟨k, iv, ov, rfl, ni, no, hk, hi, ho⟩ := h.node
  obtain ⟨ki, av, bv, rfl, na, nb, h2, ha, hb⟩ := hi.node
  have HT1 := Lib.hid (fun (w' : World) (c : AnyLater w w') => htie_any l a lv av w' (isH_stays c hl) (isH_stays c ha) F1)
  have HT2 := Lib.hid (fun (w' : World) (c : AnyLater w w') => htie_any b o bv ov w' (isH_stays c hb) (isH_stays c ho) F2)
  have HT3 := Lib.hid (fun (w' : World) (x y : Value) (_ : AnyLater w w') (hx : isH B (.node l a) x w') (hy : isH B (.node b o) y w') => htie_any (.node l a) (.node b o) x y w' hx hy F3)
  obtain ⟨ko, a0, a1, a2, rfl, h1⟩ := ho.noted no
  obtain ⟨qa, rfl⟩ := ha.ptr
  obtain ⟨qb, rfl⟩ := hb.ptr
  unfold hnodeC at hk h1 h2
  have s0_w := hk
  have s1_w := h1
  have s2_w := h2
  have r0_w := own_row hk
  have r1_w := own_row h1
  have r2_w := own_row h2
  have d1 : decide ((Ht.node a b).lev ≤ o.lev) = false := decide_eq_false hlev
  clear ho ha hb hl hk h1 h2 hlev F1 F2 F3 hf hm
  generalize o.lev = x1 at *
  generalize (Ht.node a b).lev = x2 at *
  go_enter Tryz.func298, Tryz.ntmps298
  go_wp2_with fail
  go_quiet (fail)
  obtain ⟨n1, rfl⟩ : ∃ n1, n1 = nq := ⟨_, rfl⟩
  go_wp2_with fail
  go_quiet (fail)
  go_wp2_with fail
  obtain ⟨w2, hw2⟩ : ∃ w2, (w.drewN n1).drewN nq = w2 := ⟨_, rfl⟩
  rw [hw2]
  have b_w2 : AnyLater w w2 := by rw [← hw2]; exact ((AnyLater.refl w).drewN _).drewN _
  clear hw2
  have z_w2 := b_w2.below.size
  have a_w2 := b_w2
  have s0_w2 := any_own b_w2 s0_w
  have s1_w2 := any_own b_w2 s1_w
  have s2_w2 := any_own b_w2 s2_w
  have r0_w2 := own_row s0_w2
  have f0_w2 := own_free s0_w2
  have l0_w2 := own_lt s0_w2
  have r1_w2 := own_row s1_w2
  have f1_w2 := own_free s1_w2
  have l1_w2 := own_lt s1_w2
  have r2_w2 := own_row s2_w2
  have f2_w2 := own_free s2_w2
  have l2_w2 := own_lt s2_w2
  (try clear r0_w); (try clear f0_w)
  (try clear r1_w); (try clear f1_w)
  (try clear r2_w); (try clear f2_w)
  apply Wild.wp_region_free (13) [⟨5, 36, undef, true, isH B (.node l a)⟩, ⟨11, 42, undef, true, isH B (.node b o)⟩, ⟨12, 43, undef, true, isH B (.node (.node l a) (.node b o))⟩] [⟨5, 36, isH B (.node l a)⟩, ⟨11, 42, isH B (.node b o)⟩, ⟨12, 43, isH B (.node (.node l a) (.node b o))⟩] rfl (by kernel_rfl) (by kernel_rfl) (by kernel_rfl) (by simp) (by kernel_rfl)
  case hstab =>
    intro c hc
    simp only [List.mem_cons, List.not_mem_nil, or_false] at hc
    rcases hc with rfl | rfl | rfl
    · intro v x y hxy hv; exact isH_stays hxy hv
    · intro v x y hxy hv; exact isH_stays hxy hv
    · intro v x y hxy hv; exact isH_stays hxy hv
  case hfix =>
    intro c hc
    simp only [List.mem_cons, List.not_mem_nil, or_false] at hc
    rcases hc with rfl | rfl | rfl
    · exact .inl rfl
    · exact .inl rfl
    · exact .inl rfl
  case hlex =>
    intro U hU
    have q0 := own_row (any_own hU s0_w2)
    have q1 := own_row (any_own hU s1_w2)
    have q2 := own_row (any_own hU s2_w2)
    simp only [List.map_cons, List.map_nil, CA.act, actFrom, actOp, List.lookup, Nat.reduceBEq, Nat.reduceLeDiff, Nat.reduceAdd, if_false, if_true]
    repeat (go_big_quiet_step (fail))
    exact wpQuiet_nil rfl
  case hstep =>
    intro j hj o ho
    have hj2 : j = 0 ∨ j = 1 ∨ j = 2 := by simp at hj; omega
    rcases hj2 with rfl | rfl | rfl
    · cases ho
      refine ⟨rfl, fun g x hx hp => ?_⟩
      clear hp
      simp only [fillAll, Act.put, List.setIfInBounds_toArray, List.set_cons_zero, List.set_cons_succ]
      refine chain_go ?_ (Wild.free_tells (HT1.out x (a_w2.trans hx)))
      first | (simp [go_sem, execOp]; done) | simp [go_sem, execOp, hcf]
    · cases ho
      refine ⟨rfl, fun g x hx hp => ?_⟩
      clear hp
      simp only [fillAll, Act.put, List.setIfInBounds_toArray, List.set_cons_zero, List.set_cons_succ]
      refine chain_go ?_ (Wild.free_tells (HT2.out x (a_w2.trans hx)))
      first | (simp [go_sem, execOp]; done) | simp [go_sem, execOp, hcf]
    · cases ho
      refine ⟨rfl, fun g x hx hp => ?_⟩
      have p36 : (isH B (.node l a)) (g 5) x := hp _ (List.mem_of_getElem? (i := 0) rfl) (List.contains_iff_mem.1 (by kernel_rfl))
      have p42 : (isH B (.node b o)) (g 11) x := hp _ (List.mem_of_getElem? (i := 1) rfl) (List.contains_iff_mem.1 (by kernel_rfl))
      clear hp
      simp only [fillAll, Act.put, List.setIfInBounds_toArray, List.set_cons_zero, List.set_cons_succ]
      refine chain_go ?_ (Wild.free_tells (HT3.out _ _ _ (a_w2.trans hx) p36 p42))
      first | (simp [go_sem, execOp]; done) | simp [go_sem, execOp, hcf]
  case htail =>
    intro g u hst hne
    have b_w3 : AnyLater w2 (later u) := ⟨u, rfl⟩
    generalize later u = w3 at *
    clear u hne
    obtain ⟨p36_w3, -⟩ := hst _ (List.mem_of_getElem? (i := 0) rfl)
    (try dsimp only at p36_w3)
    obtain ⟨p42_w3, -⟩ := hst _ (List.mem_of_getElem? (i := 1) rfl)
    (try dsimp only at p42_w3)
    obtain ⟨p43_w3, -⟩ := hst _ (List.mem_of_getElem? (i := 2) rfl)
    (try dsimp only at p43_w3)
    clear hst
    simp only [fillAll, Act.put, List.setIfInBounds_toArray, List.set_cons_zero, List.set_cons_succ, List.drop_succ_cons, List.drop_zero, List.drop_nil]
    generalize g 5 = v36 at *
    generalize g 11 = v42 at *
    generalize g 12 = v43 at *
    have z_w3 := b_w3.below.size
    have a_w3 := a_w2.trans b_w3
    have s0_w3 := any_own b_w3 s0_w2
    have s1_w3 := any_own b_w3 s1_w2
    have s2_w3 := any_own b_w3 s2_w2
    have r0_w3 := own_row s0_w3
    have f0_w3 := own_free s0_w3
    have l0_w3 := own_lt s0_w3
    have r1_w3 := own_row s1_w3
    have f1_w3 := own_free s1_w3
    have l1_w3 := own_lt s1_w3
    have r2_w3 := own_row s2_w3
    have f2_w3 := own_free s2_w3
    have l2_w3 := own_lt s2_w3
    (try clear r0_w2); (try clear f0_w2)
    (try clear r1_w2); (try clear f1_w2)
    (try clear r2_w2); (try clear f2_w2)
    go_wp2_with fail
    go_ret
    exact ⟨_, rfl, a_w3, p43_w3⟩
theorem hturnLeft_any (l i o : Ht) (lv v : Value) (w : World) (t : Ht) (ht : Ht.turnL l (.node i o) = t) (hl : isH B l lv w) (h : isH B (.node i o) v w) (hf : (Ht.node l (.node i o)).Fit) :
    Calls Tryz.prog 298 #[lv, v] w (HAns (isH B t) w) := by
  subst ht
  cases i with
  | nil => exact absurd rfl hf.full.2.2.2.1
  | leaf b q => exact hturnLeft_flat l (.leaf b q) o lv v w hl h hf (Ht.lev_pos hf.full.2.2.2.2.1)
  | node a b =>
    rw [Ht.turnL_node]
    split
    · rename_i hc
      exact hturnLeft_flat l _ o lv v w hl h hf hc
    · rename_i hc
      exact hturnLeft_steep l a b o lv v w hl h hf hc
end Go.Proofs.YtamhnffokoejjaaGreatDoor
namespace Go.Proofs.YtamhnffokoejjaaGreatDoor
set_option linter.unusedSimpArgs false
set_option linter.unusedVariables false
set_option linter.unusedSectionVars false
open Go.RowKit
variable {B : Nat}
set_option maxRecDepth 100000 in
set_option maxHeartbeats 1600000 in
theorem heven_any (l r : Ht) (lv rv : Value) (w : World) (t : Ht) (ht : Ht.even l r = t) (hl : isH B l lv w) (hr : isH B r rv w) (hf : (Ht.node l r).Fit) :
    Calls Tryz.prog 272 #[lv, rv] w (HAns (isH B t) w) := by
  have v1 := hf.left.lev
  have v2 := hf.right.lev
  have nl := hf.full.1
  have nr := hf.full.2.1
  unfold Ht.even at ht
  by_cases c1 : r.lev + 1 < l.lev
  · have HD := Lib.hid (fun (w' : World) (b : AnyLater w w') => hdeeper_any l r lv rv w' true (by simpa using c1) (isH_stays b hl) (isH_stays b hr) nl nr v1 v2)
    rw [if_pos c1] at ht
    have HT : Hid (∀ (w' : World), AnyLater w w' → Calls Tryz.prog 297 #[lv, rv] w' (HAns (isH B t) w')) := Lib.hid (fun w' b => by
      cases l with
      | nil => exact absurd rfl nl
      | leaf _ _ => have := Ht.lev_pos nr; simp only [Ht.lev] at c1; omega
      | node o i => exact hturnRight_any o i r lv rv w' t ht (isH_stays b hl) (isH_stays b hr) hf)
    clear hl hr hf ht c1 v1 v2 nl nr
    go_enter Tryz.func272, Tryz.ntmps272
    go_wp2_with fail
    refine (HD.out _ (AnyLater.refl w)).mono ?_
    rintro e w1 ⟨rfl, b1⟩
    go_wp2_with fail
    refine (HT.out _ b1).mono ?_
    rintro e w3 ⟨u, rfl, b3, hu⟩
    have HU := Lib.hid (And.intro (b1.trans b3) hu)
    clear b3 hu
    go_wp2_with fail
    go_ret
    exact ⟨_, rfl, HU.out.1, HU.out.2⟩
  · have HD := Lib.hid (fun (w' : World) (b : AnyLater w w') => hdeeper_any l r lv rv w' false (by simpa using c1) (isH_stays b hl) (isH_stays b hr) nl nr v1 v2)
    rw [if_neg c1] at ht
    by_cases c2 : l.lev + 1 < r.lev
    · have HD2 := Lib.hid (fun (w' : World) (b : AnyLater w w') => hdeeper_any r l rv lv w' true (by simpa using c2) (isH_stays b hr) (isH_stays b hl) nr nl v2 v1)
      rw [if_pos c2] at ht
      have HT : Hid (∀ (w' : World), AnyLater w w' → Calls Tryz.prog 298 #[lv, rv] w' (HAns (isH B t) w')) := Lib.hid (fun w' b => by
        cases r with
        | nil => exact absurd rfl nr
        | leaf _ _ => have := Ht.lev_pos nl; simp only [Ht.lev] at c2; omega
        | node i o => exact hturnLeft_any l i o lv rv w' t ht (isH_stays b hl) (isH_stays b hr) hf)
      clear hl hr hf ht c1 c2 v1 v2 nl nr
      go_enter Tryz.func272, Tryz.ntmps272
      go_wp2_with fail
      refine (HD.out _ (AnyLater.refl w)).mono ?_
      rintro e w1 ⟨rfl, b1⟩
      go_wp2_with fail
      refine (HD2.out _ b1).mono ?_
      rintro e w2 ⟨rfl, b2⟩
      have b2 := b1.trans b2
      go_wp2_with fail
      refine (HT.out _ b2).mono ?_
      rintro e w3 ⟨u, rfl, b3, hu⟩
      have HU := Lib.hid (And.intro (b2.trans b3) hu)
      clear b3 hu
      go_wp2_with fail
      go_ret
      exact ⟨_, rfl, HU.out.1, HU.out.2⟩
    · have HD2 := Lib.hid (fun (w' : World) (b : AnyLater w w') => hdeeper_any r l rv lv w' false (by simpa using c2) (isH_stays b hr) (isH_stays b hl) nr nl v2 v1)
      rw [if_neg c2] at ht
      have HT : Hid (∀ (w' : World), AnyLater w w' → Calls Tryz.prog 273 #[lv, rv] w' (HAns (isH B t) w')) := Lib.hid (fun w' b => by
        subst ht
        exact htie_any l r lv rv w' (isH_stays b hl) (isH_stays b hr) hf)
      clear hl hr hf ht c1 c2 v1 v2 nl nr
      go_enter Tryz.func272, Tryz.ntmps272
      go_wp2_with fail
      refine (HD.out _ (AnyLater.refl w)).mono ?_
      rintro e w1 ⟨rfl, b1⟩
      go_wp2_with fail
      refine (HD2.out _ b1).mono ?_
      rintro e w2 ⟨rfl, b2⟩
      have b2 := b1.trans b2
      go_wp2_with fail
      refine (HT.out _ b2).mono ?_
      rintro e w3 ⟨u, rfl, b3, hu⟩
      have HU := Lib.hid (And.intro (b2.trans b3) hu)
      clear b3 hu
      go_wp2_with fail
      go_ret
      exact ⟨_, rfl, HU.out.1, HU.out.2⟩
def HJoinsTo (B n : Nat) : Prop := ∀ (l r : Ht) (lv rv : Value) (w : World) (t : Ht), l.np + r.np ≤ n → Ht.join l r = t → isH B l lv w → isH B r rv w → l.Fine → r.Fine → Tls l.hs → Tls r.hs → l.hs.length + r.hs.length ≤ 90000 →
    Calls Tryz.prog 254 #[lv, rv] w (HAns (isH B t) w)
set_option maxRecDepth 100000 in
set_option maxHeartbeats 1600000 in
theorem hjoin_nil (r : Ht) (rv : Value) (w : World) (hr : isH B r rv w) : Calls Tryz.prog 254 #[.pointer none, rv] w (HAns (isH B r) w) := by
  obtain ⟨q, rfl⟩ := hr.ptr
  have HR := Lib.hid hr
  clear hr
  go_enter Tryz.func254, Tryz.ntmps254
  go_wp2_with fail
  go_ret
  exact ⟨_, rfl, AnyLater.refl _, HR.out⟩
set_option maxRecDepth 100000 in
set_option maxHeartbeats 1600000 in
theorem hjoin_none (k : Nat) (l : Ht) (w : World) (hl : isH B l (.pointer (some ⟨k, 0, none⟩)) w) : Calls Tryz.prog 254 #[.pointer (some ⟨k, 0, none⟩), .pointer none] w (HAns (isH B l) w) := by
  have HR := Lib.hid hl
  clear hl
  go_enter Tryz.func254, Tryz.ntmps254
  go_wp2_with fail
  go_ret
  exact ⟨_, rfl, AnyLater.refl _, HR.out⟩
set_option maxRecDepth 100000 in
set_option maxHeartbeats 1600000 in
theorem hjoin_tied (k1 k2 : Nat) (l r : Ht) (w : World) (hl : isH B l (.pointer (some ⟨k1, 0, none⟩)) w) (hr : isH B r (.pointer (some ⟨k2, 0, none⟩)) w) (hf : (Ht.node l r).Fit) (c1 : ¬ r.lev + 1 < l.lev) (c2 : ¬ l.lev + 1 < r.lev) :
    Calls Tryz.prog 254 #[.pointer (some ⟨k1, 0, none⟩), .pointer (some ⟨k2, 0, none⟩)] w (HAns (isH B (.node l r)) w) := by
  have v1 := hf.left.lev
  have v2 := hf.right.lev
  have nl := hf.full.1
  have nr := hf.full.2.1
  have HD := Lib.hid (fun (w' : World) (b : AnyLater w w') => hdeeper_any l r _ _ w' false (by simpa using c1) (isH_stays b hl) (isH_stays b hr) nl nr v1 v2)
  have HD2 := Lib.hid (fun (w' : World) (b : AnyLater w w') => hdeeper_any r l _ _ w' false (by simpa using c2) (isH_stays b hr) (isH_stays b hl) nr nl v2 v1)
  have HT := Lib.hid (fun (w' : World) (b : AnyLater w w') => htie_any l r _ _ w' (isH_stays b hl) (isH_stays b hr) hf)
  clear hl hr hf c1 c2 v1 v2 nl nr
  go_enter Tryz.func254, Tryz.ntmps254
  go_wp2_with fail
  refine (HD.out _ (AnyLater.refl w)).mono ?_
  rintro e w1 ⟨rfl, b1⟩
  go_wp2_with fail
  refine (HD2.out _ b1).mono ?_
  rintro e w2 ⟨rfl, b2⟩
  have b2 := b1.trans b2
  go_wp2_with fail
  refine (HT.out _ b2).mono ?_
  rintro e w3 ⟨u, rfl, b3, hu⟩
  have HU := Lib.hid (And.intro (b2.trans b3) hu)
  clear b3 hu
  go_wp2_with fail
  go_ret
  exact ⟨_, rfl, HU.out.1, HU.out.2⟩
set_option maxRecDepth 100000 in
set_option maxHeartbeats 1600000 in
theorem hjoin_left (N : Nat) (ih : HJoinsTo B N) (k2 : Nat) (a b r : Ht) (v : Value) (w : World) (hN : b.np + r.np ≤ N) (h : isH B (.node a b) v w) (hr : isH B r (.pointer (some ⟨k2, 0, none⟩)) w) (nr : r ≠ .nil) (hl : (Ht.node a b).Fine) (hr2 : r.Fine) (hf : (Ht.node (.node a b) r).Fit) (c1 : r.lev + 1 < (Ht.node a b).lev) :
    Calls Tryz.prog 254 #[v, .pointer (some ⟨k2, 0, none⟩)] w (HAns (isH B (Ht.even a (Ht.join b r))) w) := by
  have v1 := hf.left.lev
  have v2 := hf.right.lev
  have hm := hf.most
  simp only [Ht.hs, List.length_append] at hm
  have HD := Lib.hid (fun (w' : World) (e : AnyLater w w') => hdeeper_any (.node a b) r v _ w' true (by simpa using c1) (isH_stays e h) (isH_stays e hr) (by simp) nr v1 v2)
  obtain ⟨k, av, bv, rfl, na, nb, hk, ha, hb⟩ := h.node
  have hj := Ht.join_fine_n _ b r (Nat.le_refl _) hl.right hr2
  have F1 : (Ht.node a (Ht.join b r)).Fit := hf.of (by simp [Ht.hs, Ht.hs_join]) ⟨na, hj.2.1 nb, hl.left.2, hj.1.2⟩
  have HJ := Lib.hid (fun (w' : World) (e : AnyLater w w') => ih b r bv (.pointer (some ⟨k2, 0, none⟩)) w' _ hN rfl (isH_stays e hb) (isH_stays e hr) hl.right hr2 hf.left.right.tls hf.right.tls (by omega))
  have HE := Lib.hid (fun (w' : World) (u : Value) (e : AnyLater w w') (hu : isH B (Ht.join b r) u w') => heven_any a (Ht.join b r) av u w' _ rfl (isH_stays e ha) hu F1)
  obtain ⟨qa, rfl⟩ := ha.ptr
  obtain ⟨qb, rfl⟩ := hb.ptr
  unfold hnodeC at hk
  have s0_w := hk
  have r0_w := own_row hk
  have f0_w := own_free hk
  clear ha hb hr hk hf hm hN ih v1 v2 c1 hl hr2 nr hj F1
  go_enter Tryz.func254, Tryz.ntmps254
  go_wp2_with fail
  refine (HD.out _ (AnyLater.refl w)).mono ?_
  rintro e w1 ⟨rfl, b_w1⟩
  have z_w1 := b_w1.below.size
  have a_w1 := b_w1
  have s0_w1 := any_own b_w1 s0_w
  have r0_w1 := own_row s0_w1
  have f0_w1 := own_free s0_w1
  have l0_w1 := own_lt s0_w1
  (try clear r0_w); (try clear f0_w)
  go_wp2_with fail
  apply Wild.wp_region_free (11) [⟨9, 26, undef, true, isH B (Ht.join b r)⟩, ⟨10, 27, undef, true, isH B (Ht.even a (Ht.join b r))⟩] [⟨9, 26, isH B (Ht.join b r)⟩, ⟨10, 27, isH B (Ht.even a (Ht.join b r))⟩] rfl (by kernel_rfl) (by kernel_rfl) (by kernel_rfl) (by simp) (by kernel_rfl)
  case hstab =>
    intro c hc
    simp only [List.mem_cons, List.not_mem_nil, or_false] at hc
    rcases hc with rfl | rfl
    · intro v x y hxy hv; exact isH_stays hxy hv
    · intro v x y hxy hv; exact isH_stays hxy hv
  case hfix =>
    intro c hc
    simp only [List.mem_cons, List.not_mem_nil, or_false] at hc
    rcases hc with rfl | rfl
    · exact .inl rfl
    · exact .inl rfl
  case hlex =>
    intro U hU
    have q0 := own_row (any_own hU s0_w1)
    simp only [List.map_cons, List.map_nil, CA.act, actFrom, actOp, List.lookup, Nat.reduceBEq, Nat.reduceLeDiff, Nat.reduceAdd, if_false, if_true]
    repeat (go_big_quiet_step (fail))
    exact wpQuiet_nil rfl
  case hstep =>
    intro j hj o ho
    have hj2 : j = 0 ∨ j = 1 := by simp at hj; omega
    rcases hj2 with rfl | rfl
    · cases ho
      refine ⟨rfl, fun g x hx hp => ?_⟩
      clear hp
      simp only [fillAll, Act.put, List.setIfInBounds_toArray, List.set_cons_zero, List.set_cons_succ]
      refine chain_go ?_ (Wild.free_tells (HJ.out x (a_w1.trans hx)))
      first | (simp [go_sem, execOp]; done) | simp [go_sem, execOp, hcf]
    · cases ho
      refine ⟨rfl, fun g x hx hp => ?_⟩
      have p26 : (isH B (Ht.join b r)) (g 9) x := hp _ (List.mem_of_getElem? (i := 0) rfl) (List.contains_iff_mem.1 (by kernel_rfl))
      clear hp
      simp only [fillAll, Act.put, List.setIfInBounds_toArray, List.set_cons_zero, List.set_cons_succ]
      refine chain_go ?_ (Wild.free_tells (HE.out _ _ (a_w1.trans hx) p26))
      first | (simp [go_sem, execOp]; done) | simp [go_sem, execOp, hcf]
  case htail =>
    intro g u hst hne
    have b_w2 : AnyLater w1 (later u) := ⟨u, rfl⟩
    generalize later u = w2 at *
    clear u hne
    obtain ⟨p26_w2, -⟩ := hst _ (List.mem_of_getElem? (i := 0) rfl)
    (try dsimp only at p26_w2)
    obtain ⟨p27_w2, -⟩ := hst _ (List.mem_of_getElem? (i := 1) rfl)
    (try dsimp only at p27_w2)
    clear hst
    simp only [fillAll, Act.put, List.setIfInBounds_toArray, List.set_cons_zero, List.set_cons_succ, List.drop_succ_cons, List.drop_zero, List.drop_nil]
    generalize g 9 = v26 at *
    generalize g 10 = v27 at *
    have z_w2 := b_w2.below.size
    have a_w2 := a_w1.trans b_w2
    have s0_w2 := any_own b_w2 s0_w1
    have r0_w2 := own_row s0_w2
    have f0_w2 := own_free s0_w2
    have l0_w2 := own_lt s0_w2
    (try clear r0_w1); (try clear f0_w1)
    go_wp2_with fail
    go_ret
    exact ⟨_, rfl, a_w2, p27_w2⟩
set_option maxRecDepth 100000 in
set_option maxHeartbeats 1600000 in
theorem hjoin_right (N : Nat) (ih : HJoinsTo B N) (k1 : Nat) (l a b : Ht) (v : Value) (w : World) (hN : l.np + a.np ≤ N) (h : isH B (.node a b) v w) (hl : isH B l (.pointer (some ⟨k1, 0, none⟩)) w) (nl : l ≠ .nil) (hr : (Ht.node a b).Fine) (hl2 : l.Fine) (hf : (Ht.node l (.node a b)).Fit) (c1 : ¬ (Ht.node a b).lev + 1 < l.lev) (c2 : l.lev + 1 < (Ht.node a b).lev) :
    Calls Tryz.prog 254 #[.pointer (some ⟨k1, 0, none⟩), v] w (HAns (isH B (Ht.even (Ht.join l a) b)) w) := by
  have v1 := hf.left.lev
  have v2 := hf.right.lev
  have hm := hf.most
  simp only [Ht.hs, List.length_append] at hm
  have HD := Lib.hid (fun (w' : World) (e : AnyLater w w') => hdeeper_any l (.node a b) _ v w' false (by simpa using c1) (isH_stays e hl) (isH_stays e h) nl (by simp) v1 v2)
  have HD2 := Lib.hid (fun (w' : World) (e : AnyLater w w') => hdeeper_any (.node a b) l v _ w' true (by simpa using c2) (isH_stays e h) (isH_stays e hl) (by simp) nl v2 v1)
  obtain ⟨k, av, bv, rfl, na, nb, hk, ha, hb⟩ := h.node
  have hj := Ht.join_fine_n _ l a (Nat.le_refl _) hl2 hr.left
  have F1 : (Ht.node (Ht.join l a) b).Fit := hf.of (by simp [Ht.hs, Ht.hs_join]) ⟨hj.2.1 nl, nb, hj.1.2, hr.right.2⟩
  have HJ := Lib.hid (fun (w' : World) (e : AnyLater w w') => ih l a (.pointer (some ⟨k1, 0, none⟩)) av w' _ hN rfl (isH_stays e hl) (isH_stays e ha) hl2 hr.left hf.left.tls hf.right.left.tls (by omega))
  have HE := Lib.hid (fun (w' : World) (u : Value) (e : AnyLater w w') (hu : isH B (Ht.join l a) u w') => heven_any (Ht.join l a) b u bv w' _ rfl hu (isH_stays e hb) F1)
  obtain ⟨qa, rfl⟩ := ha.ptr
  obtain ⟨qb, rfl⟩ := hb.ptr
  unfold hnodeC at hk
  have s0_w := hk
  have r0_w := own_row hk
  have f0_w := own_free hk
  clear ha hb hr hk hf hm hN ih v1 v2 c1 c2 hl hl2 nl hj F1
  go_enter Tryz.func254, Tryz.ntmps254
  go_wp2_with fail
  refine (HD.out _ (AnyLater.refl w)).mono ?_
  rintro e w1 ⟨rfl, b_w1⟩
  have z_w1 := b_w1.below.size
  have a_w1 := b_w1
  have s0_w1 := any_own b_w1 s0_w
  have r0_w1 := own_row s0_w1
  have f0_w1 := own_free s0_w1
  have l0_w1 := own_lt s0_w1
  (try clear r0_w); (try clear f0_w)
  go_wp2_with fail
  refine (HD2.out _ a_w1).mono ?_
  rintro e w2 ⟨rfl, b_w2⟩
  have z_w2 := b_w2.below.size
  have a_w2 := a_w1.trans b_w2
  have s0_w2 := any_own b_w2 s0_w1
  have r0_w2 := own_row s0_w2
  have f0_w2 := own_free s0_w2
  have l0_w2 := own_lt s0_w2
  (try clear r0_w1); (try clear f0_w1)
  go_wp2_with fail
  apply Wild.wp_region_free (11) [⟨5, 37, undef, true, isH B (Ht.join l a)⟩, ⟨10, 42, undef, true, isH B (Ht.even (Ht.join l a) b)⟩] [⟨5, 37, isH B (Ht.join l a)⟩, ⟨10, 42, isH B (Ht.even (Ht.join l a) b)⟩] rfl (by kernel_rfl) (by kernel_rfl) (by kernel_rfl) (by simp) (by kernel_rfl)
  case hstab =>
    intro c hc
    simp only [List.mem_cons, List.not_mem_nil, or_false] at hc
    rcases hc with rfl | rfl
    · intro v x y hxy hv; exact isH_stays hxy hv
    · intro v x y hxy hv; exact isH_stays hxy hv
  case hfix =>
    intro c hc
    simp only [List.mem_cons, List.not_mem_nil, or_false] at hc
    rcases hc with rfl | rfl
    · exact .inl rfl
    · exact .inl rfl
  case hlex =>
    intro U hU
    have q0 := own_row (any_own hU s0_w2)
    simp only [List.map_cons, List.map_nil, CA.act, actFrom, actOp, List.lookup, Nat.reduceBEq, Nat.reduceLeDiff, Nat.reduceAdd, if_false, if_true]
    repeat (go_big_quiet_step (fail))
    exact wpQuiet_nil rfl
  case hstep =>
    intro j hj o ho
    have hj2 : j = 0 ∨ j = 1 := by simp at hj; omega
    rcases hj2 with rfl | rfl
    · cases ho
      refine ⟨rfl, fun g x hx hp => ?_⟩
      clear hp
      simp only [fillAll, Act.put, List.setIfInBounds_toArray, List.set_cons_zero, List.set_cons_succ]
      refine chain_go ?_ (Wild.free_tells (HJ.out x (a_w2.trans hx)))
      first | (simp [go_sem, execOp]; done) | simp [go_sem, execOp, hcf]
    · cases ho
      refine ⟨rfl, fun g x hx hp => ?_⟩
      have p37 : (isH B (Ht.join l a)) (g 5) x := hp _ (List.mem_of_getElem? (i := 0) rfl) (List.contains_iff_mem.1 (by kernel_rfl))
      clear hp
      simp only [fillAll, Act.put, List.setIfInBounds_toArray, List.set_cons_zero, List.set_cons_succ]
      refine chain_go ?_ (Wild.free_tells (HE.out _ _ (a_w2.trans hx) p37))
      first | (simp [go_sem, execOp]; done) | simp [go_sem, execOp, hcf]
  case htail =>
    intro g u hst hne
    have b_w3 : AnyLater w2 (later u) := ⟨u, rfl⟩
    generalize later u = w3 at *
    clear u hne
    obtain ⟨p37_w3, -⟩ := hst _ (List.mem_of_getElem? (i := 0) rfl)
    (try dsimp only at p37_w3)
    obtain ⟨p42_w3, -⟩ := hst _ (List.mem_of_getElem? (i := 1) rfl)
    (try dsimp only at p42_w3)
    clear hst
    simp only [fillAll, Act.put, List.setIfInBounds_toArray, List.set_cons_zero, List.set_cons_succ, List.drop_succ_cons, List.drop_zero, List.drop_nil]
    generalize g 5 = v37 at *
    generalize g 10 = v42 at *
    have z_w3 := b_w3.below.size
    have a_w3 := a_w2.trans b_w3
    have s0_w3 := any_own b_w3 s0_w2
    have r0_w3 := own_row s0_w3
    have f0_w3 := own_free s0_w3
    have l0_w3 := own_lt s0_w3
    (try clear r0_w2); (try clear f0_w2)
    go_wp2_with fail
    go_ret
    exact ⟨_, rfl, a_w3, p42_w3⟩
theorem hjoins (n : Nat) : HJoinsTo B n := by
  induction n with
  | zero =>
    intro l r lv rv w t hN ht hl hr _ _ _ _ _
    subst ht
    have h3 := Ht.lev_le l
    obtain rfl := Ht.lev_zero (t := l) (by omega)
    rw [Ht.join_nil_left]
    obtain rfl := hl.nil
    exact hjoin_nil r rv w hr
  | succ n ih =>
    intro l r lv rv w t hN ht hl hr fl fr tl tr hm
    subst ht
    by_cases l0 : l = .nil
    · subst l0
      rw [Ht.join_nil_left]
      obtain rfl := hl.nil
      exact hjoin_nil r rv w hr
    · obtain ⟨k1, rfl⟩ := hl.there l0
      by_cases r0 : r = .nil
      · subst r0
        rw [Ht.join_nil_right]
        obtain rfl := hr.nil
        exact hjoin_none k1 l w hl
      · obtain ⟨k2, rfl⟩ := hr.there r0
        have hf : (Ht.node l r).Fit := ⟨⟨l0, r0, fl.2, fr.2⟩, tl.append tr, by rw [Ht.hs, List.length_append]; exact hm⟩
        by_cases c1 : r.lev + 1 < l.lev
        · cases l with
          | nil => exact absurd rfl l0
          | leaf _ _ => simp only [Ht.lev] at c1; omega
          | node a b =>
            rw [Ht.join_left _ _ _ r0 c1]
            exact hjoin_left n ih k2 a b r _ w (by simp only [Ht.np] at hN; omega) hl hr r0 fl fr hf c1
        · by_cases c2 : l.lev + 1 < r.lev
          · cases r with
            | nil => exact absurd rfl r0
            | leaf _ _ => simp only [Ht.lev] at c2; omega
            | node a b =>
              rw [Ht.join_right _ _ _ l0 c1 c2]
              exact hjoin_right n ih k1 l a b _ w (by simp only [Ht.np] at hN; omega) hr hl l0 fr fl hf c1 c2
          · rw [Ht.join_tie _ _ l0 r0 c1 c2]
            exact hjoin_tied k1 k2 l r w hl hr hf c1 c2
theorem hjoin_any (l r : Ht) (lv rv : Value) (w : World) (t : Ht) (ht : Ht.join l r = t) (hl : isH B l lv w) (hr : isH B r rv w) (fl : l.Fine) (fr : r.Fine) (tl : Tls l.hs) (tr : Tls r.hs) (hm : l.hs.length + r.hs.length ≤ 90000) :
    Calls Tryz.prog 254 #[lv, rv] w (HAns (isH B t) w) := hjoins _ l r lv rv w t (Nat.le_refl _) ht hl hr fl fr tl tr hm
end Go.Proofs.YtamhnffokoejjaaGreatDoor
