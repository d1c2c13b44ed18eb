/- heights: both made of the same heights. -/
import Derived.Test.YtjoadlfkdkeomaaHgtS
import Derived.Test.YtjoadlfkdkeomaaMakeW
import Derived.Lib.AppendZeros
import Derived.LoopN
import Derived.Deep.LoopGhost
import Derived.BigRegion
import Derived.RegionTactic
import Derived.Shelf.Abstract
import Derived.ChangeKeysEq
import Derived.Deep.DeepCutAuto
import Derived.Deep.CutBlock
namespace Go.Proofs.Ytjoadlfkdkeomaa
set_option linter.unusedSimpArgs false
set_option linter.unusedVariables false
set_option linter.unusedSectionVars false
open Go.RowKit
variable {B : Nat}

/-- the document's lines, as a call's answer; what they take up lies from S on -/
def isXL (S : Nat) (m : Qs) (u : Value) (x : World) : Prop := ∃ xg rL rH, u = .pointer (some ⟨xg, 0, none⟩) ∧ XAt S x xg rL rH m (List.replicate m.length false)
theorem isXL_stays {S : Nat} {m : Qs} {u : Value} {w w' : World} (h : AnyLater w w') (s : isXL S m u w) : isXL S m u w' := by
  obtain ⟨xg, rL, rH, e, q⟩ := s
  exact ⟨xg, rL, rH, e, q.later h⟩
def isLn (S : Nat) (m : Qs) (M : Nat) (u : Value) (x : World) : Prop := ∃ uL uH, u = .agg #[uL, uH] ∧ OQ 33 x S uL m ∧ OB x S uH (List.replicate M false)
theorem isLn_stays {S M : Nat} {m : Qs} {u : Value} {w w' : World} (h : AnyLater w w') (s : isLn S m M u w) : isLn S m M u w' := by
  obtain ⟨a, b, e, q, r⟩ := s
  exact ⟨a, b, e, OQ.later h q, OB.later h r⟩
set_option maxRecDepth 100000 in
set_option maxHeartbeats 3200000 in
theorem hbegin_yes (u : Value) (l m : Qs) (w : World) (hm : l.take 30 = m) (hu : QR w u l) (hb : m.any tlBad = false) : Calls Try.prog 7 #[u] w fun e w' => ∃ hg xg K rL rH, e = .returned (.tuple #[.pointer (some ⟨hg, 0, none⟩), .pointer (some ⟨xg, 0, none⟩), .bool true]) ∧ AnyLater w w' ∧ HX w.heap.size w' hg xg K rL rH m (List.replicate m.length false) m (List.replicate m.length false) := by
  have hm30 : m.length ≤ 30 := by rw [← hm, List.length_take]; omega
  have HF0 := Lib.hid (fun (W : World) (a : AnyLater w W) => htfew_any u l m W hm (hu.later a))
  have HN := Lib.hid (fun (W : World) (v : Value) (C : Nat) (o : OQ 33 W C v m) => hgnew_yes v m C W o (by omega) hb)
  obtain ⟨A, cap, rfl, -⟩ := hu.form
  clear hu hb hm
  generalize l.length = n at *
  go_enter Try.func7, Try.ntmps7
  go_wp2_with fail
  refine (HF0.out w (AnyLater.refl w)).mono ?_
  rintro e w0 ⟨v0, rfl, b0, o0⟩
  have H0 := Lib.hid (And.intro b0 o0)
  obtain ⟨A0, c0, rfl, -⟩ := (OQ.rq o0).form
  clear b0 o0
  go_wp2_with fail
  refine (HN.out w0 _ _ H0.out.2).mono ?_
  rintro e w1 ⟨hg, K, rfl, b1, q1⟩
  have H1 := Lib.hid (And.intro (H0.out.1.trans b1) (And.intro b1 q1))
  have a_w1 := AnyLater.refl w1
  clear b1 q1
  obtain ⟨S, hS⟩ : ∃ S, w1.heap.size = S := ⟨_, rfl⟩
  have HSz : Hid (S ≤ w1.heap.size) := Lib.hid (Nat.le_of_eq hS.symm)
  have HS := Lib.hid hS
  have HF : Hid (∀ (x : World), AnyLater w1 x → Calls Try.prog 9 #[.slice A n cap] x fun e w' => ∃ z, e = .returned z ∧ AnyLater x w' ∧ OQ 33 w' S z m) := Lib.hid (fun x hx => (HF0.out x (H1.out.1.trans hx)).mono fun e w' ⟨z, k1, k2, k3⟩ => ⟨z, k1, k2, OQ.wide (by rw [← hS]; exact hx.below.size) k3⟩)
  obtain ⟨M, hM⟩ : ∃ M, m.length = M := ⟨_, rfl⟩
  have HM := Lib.hid hM
  have HML : Hid (M ≤ 90000) := Lib.hid (by omega)
  have HXL : Hid (∀ (x : World) (uL uH : Value), AnyLater w1 x → OQ 33 x S uL m → OB x S uH (List.replicate M false) → isXL S m (.pointer (some ⟨x.heap.size, 0, none⟩)) (x.alloc (.cells #[uL, uH] 39))) := Lib.hid (fun x uL uH hx o1 o2 => ⟨x.heap.size, _, _, rfl, ⟨⟨uL, uH, heap_new rfl, OQ.later ((AnyLater.refl x).alloc _) o1, by rw [hM]; exact OB.later ((AnyLater.refl x).alloc _) o2, rfl, rfl⟩, by rw [← hS]; exact hx.below.size, by simp⟩⟩)
  clear hS hM hm30
  go_wp2_with fail
  apply Wild.wp_region_free (18) [⟨2, 15, undef, true, fun u x => OQ 33 x S u m⟩, ⟨4, 17, undef, true, fun u x => OQ 33 x S u m⟩, ⟨5, 18, .int .i64 (M : Int), false, fun v _ => v = .int .i64 (M : Int)⟩, ⟨6, 19, undef, true, fun u x => OB x S u (List.replicate M false)⟩, ⟨7, 20, undef, true, isLn S m M⟩, ⟨8, 21, undef, true, isXL S m⟩, ⟨16, 3, undef, true, isXL S m⟩] [⟨2, 15, fun u x => OQ 33 x S u m⟩, ⟨4, 17, fun u x => OQ 33 x S u m⟩, ⟨6, 19, fun u x => OB x S u (List.replicate M false)⟩, ⟨7, 20, isLn S m M⟩, ⟨8, 21, isXL S m⟩, ⟨16, 3, isXL S m⟩] rfl (by kernel_rfl) (by kernel_rfl) (by kernel_rfl) (by simp) (by kernel_rfl)
  case hstab =>
    intro c hc
    simp only [List.mem_cons, List.not_mem_nil, or_false] at hc
    rcases hc with rfl | rfl | rfl | rfl | rfl | rfl | rfl
    · intro v x y hxy hv; exact (fun h k => OQ.later h k) hxy hv
    · intro v x y hxy hv; exact (fun h k => OQ.later h k) hxy hv
    · intro v x y hxy hv; exact hv
    · intro v x y hxy hv; exact (fun h k => OB.later h k) hxy hv
    · intro v x y hxy hv; exact isLn_stays hxy hv
    · intro v x y hxy hv; exact isXL_stays hxy hv
    · intro v x y hxy hv; exact isXL_stays hxy hv
  case hfix =>
    intro c hc
    simp only [List.mem_cons, List.not_mem_nil, or_false] at hc
    rcases hc with rfl | rfl | rfl | rfl | rfl | rfl | rfl
    · exact .inl rfl
    · exact .inl rfl
    · exact .inr fun u x h => h
    · exact .inl rfl
    · exact .inl rfl
    · exact .inl rfl
    · exact .inl rfl
  case hlex =>
    intro U hU
    simp only [List.map_cons, List.map_nil, CA.act, actFrom, actOp, List.lookup, Nat.reduceBEq, Nat.reduceLeDiff, Nat.reduceAdd, if_false, if_true]
    repeat (go_big_quiet_step (fail))
    exact wpQuiet_nil rfl
  case hstep =>
    intro j hj o ho
    have hj2 : j = 0 ∨ j = 1 ∨ j = 2 ∨ j = 3 ∨ j = 4 ∨ j = 5 ∨ j = 6 := by simp at hj; omega
    rcases hj2 with rfl | rfl | rfl | rfl | rfl | rfl | rfl
    · cases ho
      refine ⟨rfl, fun g x hx hp => ?_⟩
      clear hp
      simp only [fillAll, Act.put, List.setIfInBounds_toArray, List.set_cons_zero, List.set_cons_succ]
      refine chain_go ?_ (Wild.free_tells (HF.out x hx))
      first | (simp [go_sem, execOp]; done) | simp [go_sem, execOp, hcf]
    · cases ho
      refine ⟨rfl, fun g x hx hp => ?_⟩
      clear hp
      simp only [fillAll, Act.put, List.setIfInBounds_toArray, List.set_cons_zero, List.set_cons_succ]
      refine chain_go ?_ (Wild.free_tells (HF.out x hx))
      first | (simp [go_sem, execOp]; done) | simp [go_sem, execOp, hcf]
    · cases ho
      refine ⟨rfl, fun g x hx hp => ?_⟩
      have p17 : (fun u x => OQ 33 x S u m) (g 4) x := hp _ (List.mem_of_getElem? (i := 1) rfl) (List.contains_iff_mem.1 (by kernel_rfl))
      clear hp
      simp only [fillAll, Act.put, List.setIfInBounds_toArray, List.set_cons_zero, List.set_cons_succ]
      (obtain ⟨A7, c7, e7, -⟩ := (OQ.rq p17).form; rw [HM.out] at e7; refine Wild.free_op ?_; simp [go_sem, execOp, e7])
    · cases ho
      refine ⟨rfl, fun g x hx hp => ?_⟩
      clear hp
      simp only [fillAll, Act.put, List.setIfInBounds_toArray, List.set_cons_zero, List.set_cons_succ]
      (obtain ⟨w9, m1, m2, m3⟩ := makeB M HML.out x; refine Wild.free_make (v := .slice (some ⟨x.heap.size, 0, none⟩) M M) (w' := w9) (by simp [go_sem, execOp, m1]) m2 (OB.wide (Nat.le_trans HSz.out hx.below.size) m3))
    · cases ho
      refine ⟨rfl, fun g x hx hp => ?_⟩
      have p15 : (fun u x => OQ 33 x S u m) (g 2) x := hp _ (List.mem_of_getElem? (i := 0) rfl) (List.contains_iff_mem.1 (by kernel_rfl))
      have p19 : (fun u x => OB x S u (List.replicate M false)) (g 6) x := hp _ (List.mem_of_getElem? (i := 2) rfl) (List.contains_iff_mem.1 (by kernel_rfl))
      clear hp
      simp only [fillAll, Act.put, List.setIfInBounds_toArray, List.set_cons_zero, List.set_cons_succ]
      (obtain ⟨A7, c7, e7, -⟩ := (OQ.rq p15).form; obtain ⟨A8, c8, e8, -⟩ := (OB.rb p19).form; refine Wild.free_is (v := .agg #[g 2, g 6]) ?_ ⟨_, _, rfl, p15, p19⟩; simp [go_sem, execOp, e7, e8])
    · cases ho
      refine ⟨rfl, fun g x hx hp => ?_⟩
      have p20 : (isLn S m M) (g 7) x := hp _ (List.mem_of_getElem? (i := 3) rfl) (List.contains_iff_mem.1 (by kernel_rfl))
      clear hp
      simp only [fillAll, Act.put, List.setIfInBounds_toArray, List.set_cons_zero, List.set_cons_succ]
      (obtain ⟨uL, uH, e9, o1, o2⟩ := p20; obtain ⟨A7, c7, e7, -⟩ := (OQ.rq o1).form; obtain ⟨A8, c8, e8, -⟩ := (OB.rb o2).form; subst e7; subst e8; refine Wild.free_make (v := .pointer (some ⟨x.heap.size, 0, none⟩)) (w' := x.alloc (.cells #[.slice A7 m.length c7, .slice A8 (List.replicate M false).length c8] 39)) (by simp [go_sem, execOp, e9]) ((AnyLater.refl x).alloc _) (HXL.out x _ _ hx o1 o2))
    · cases ho
      refine ⟨rfl, fun g x hx hp => ?_⟩
      have p21 : (isXL S m) (g 8) x := hp _ (List.mem_of_getElem? (i := 4) rfl) (List.contains_iff_mem.1 (by kernel_rfl))
      clear hp
      simp only [fillAll, Act.put, List.setIfInBounds_toArray, List.set_cons_zero, List.set_cons_succ]
      (refine Wild.free_is (v := g 8) ?_ p21; simp [go_sem, execOp])
  case htail =>
    intro g u hst hne
    have b_w2 : AnyLater w1 (later u) := ⟨u, rfl⟩
    generalize later u = w2 at *
    clear u hne
    obtain ⟨p15_w2, -⟩ := hst _ (List.mem_of_getElem? (i := 0) rfl)
    (try dsimp only at p15_w2)
    obtain ⟨p17_w2, -⟩ := hst _ (List.mem_of_getElem? (i := 1) rfl)
    (try dsimp only at p17_w2)
    obtain ⟨p19_w2, -⟩ := hst _ (List.mem_of_getElem? (i := 2) rfl)
    (try dsimp only at p19_w2)
    obtain ⟨p20_w2, -⟩ := hst _ (List.mem_of_getElem? (i := 3) rfl)
    (try dsimp only at p20_w2)
    obtain ⟨p21_w2, -⟩ := hst _ (List.mem_of_getElem? (i := 4) rfl)
    (try dsimp only at p21_w2)
    obtain ⟨p3_w2, -⟩ := hst _ (List.mem_of_getElem? (i := 5) rfl)
    (try dsimp only at p3_w2)
    clear hst
    simp only [fillAll, Act.put, List.setIfInBounds_toArray, List.set_cons_zero, List.set_cons_succ, List.drop_succ_cons, List.drop_zero, List.drop_nil]
    generalize g 2 = v15 at *
    generalize g 4 = v17 at *
    generalize g 6 = v19 at *
    generalize g 7 = v20 at *
    generalize g 8 = v21 at *
    generalize g 16 = v3 at *
    have z_w2 := b_w2.below.size
    have a_w2 := a_w1.trans b_w2
    have HV := Lib.hid (And.intro b_w2 p3_w2)
    clear p3_w2 p15_w2 p17_w2 p19_w2 p20_w2 p21_w2 b_w2
    go_wp2_with fail
    obtain ⟨b2, xg, rL, rH, rfl, qx⟩ := HV.out
    refine bodyPost_ret (v := .tuple #[.pointer (some ⟨hg, 0, none⟩), .pointer (some ⟨xg, 0, none⟩), .bool true]) (by simp [results, Try.results7, go_sem]) rfl ?_
    have hw0 := H0.out.1.below.size
    have hw1 := H1.out.2.1.below.size
    have hSS := HS.out
    refine ⟨hg, xg, K, rL, rH, rfl, H1.out.1.trans b2, ?_⟩
    have qh := H1.out.2.2.later b2
    obtain ⟨v1, v2, v3, d1, d2, d3, g0, g1, g2, g3, g4, g5, g6, g7⟩ := qh.ex
    obtain ⟨uL, uH, x0, x1, x2, x3, x4⟩ := qx.ex
    have hb := qh.base
    have hbx := qx.base
    refine ⟨⟨⟨v1, v2, v3, d1, d2, d3, g0, g1.mono hw0, g2.mono hw0, g3.mono hw0, g4, g5, g6, g7⟩, by omega, qh.len⟩, ⟨⟨uL, uH, x0, OQ.wide (by omega) x1, OB.wide (by omega) x2, x3, x4⟩, by omega, qx.len⟩, fun b hb2 hk => ?_⟩
    have r1 := (row_blk x1 (by rw [x3]; exact hb2)).1
    have r2 := (H1.out.2.2.in_ b hk).2
    omega
set_option maxRecDepth 100000 in
set_option maxHeartbeats 3200000 in
theorem hbegin_bad (u : Value) (l m : Qs) (w : World) (hm : l.take 30 = m) (hu : QR w u l) (hb : m.any tlBad = true) : Calls Try.prog 7 #[u] w fun e w' => ∃ xg, e = .returned (.tuple #[.pointer none, .pointer (some ⟨xg, 0, none⟩), .bool false]) ∧ AnyLater w w' := by
  have hm30 : m.length ≤ 30 := by rw [← hm, List.length_take]; omega
  have HF0 := Lib.hid (fun (W : World) (a : AnyLater w W) => htfew_any u l m W hm (hu.later a))
  have HN := Lib.hid (fun (W : World) (v : Value) (C : Nat) (o : OQ 33 W C v m) => hgnew_bad v m C W o (by omega) hb)
  obtain ⟨A, cap, rfl, -⟩ := hu.form
  clear hu hb hm
  generalize l.length = n at *
  go_enter Try.func7, Try.ntmps7
  go_wp2_with fail
  refine (HF0.out w (AnyLater.refl w)).mono ?_
  rintro e w0 ⟨v0, rfl, b0, o0⟩
  have H0 := Lib.hid (And.intro b0 o0)
  obtain ⟨A0, c0, rfl, -⟩ := (OQ.rq o0).form
  clear b0 o0
  go_wp2_with fail
  refine (HN.out w0 _ _ H0.out.2).mono ?_
  rintro e w1 ⟨rfl, b1⟩
  have H1 := Lib.hid (H0.out.1.trans b1)
  have a_w1 := AnyLater.refl w1
  clear b1
  obtain ⟨S, hS⟩ : ∃ S, w1.heap.size = S := ⟨_, rfl⟩
  have HSz : Hid (S ≤ w1.heap.size) := Lib.hid (Nat.le_of_eq hS.symm)
  have HF : Hid (∀ (x : World), AnyLater w1 x → Calls Try.prog 9 #[.slice A n cap] x fun e w' => ∃ z, e = .returned z ∧ AnyLater x w' ∧ OQ 33 w' S z m) := Lib.hid (fun x hx => (HF0.out x (H1.out.trans hx)).mono fun e w' ⟨z, k1, k2, k3⟩ => ⟨z, k1, k2, OQ.wide (by rw [← hS]; exact hx.below.size) k3⟩)
  obtain ⟨M, hM⟩ : ∃ M, m.length = M := ⟨_, rfl⟩
  have HM := Lib.hid hM
  have HML : Hid (M ≤ 90000) := Lib.hid (by omega)
  have HXL : Hid (∀ (x : World) (uL uH : Value), AnyLater w1 x → OQ 33 x S uL m → OB x S uH (List.replicate M false) → isXL S m (.pointer (some ⟨x.heap.size, 0, none⟩)) (x.alloc (.cells #[uL, uH] 39))) := Lib.hid (fun x uL uH hx o1 o2 => ⟨x.heap.size, _, _, rfl, ⟨⟨uL, uH, heap_new rfl, OQ.later ((AnyLater.refl x).alloc _) o1, by rw [hM]; exact OB.later ((AnyLater.refl x).alloc _) o2, rfl, rfl⟩, by rw [← hS]; exact hx.below.size, by simp⟩⟩)
  clear hS hM hm30
  go_wp2_with fail
  apply Wild.wp_region_free (18) [⟨2, 15, undef, true, fun u x => OQ 33 x S u m⟩, ⟨4, 17, undef, true, fun u x => OQ 33 x S u m⟩, ⟨5, 18, .int .i64 (M : Int), false, fun v _ => v = .int .i64 (M : Int)⟩, ⟨6, 19, undef, true, fun u x => OB x S u (List.replicate M false)⟩, ⟨7, 20, undef, true, isLn S m M⟩, ⟨8, 21, undef, true, isXL S m⟩, ⟨16, 3, undef, true, isXL S m⟩] [⟨2, 15, fun u x => OQ 33 x S u m⟩, ⟨4, 17, fun u x => OQ 33 x S u m⟩, ⟨6, 19, fun u x => OB x S u (List.replicate M false)⟩, ⟨7, 20, isLn S m M⟩, ⟨8, 21, isXL S m⟩, ⟨16, 3, isXL S m⟩] rfl (by kernel_rfl) (by kernel_rfl) (by kernel_rfl) (by simp) (by kernel_rfl)
  case hstab =>
    intro c hc
    simp only [List.mem_cons, List.not_mem_nil, or_false] at hc
    rcases hc with rfl | rfl | rfl | rfl | rfl | rfl | rfl
    · intro v x y hxy hv; exact (fun h k => OQ.later h k) hxy hv
    · intro v x y hxy hv; exact (fun h k => OQ.later h k) hxy hv
    · intro v x y hxy hv; exact hv
    · intro v x y hxy hv; exact (fun h k => OB.later h k) hxy hv
    · intro v x y hxy hv; exact isLn_stays hxy hv
    · intro v x y hxy hv; exact isXL_stays hxy hv
    · intro v x y hxy hv; exact isXL_stays hxy hv
  case hfix =>
    intro c hc
    simp only [List.mem_cons, List.not_mem_nil, or_false] at hc
    rcases hc with rfl | rfl | rfl | rfl | rfl | rfl | rfl
    · exact .inl rfl
    · exact .inl rfl
    · exact .inr fun u x h => h
    · exact .inl rfl
    · exact .inl rfl
    · exact .inl rfl
    · exact .inl rfl
  case hlex =>
    intro U hU
    simp only [List.map_cons, List.map_nil, CA.act, actFrom, actOp, List.lookup, Nat.reduceBEq, Nat.reduceLeDiff, Nat.reduceAdd, if_false, if_true]
    repeat (go_big_quiet_step (fail))
    exact wpQuiet_nil rfl
  case hstep =>
    intro j hj o ho
    have hj2 : j = 0 ∨ j = 1 ∨ j = 2 ∨ j = 3 ∨ j = 4 ∨ j = 5 ∨ j = 6 := by simp at hj; omega
    rcases hj2 with rfl | rfl | rfl | rfl | rfl | rfl | rfl
    · cases ho
      refine ⟨rfl, fun g x hx hp => ?_⟩
      clear hp
      simp only [fillAll, Act.put, List.setIfInBounds_toArray, List.set_cons_zero, List.set_cons_succ]
      refine chain_go ?_ (Wild.free_tells (HF.out x hx))
      first | (simp [go_sem, execOp]; done) | simp [go_sem, execOp, hcf]
    · cases ho
      refine ⟨rfl, fun g x hx hp => ?_⟩
      clear hp
      simp only [fillAll, Act.put, List.setIfInBounds_toArray, List.set_cons_zero, List.set_cons_succ]
      refine chain_go ?_ (Wild.free_tells (HF.out x hx))
      first | (simp [go_sem, execOp]; done) | simp [go_sem, execOp, hcf]
    · cases ho
      refine ⟨rfl, fun g x hx hp => ?_⟩
      have p17 : (fun u x => OQ 33 x S u m) (g 4) x := hp _ (List.mem_of_getElem? (i := 1) rfl) (List.contains_iff_mem.1 (by kernel_rfl))
      clear hp
      simp only [fillAll, Act.put, List.setIfInBounds_toArray, List.set_cons_zero, List.set_cons_succ]
      (obtain ⟨A7, c7, e7, -⟩ := (OQ.rq p17).form; rw [HM.out] at e7; refine Wild.free_op ?_; simp [go_sem, execOp, e7])
    · cases ho
      refine ⟨rfl, fun g x hx hp => ?_⟩
      clear hp
      simp only [fillAll, Act.put, List.setIfInBounds_toArray, List.set_cons_zero, List.set_cons_succ]
      (obtain ⟨w9, m1, m2, m3⟩ := makeB M HML.out x; refine Wild.free_make (v := .slice (some ⟨x.heap.size, 0, none⟩) M M) (w' := w9) (by simp [go_sem, execOp, m1]) m2 (OB.wide (Nat.le_trans HSz.out hx.below.size) m3))
    · cases ho
      refine ⟨rfl, fun g x hx hp => ?_⟩
      have p15 : (fun u x => OQ 33 x S u m) (g 2) x := hp _ (List.mem_of_getElem? (i := 0) rfl) (List.contains_iff_mem.1 (by kernel_rfl))
      have p19 : (fun u x => OB x S u (List.replicate M false)) (g 6) x := hp _ (List.mem_of_getElem? (i := 2) rfl) (List.contains_iff_mem.1 (by kernel_rfl))
      clear hp
      simp only [fillAll, Act.put, List.setIfInBounds_toArray, List.set_cons_zero, List.set_cons_succ]
      (obtain ⟨A7, c7, e7, -⟩ := (OQ.rq p15).form; obtain ⟨A8, c8, e8, -⟩ := (OB.rb p19).form; refine Wild.free_is (v := .agg #[g 2, g 6]) ?_ ⟨_, _, rfl, p15, p19⟩; simp [go_sem, execOp, e7, e8])
    · cases ho
      refine ⟨rfl, fun g x hx hp => ?_⟩
      have p20 : (isLn S m M) (g 7) x := hp _ (List.mem_of_getElem? (i := 3) rfl) (List.contains_iff_mem.1 (by kernel_rfl))
      clear hp
      simp only [fillAll, Act.put, List.setIfInBounds_toArray, List.set_cons_zero, List.set_cons_succ]
      (obtain ⟨uL, uH, e9, o1, o2⟩ := p20; obtain ⟨A7, c7, e7, -⟩ := (OQ.rq o1).form; obtain ⟨A8, c8, e8, -⟩ := (OB.rb o2).form; subst e7; subst e8; refine Wild.free_make (v := .pointer (some ⟨x.heap.size, 0, none⟩)) (w' := x.alloc (.cells #[.slice A7 m.length c7, .slice A8 (List.replicate M false).length c8] 39)) (by simp [go_sem, execOp, e9]) ((AnyLater.refl x).alloc _) (HXL.out x _ _ hx o1 o2))
    · cases ho
      refine ⟨rfl, fun g x hx hp => ?_⟩
      have p21 : (isXL S m) (g 8) x := hp _ (List.mem_of_getElem? (i := 4) rfl) (List.contains_iff_mem.1 (by kernel_rfl))
      clear hp
      simp only [fillAll, Act.put, List.setIfInBounds_toArray, List.set_cons_zero, List.set_cons_succ]
      (refine Wild.free_is (v := g 8) ?_ p21; simp [go_sem, execOp])
  case htail =>
    intro g u hst hne
    have b_w2 : AnyLater w1 (later u) := ⟨u, rfl⟩
    generalize later u = w2 at *
    clear u hne
    obtain ⟨p15_w2, -⟩ := hst _ (List.mem_of_getElem? (i := 0) rfl)
    (try dsimp only at p15_w2)
    obtain ⟨p17_w2, -⟩ := hst _ (List.mem_of_getElem? (i := 1) rfl)
    (try dsimp only at p17_w2)
    obtain ⟨p19_w2, -⟩ := hst _ (List.mem_of_getElem? (i := 2) rfl)
    (try dsimp only at p19_w2)
    obtain ⟨p20_w2, -⟩ := hst _ (List.mem_of_getElem? (i := 3) rfl)
    (try dsimp only at p20_w2)
    obtain ⟨p21_w2, -⟩ := hst _ (List.mem_of_getElem? (i := 4) rfl)
    (try dsimp only at p21_w2)
    obtain ⟨p3_w2, -⟩ := hst _ (List.mem_of_getElem? (i := 5) rfl)
    (try dsimp only at p3_w2)
    clear hst
    simp only [fillAll, Act.put, List.setIfInBounds_toArray, List.set_cons_zero, List.set_cons_succ, List.drop_succ_cons, List.drop_zero, List.drop_nil]
    generalize g 2 = v15 at *
    generalize g 4 = v17 at *
    generalize g 6 = v19 at *
    generalize g 7 = v20 at *
    generalize g 8 = v21 at *
    generalize g 16 = v3 at *
    have z_w2 := b_w2.below.size
    have a_w2 := a_w1.trans b_w2
    have HV := Lib.hid (And.intro b_w2 p3_w2)
    clear p3_w2 p15_w2 p17_w2 p19_w2 p20_w2 p21_w2 b_w2
    go_wp2_with fail
    obtain ⟨b2, xg, rL, rH, rfl, qx⟩ := HV.out
    refine bodyPost_ret (v := .tuple #[.pointer none, .pointer (some ⟨xg, 0, none⟩), .bool false]) (by simp [results, Try.results7, go_sem]) rfl ?_
    exact ⟨xg, rfl, H1.out.trans b2⟩
end Go.Proofs.Ytjoadlfkdkeomaa
