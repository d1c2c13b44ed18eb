/- what the proof stands on: HgtL HgtN -/
import Derived.LoopN
import Derived.Deep.LoopGhost
import Derived.BigRegion
import Derived.RegionTactic
import Derived.Shelf.Abstract
import Derived.ChangeKeysEq
import Derived.Deep.DeepCutAuto
import Derived.Deep.CutBlock
import Derived.Test.YtamhnffokoejjaaGreatDoorKnbm
import Derived.Test.YtamhnffokoejjaaGreatDoorKnaf
namespace Go.Proofs.YtamhnffokoejjaaGreatDoor
set_option linter.unusedSimpArgs false
set_option linter.unusedVariables false
set_option linter.unusedSectionVars false
open Go.RowKit
variable {B : Nat}
instance (i k n : Int) : Decidable (ClcSpan i k n) := by unfold ClcSpan; infer_instance
theorem rep_good (n : Nat) : (List.replicate n ((0, 1) : Int × Int)).any tlBad = false := by
  rw [List.any_eq_false]
  intro x hx
  rw [List.eq_of_mem_replicate hx]
  decide
theorem opn_len (H : List Bool) : (opnL H).length = H.length := by unfold opnL; rw [List.length_map]
def spH (H : List Bool) (m i n : Nat) : List Bool := H.take i ++ List.replicate m false ++ H.drop (i + n)
theorem spH_len {L m : Qs} {H : List Bool} {i n : Nat} (h : H.length = L.length) : (spH H m.length i n).length = (spL L m i n).length := by
  unfold spH spL
  simp only [List.length_append, List.length_take, List.length_drop, List.length_replicate, h]
theorem shw_sp {L m : Qs} {H : List Bool} {i n : Nat} (h : H.length = L.length) : spL (shwL L H) m i n = shwL (spL L m i n) (spH H m.length i n) := by
  have e : shwL m (List.replicate m.length false) = m := by
    unfold shwL
    apply List.ext_getElem?
    intro j
    rw [List.getElem?_zipWith]
    by_cases hj : j < m.length
    · simp [hj]
    · simp [hj]
  unfold spL spH
  rw [show shwL (L.take i ++ m ++ L.drop (i + n)) (H.take i ++ List.replicate m.length false ++ H.drop (i + n)) = shwL (L.take i) (H.take i) ++ shwL m (List.replicate m.length false) ++ shwL (L.drop (i + n)) (H.drop (i + n)) from by
    unfold shwL
    rw [List.zipWith_append (by simp [h]), List.zipWith_append (by simp [h])], e]
  unfold shwL
  rw [List.take_zipWith, List.drop_zipWith]
theorem opn_sp {H : List Bool} {m i n : Nat} : spL (opnL H) (List.replicate m (0, 1)) i n = opnL (spH H m i n) := by
  unfold spL spH opnL
  simp only [List.map_append, List.map_take, List.map_drop, List.map_replicate]
  rfl
set_option maxRecDepth 100000 in
set_option maxHeartbeats 1600000 in
theorem hghsp_yes (hg : Nat) (K : List Nat) (L m : Qs) (H : List Bool) (i n C : Nat) (u : Value) (w : World) (h : HAt B w hg K L H) (hB : B ≤ w.heap.size) (hu : OQ 61 w C u m) (hi : i + n ≤ L.length) (hm : L.length + m.length ≤ 45000) (hb : m.any tlBad = false) : Calls Tryz.prog 90 #[.pointer (some ⟨hg, 0, none⟩), .int .i64 (i : Int), .int .i64 (n : Int), u] w fun e w' => e = .returned (.int .i64 0) ∧ HDone B w hg K (spL L m i n) (spH H m.length i n) w' := by
  have HL := Lib.hid (fun (w' : World) (a : AnyLater w w') => hglen_any _ L H w' (h.v.later a))
  have HS := Lib.hid (fun (w' : World) => same_later (clcSpan_yes (i : Int) (n : Int) L.length w' ⟨by omega, by omega, by omega, by omega⟩ (by omega)))
  have HN := Lib.hid (fun (w' : World) (a : AnyLater w w') => sqnew_any u m w' ((OQ.rq hu).later a) (by omega) hb)
  have hs2 : (shwL L H).length = L.length := shw_len h.len
  have hs3 : (opnL H).length = L.length := by rw [opn_len, h.len]
  have H1 := Lib.hid (fun (W : World) (a : AnyLater w W) => (tsplice1 hg K L (shwL L H) (opnL H) m u i n C ((i : Int) + (n : Int)) w W (h.tri.later a) hB (by omega) hi (OQ.later a hu) hm hb).mono fun e w' ⟨k1, k2, k3⟩ => (⟨k1, k2, k3 _ _ _ (OQ.later a hu)⟩ : _ ∧ TDone B w hg K (spL L m i n) (shwL L H) (opnL H) w' ∧ OQ 61 w' C u m))
  have H2 := Lib.hid (fun (W : World) (t : TDone B w hg K (spL L m i n) (shwL L H) (opnL H) W) (o : OQ 61 W C u m) => tsplice2 hg K _ (shwL L H) (opnL H) m u i n C ((i : Int) + (n : Int)) w W t hB (by omega) (by rw [hs2]; exact hi) o (by rw [hs2]; exact hm) hb)
  have H3 := Lib.hid (fun (W : World) (z : Value) (t : TDone B w hg K (spL L m i n) (spL (shwL L H) m i n) (opnL H) W) (o : OQ 61 W 0 z (List.replicate m.length (0, 1))) => tsplice3 hg K _ _ (opnL H) (List.replicate m.length (0, 1)) z i n 0 ((i : Int) + (n : Int)) w W t hB (by omega) (by rw [hs3]; exact hi) o (by rw [hs3, List.length_replicate]; exact hm) (rep_good _))
  have HR : Hid (∀ (x : World) (v : Value), QR x v [(0, 1)] → Calls Tryz.prog 134 #[v, .int .i64 (m.length : Int)] x fun e w' => ∃ z, e = .returned z ∧ AnyLater x w' ∧ OQ 61 w' 0 z (List.replicate m.length (0, 1))) := Lib.hid (fun x v hv => by
    obtain ⟨A, cap, rfl, -⟩ := hv.form
    refine (hgrep_any A cap (0, 1) m.length x hv (by omega)).mono ?_
    rintro e w' ⟨z, k1, k2, k3⟩
    exact ⟨z, k1, k2, OQ.wide (Nat.zero_le _) k3⟩)
  have HZ : Hid (∀ (W : World), TDone B w hg K (spL L m i n) (spL (shwL L H) m i n) (spL (opnL H) (List.replicate m.length (0, 1)) i n) W → HDone B w hg K (spL L m i n) (spH H m.length i n) W) := Lib.hid (fun W t => t.done h.base (spH_len h.len) (shw_sp h.len) opn_sp)
  obtain ⟨A, cap, rfl, -⟩ := (OQ.rq hu).form
  clear h hu hi hm hb hB hs2 hs3
  generalize spL L m i n = l1 at *
  generalize spL (shwL L H) m i n = l2 at *
  generalize spL (opnL H) (List.replicate m.length (0, 1)) i n = l3 at *
  generalize spH H m.length i n = h2 at *
  generalize List.replicate m.length ((0, 1) : Int × Int) = rp at *
  generalize m.length = M at *
  generalize L.length = k at *
  go_enter Tryz.func90, Tryz.ntmps90
  go_wp2_with fail
  refine (HL.out _ (AnyLater.refl w)).mono ?_
  rintro e w1 ⟨rfl, b_w1⟩
  have z_w1 := b_w1.below.size
  have a_w1 := b_w1
  go_wp2_with fail
  refine (HS.out _).mono ?_
  rintro e w2 ⟨rfl, b_w2⟩
  have z_w2 := b_w2.below.size
  have a_w2 := a_w1.trans b_w2
  go_wp2_with fail
  refine (HN.out _ a_w2).mono ?_
  rintro e w3 ⟨g, t, rfl, b_w3, -, -⟩
  have HA3 := Lib.hid (a_w2.trans b_w3)
  clear b_w3
  go_wp2_with fail
  refine (H1.out w3 HA3.out).mono ?_
  rintro e w4 ⟨rfl, t1, o1⟩
  have HT1 := Lib.hid (And.intro t1 o1)
  clear t1 o1
  go_wp2_with fail
  refine (H2.out w4 HT1.out.1 HT1.out.2).mono ?_
  rintro e w5 ⟨rfl, t2, -⟩
  have HT2 := Lib.hid t2
  have a_w5 := AnyLater.refl w5
  clear t2
  go_wp2_with fail
  apply Wild.wp_region_free (10) [⟨6, 56, undef, true, fun u w => QR w u [(0, 1)]⟩, ⟨9, 59, undef, true, fun u w => OQ 61 w 0 u rp⟩] [⟨6, 56, fun u w => QR w u [(0, 1)]⟩, ⟨9, 59, fun u w => OQ 61 w 0 u rp⟩] rfl (by kernel_rfl) (by kernel_rfl) (by kernel_rfl) (by simp) (by kernel_rfl)
  case hstab =>
    intro c hc
    simp only [List.mem_cons, List.not_mem_nil, or_false] at hc
    rcases hc with rfl | rfl
    · intro v x y hxy hv; exact (fun h k => QR.later k h) hxy hv
    · intro v x y hxy hv; exact (fun h k => OQ.later h k) hxy hv
  case hfix =>
    intro c hc
    simp only [List.mem_cons, List.not_mem_nil, or_false] at hc
    rcases hc with rfl | rfl
    · exact .inl rfl
    · exact .inl rfl
  case hlex =>
    intro U hU
    simp only [List.map_cons, List.map_nil, CA.act, actFrom, actOp, List.lookup, Nat.reduceBEq, Nat.reduceLeDiff, Nat.reduceAdd, if_false, if_true]
    repeat (go_big_quiet_step (fail))
    exact wpQuiet_nil rfl
  case hstep =>
    intro j hj o ho
    have hj2 : j = 0 ∨ j = 1 := by simp at hj; omega
    rcases hj2 with rfl | rfl
    · cases ho
      refine ⟨rfl, fun g x hx hp => ?_⟩
      clear hp
      simp only [fillAll, Act.put, List.setIfInBounds_toArray, List.set_cons_zero, List.set_cons_succ]
      refine Wild.free_make (v := .slice (some ⟨x.heap.size, 0, none⟩) 1 1) (w' := x.alloc (.cells #[.int .i64 0, .int .i64 1] 61)) (by simp [go_sem, execOp]) ((AnyLater.refl x).alloc _) (OQ.rq (OQ.one (B := 0) (r := (0, 1)) (Nat.zero_le _) (heap_new rfl)))
    · cases ho
      refine ⟨rfl, fun g x hx hp => ?_⟩
      have p56 : (fun u w => QR w u [(0, 1)]) (g 6) x := hp _ (List.mem_of_getElem? (i := 0) rfl) (List.contains_iff_mem.1 (by kernel_rfl))
      clear hp
      simp only [fillAll, Act.put, List.setIfInBounds_toArray, List.set_cons_zero, List.set_cons_succ]
      refine chain_go ?_ (Wild.free_tells (HR.out x _ p56))
      first | (simp [go_sem, execOp]; done) | simp [go_sem, execOp, hcf]
  case htail =>
    intro g u hst hne
    have b_w6 : AnyLater w5 (later u) := ⟨u, rfl⟩
    generalize later u = w6 at *
    clear u hne
    obtain ⟨p56_w6, -⟩ := hst _ (List.mem_of_getElem? (i := 0) rfl)
    (try dsimp only at p56_w6)
    obtain ⟨p59_w6, -⟩ := hst _ (List.mem_of_getElem? (i := 1) rfl)
    (try dsimp only at p59_w6)
    clear hst
    simp only [fillAll, Act.put, List.setIfInBounds_toArray, List.set_cons_zero, List.set_cons_succ, List.drop_succ_cons, List.drop_zero, List.drop_nil]
    generalize g 6 = v56 at *
    generalize g 9 = v59 at *
    have z_w6 := b_w6.below.size
    have a_w6 := a_w5.trans b_w6
    have HT3 := Lib.hid (And.intro (HT2.out.later b_w6) p59_w6)
    clear p56_w6 p59_w6
    go_wp2_with fail
    refine (H3.out w6 _ HT3.out.1 HT3.out.2).mono ?_
    rintro e w7 ⟨rfl, t3, -⟩
    have HF := Lib.hid (HZ.out w7 t3)
    clear t3
    go_wp2_with fail
    go_ret
    exact ⟨rfl, HF.out⟩
end Go.Proofs.YtamhnffokoejjaaGreatDoor
namespace Go.Proofs.YtamhnffokoejjaaGreatDoor
set_option linter.unusedSimpArgs false
set_option linter.unusedVariables false
set_option linter.unusedSectionVars false
open Go.RowKit
variable {B : Nat}
theorem HAt.void {w w' : World} (h : w'.heap[w.heap.size]? = some (.cells #[.slice none 0 0, .slice none 0 0, .slice none 0 0] 116)) : HAt w.heap.size w' w.heap.size [] [] [] :=
  ⟨⟨_, _, _, ⟨none, none⟩, ⟨none, none⟩, ⟨none, none⟩, h, IsCh.void _, IsCh.void _, IsCh.void _, fun b hb => absurd hb List.not_mem_nil, fun b hb => absurd hb List.not_mem_nil, fun b hb => absurd hb List.not_mem_nil, rfl⟩, Nat.le_refl _, rfl⟩
theorem HDone.any {w w1 w' : World} {hg : Nat} {K : List Nat} {L : Qs} {H : List Bool} (h : HDone B w1 hg K L H w') (a : AnyLater w w1) (hB : w.heap.size ≤ B) (hg0 : B ≤ hg) : AnyLater w w' := by
  obtain ⟨_, _, _, st⟩ := h
  refine st.any a (fun b hb => ?_)
  rcases hb with rfl | ⟨q, _⟩
  · omega
  · omega
set_option maxRecDepth 100000 in
theorem hgnew_yes (u : Value) (m : Qs) (C : Nat) (w : World) (hu : OQ 61 w C u m) (hm : m.length ≤ 45000) (hb : m.any tlBad = false) : Calls Tryz.prog 38 #[u] w fun e w' => ∃ hg K, e = .returned (.tuple #[.pointer (some ⟨hg, 0, none⟩), .int .i64 0]) ∧ AnyLater w w' ∧ HAt w.heap.size w' hg K m (List.replicate m.length false) := by
  have HS : Hid (∀ (w' : World), AnyLater w w' → w'.heap[w.heap.size]? = some (.cells #[.slice none 0 0, .slice none 0 0, .slice none 0 0] 116) → Calls Tryz.prog 90 #[.pointer (some ⟨w.heap.size, 0, none⟩), .int .i64 0, .int .i64 0, u] w' fun e w'' => e = .returned (.int .i64 0) ∧ AnyLater w w'' ∧ ∃ K, HAt w.heap.size w'' w.heap.size K m (List.replicate m.length false)) := Lib.hid (fun w' a h0 => by
    refine (hghsp_yes w.heap.size [] [] m [] 0 0 C u w' (HAt.void h0) a.below.size (OQ.later a hu) (by simp) (by simpa using hm) hb).mono ?_
    rintro e w'' ⟨rfl, q⟩
    refine ⟨rfl, q.any a (Nat.le_refl _) (Nat.le_refl _), ?_⟩
    obtain ⟨K', k1, _⟩ := q
    have e1 : spL [] m 0 0 = m := by unfold spL; simp
    have e2 : spH [] m.length 0 0 = List.replicate m.length false := by unfold spH; simp
    rw [e1, e2] at k1
    exact ⟨K', k1⟩)
  obtain ⟨A, cap, rfl, -⟩ := (OQ.rq hu).form
  clear hu hm hb
  generalize m.length = M at *
  go_enter Tryz.func38, Tryz.ntmps38
  go_wp2_with fail
  first | refine settle_wp (fun wS => AnyLater w wS ∧ wS.heap[w.heap.size]? = some (.cells #[.slice none 0 0, .slice none 0 0, .slice none 0 0] 116)) ?_ ?_ | refine settle_calls (fun wS => AnyLater w wS ∧ wS.heap[w.heap.size]? = some (.cells #[.slice none 0 0, .slice none 0 0, .slice none 0 0] 116)) ?_ ?_
  · refine ⟨?_, ?_⟩
    · repeat' (first | with_reducible assumption | with_reducible exact AnyLater.refl _ | with_reducible apply AnyLater.setCell | with_reducible apply AnyLater.later | with_reducible apply AnyLater.drewN | with_reducible apply AnyLater.drew | with_reducible apply AnyLater.alloc | ((try simp only [World.size_alloc, World.size_setCell, World.size_drew]); (try dsimp only); omega))
    · ((repeat (first | with_reducible assumption | ((with_reducible apply heap_new); (try simp only [World.size_alloc, World.size_setCell, World.size_drew, World.heap_drewN]); done) | ((with_reducible apply heap_new); (try simp only [World.size_alloc, World.size_setCell, World.size_drew, World.heap_drewN]); omega) | (with_reducible refine heap_old (by (try simp only [World.size_alloc, World.size_setCell, World.size_drew, World.heap_drewN]); omega) ?_) | (with_reducible refine heap_drew ?_) | (with_reducible refine heap_far (by omega) ?_) | (with_reducible apply heap_at))); all_goals rfl)
  rintro w1 ⟨b_w1, s0_w1⟩
  have a_w1 := b_w1
  have r0_w1 := own_row s0_w1
  have f0_w1 := own_free s0_w1
  have l0_w1 := own_lt s0_w1
  have z_w1 := b_w1.below.size
  refine (HS.out _ a_w1 s0_w1).mono ?_
  rintro e w2 ⟨rfl, b2, K, q⟩
  have HZ := Lib.hid (And.intro b2 q)
  clear b2 q
  go_wp2_with fail
  refine bodyPost_ret (v := .tuple #[.pointer (some ⟨w.heap.size, 0, none⟩), .int .i64 0]) (by simp [results, Tryz.results38, go_sem]) rfl ?_
  exact ⟨_, K, rfl, HZ.out.1, HZ.out.2⟩
end Go.Proofs.YtamhnffokoejjaaGreatDoor
