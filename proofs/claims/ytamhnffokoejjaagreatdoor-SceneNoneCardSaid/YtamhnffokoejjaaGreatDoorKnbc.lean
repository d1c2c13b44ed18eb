/- what the proof stands on: CelB WrpA MetA MetL MetM MetN -/
import Derived.Deep.LoopGhost
import Derived.Deep.OwnRows
import Derived.Laws.StructEq
import Derived.Deep.QuietTactic
import Derived.Test.YtamhnffokoejjaaGreatDoorKnax
import Derived.Test.YtamhnffokoejjaaGreatDoorKnao
import Derived.Test.YtamhnffokoejjaaGreatDoorKnad
import Derived.Test.YtamhnffokoejjaaGreatDoorKnaw
import Derived.Deep.CutBlock
import Derived.BigRegion
import Derived.RegionTactic
import Derived.Lib.SliceRun
import Derived.Test.YtamhnffokoejjaaGreatDoorKnam
namespace Go.Proofs.YtamhnffokoejjaaGreatDoor
set_option linter.unusedSimpArgs false
set_option linter.unusedVariables false
set_option linter.unusedSectionVars false
open Go.RowKit
theorem celAt {w : World} {A : Option Addr} {n cap : Nat} {l : Cels} (h : FR celF w (.slice A n cap) l) (j : Nat) (hj : j < l.length) : ∃ b off, A = some ⟨b, off, none⟩ ∧ b < w.heap.size ∧
    w.cell? ⟨b, off + j * 4, none⟩ = some (.int .i64 l[j].1) ∧ w.cell? ⟨b, off + j * 4 + 1, none⟩ = some (.int .i64 l[j].2.1) ∧ w.cell? ⟨b, off + j * 4 + 2, none⟩ = some (.int .i32 l[j].2.2.1) ∧ w.cell? ⟨b, off + j * 4 + 3, none⟩ = some (.int .i64 l[j].2.2.2) := by
  obtain ⟨b, off, e, hb, hc⟩ := h.at j hj
  exact ⟨b, off, e, hb, hc 0 _ rfl, hc 1 _ rfl, hc 2 _ rfl, hc 3 _ rfl⟩
theorem cels_take {l : Cels} {j : Nat} (h : j < l.length) : l.take (j + 1) = l.take j ++ [l[j]] := List.take_succ_eq_append_getElem h
set_option maxRecDepth 100000 in
set_option maxHeartbeats 3200000 in
theorem cxxs_any (v : Value) (l : Cels) (w : World) (hv : FR celF w v l) (hN : CelsOk l) (hl : l.length ≤ 4000) :
    Calls Tryz.prog 138 #[v] w fun e w' => ∃ u, e = .returned u ∧ AnyLater w w' ∧ ON .i64 3 w' w.heap.size u (xsC 0 l) := by
  obtain ⟨A, cap, rfl, hc⟩ := hv.form
  have HV := Lib.hid hv
  have HNN := Lib.hid hN
  obtain ⟨n, hn⟩ : ∃ n, l.length = n := ⟨_, rfl⟩
  have HL := Lib.hid hn
  rw [hn] at HV hc hl ⊢
  clear hv hN hn
  go_enter Tryz.func138, Tryz.ntmps138
  go_wp2_with fail
  go_loopg [3, 4, 5] n (fun kk sv xv iv wr => AnyLater w wr ∧ ∃ j : Nat, kk = n - j ∧ j ≤ n ∧ iv = .int .i64 j ∧ xv = .int .i64 (endC 0 (l.take j)) ∧ ON .i64 3 wr w.heap.size sv (xsC 0 (l.take j)))
  case atStart => exact ⟨(AnyLater.refl w).alloc _, 0, by omega, by omega, rfl, rfl, ON.one (Nat.le_refl _) (heap_new rfl)⟩
  case round =>
    obtain ⟨a_wr, j, hk, hj, rfl, rfl, ho⟩ := hrel
    have HA := Lib.hid a_wr
    have HO := Lib.hid ho
    obtain ⟨A3, c3, rfl, h3⟩ := ho.form
    have hlen : (xsC 0 (l.take j)).length = j + 1 := by rw [xsC_length, List.length_take, HL.out]; omega
    rw [hlen] at HO h3 ⊢
    have hx := endC_in (l.take j) 0
    have hlt2 : (l.take j).length = j := by rw [List.length_take, HL.out]; omega
    rw [hlt2] at hx
    obtain ⟨x, hxx⟩ : ∃ x, endC 0 (l.take j) = x := ⟨_, rfl⟩
    have HXX := Lib.hid hxx
    rw [hxx] at hx ⊢
    obtain ⟨x0, x1⟩ := hx
    clear ho hxx hlt2
    by_cases hlt : j < n
    · have lj : j < l.length := by rw [HL.out]; exact hlt
      have i0 : (j : Int) < (n : Int) := by omega
      obtain ⟨b, off, rfl, hb, c0, c1, c2, c3⟩ := celAt (HV.out.later a_wr) j lj
      have HT := Lib.hid (cels_take lj)
      have hok := HNN.out l[j] (List.getElem_mem lj)
      generalize l[j] = cel at *
      obtain ⟨ca, cn, cr, cs⟩ := cel
      simp only at c0 c1 c2 c3
      obtain ⟨-, -, hr, hs⟩ := hok
      obtain ⟨y, hy⟩ : ∃ y, widR cr cs x = y := ⟨_, rfl⟩
      have hyb := widR_in cr cs x
      rw [hy] at hyb
      obtain ⟨y0, y1⟩ := hyb
      have HW := Lib.hid (fun w => cxwidth_any ca cn cr cs x w y hy hr hs (by constructor <;> omega))
      have HE : Hid (endC 0 (l.take (j + 1)) = x + y ∧ xsC 0 (l.take (j + 1)) = xsC 0 (l.take j) ++ [x + y]) := Lib.hid (by
        rw [HT.out]
        have e1 : endC 0 (l.take j ++ [(ca, cn, cr, cs)]) = x + y := by rw [endC_snoc, HXX.out]; unfold widC; rw [hy]
        exact ⟨e1, by rw [xsC_snoc, e1]⟩)
      clear hy a_wr hr hs
      go_wp2_with fail
      refine (HW.out _).mono ?_
      rintro e w3 ⟨rfl, b3⟩
      have ho3 := HO.out
      obtain ⟨u2, w4, k1, k2, k3⟩ := appI (x + y) (ON.later b3 HO.out) (Nat.le_trans HA.out.below.size b3.below.size) (by rw [hlen]; omega)
      have K1 := Lib.hid k1
      have K2 : Hid (ON .i64 3 w4 w.heap.size u2 (xsC 0 (l.take (j + 1)))) := Lib.hid (by rw [HE.out.2]; exact k2)
      have K3 := Lib.hid (k3 w (Nat.le_refl _) (HA.out.trans b3))
      clear k1 k2 k3 ho3 b3
      go_wp2_with (at_builtin; refine Lib.wpList_append_run _ rfl _ _ _ _ rfl _ _ rfl rfl _ _ K1.out ?_)
      go_roundg (n - (j + 1))
      case measure => omega
      case rel => exact ⟨K3.out, j + 1, rfl, by omega, by go_num, by rw [HE.out.1], K2.out⟩
    · obtain rfl : j = n := by omega
      have HE : Hid (l.take j = l) := Lib.hid (List.take_of_length_le (by rw [HL.out]; exact Nat.le_refl _))
      clear a_wr
      go_wp2_with fail
      go_ret
      exact ⟨_, rfl, HA.out, by have := HO.out; rw [HE.out] at this; exact this⟩
def fillX (l : Cels) (n j : Nat) : List Int := xsC 0 (l.take j) ++ List.replicate (n - j) 0
theorem fillX_length {l : Cels} {n j : Nat} (hl : l.length = n) (hj : j ≤ n) : (fillX l n j).length = n + 1 := by
  unfold fillX
  rw [List.length_append, xsC_length, List.length_take, List.length_replicate]
  omega
theorem fillX_get {l : Cels} {n j : Nat} (hl : l.length = n) (hj : j ≤ n) : (fillX l n j)[j]? = some (endC 0 (l.take j)) := by
  have h := xsC_last (l.take j) 0
  have hlt : (l.take j).length = j := by rw [List.length_take]; omega
  rw [hlt] at h
  unfold fillX
  rw [List.getElem?_append_left (by rw [xsC_length, hlt]; omega)]
  exact h
theorem fillX_set {l : Cels} {n j : Nat} (hl : l.length = n) (hj : j < n) : (fillX l n j).set (j + 1) (endC 0 (l.take (j + 1))) = fillX l n (j + 1) := by
  have hlt : (l.take j).length = j := by rw [List.length_take]; omega
  unfold fillX
  rw [cels_take (show j < l.length by omega), xsC_snoc, List.set_append_right _ _ (by rw [xsC_length, hlt]; exact Nat.le_refl _), xsC_length, hlt, Nat.sub_self, show n - j = (n - (j + 1)) + 1 by omega, List.replicate_succ, List.set_cons_zero, List.append_assoc]
  rfl
theorem fillX_end {l : Cels} {n : Nat} (hl : l.length = n) : fillX l n n = xsC 0 l := by
  unfold fillX
  rw [List.take_of_length_le (by omega), Nat.sub_self, List.replicate_zero, List.append_nil]
theorem cmade (n : Nat) (hn : n ≤ 4000) (w : World) : (Instr.makeSlice 42 (.int .i64 ((n : Int) + 1)) (.int .i64 ((n : Int) + 1))).run Tryz.prog w = .ok (.slice (some ⟨w.heap.size, 0, none⟩) (n + 1) (n + 1)) (w.alloc (.cells (madeCells #[.int .i64 0] (n + 1)) 3)) := by
  have h := run_make_row' (P := Tryz.prog) 42 3 (.int .i64 0) 8 Tryz.underlying42 info_i64 rfl .i64 .i64 (n + 1) (by omega) (by omega) w
  rwa [Int.natCast_add] at h
theorem cmade_on (l : Cels) (n : Nat) (w : World) : ON .i64 3 (w.alloc (.cells (madeCells #[.int .i64 0] (n + 1)) 3)) w.heap.size (.slice (some ⟨w.heap.size, 0, none⟩) (n + 1) (n + 1)) (fillX l n 0) ∨ 4000 < n := by
  rcases Nat.lt_or_ge 4000 n with h | h
  · exact .inr h
  · left
    have e : fillX l n 0 = List.replicate (n + 1) 0 := by unfold fillX; rw [List.take_zero, Nat.sub_zero, List.replicate_succ]; rfl
    rw [e]
    have := ON.of (B := w.heap.size) (l := List.replicate (n + 1) 0) (cap := n + 1) (cur := madeCells #[.int .i64 0] (n + 1)) (Nat.le_refl _) (heap_new (w := w) rfl) (by simp) (by unfold maxLen; omega) (size_madeCells _ _) (fun j hj => by
      rw [← Array.getElem?_toList, toList_madeCells_one]
      rw [List.length_replicate] at hj
      simp [hj])
    simpa using this
set_option maxRecDepth 100000 in
set_option maxHeartbeats 3200000 in
theorem cxs_any (v : Value) (l : Cels) (w : World) (hv : FR celF w v l) (hN : CelsOk l) (hl : l.length ≤ 4000) :
    Calls Tryz.prog 203 #[v] w fun e w' => ∃ u, e = .returned u ∧ AnyLater w w' ∧ ON .i64 3 w' w.heap.size u (xsC 0 l) := by
  obtain ⟨A, cap, rfl, hc⟩ := hv.form
  have HV := Lib.hid hv
  have HNN := Lib.hid hN
  obtain ⟨n, hn⟩ : ∃ n, l.length = n := ⟨_, rfl⟩
  have HL := Lib.hid hn
  rw [hn] at HV hc hl ⊢
  have HM := cmade n hl w
  have HO0 := Lib.hid ((cmade_on l n w).resolve_right (by omega))
  have HA0 := Lib.hid ((AnyLater.refl w).alloc (.cells (madeCells #[.int .i64 0] (n + 1)) 3))
  obtain ⟨G, hg⟩ : ∃ G, w.heap.size = G := ⟨_, rfl⟩
  have HG := Lib.hid hg
  rw [hg] at HM HO0 ⊢
  generalize w.alloc (.cells (madeCells #[.int .i64 0] (n + 1)) 3) = w0 at *
  clear hv hN hn hg
  go_enter Tryz.func203, Tryz.ntmps203
  go_wp2_with fail
  go_loopg [12] n (fun kk iv wr => AnyLater w wr ∧ ∃ j : Nat, kk = n - j ∧ j ≤ n ∧ iv = .int .i64 j ∧ ON .i64 3 wr G (.slice (some ⟨G, 0, none⟩) (n + 1) (n + 1)) (fillX l n j))
  case atStart => exact ⟨HA0.out, 0, by omega, by omega, rfl, HO0.out⟩
  case round =>
    obtain ⟨a_wr, j, hk, hj, rfl, ho⟩ := hrel
    have HA := Lib.hid a_wr
    have HO := Lib.hid ho
    by_cases hlt : j < n
    · have lj : j < l.length := by rw [HL.out]; exact hlt
      have i0 : (j : Int) < (n : Int) := by omega
      have hx := endC_in (l.take j) 0
      have hlt2 : (l.take j).length = j := by rw [List.length_take, HL.out]; omega
      rw [hlt2] at hx
      obtain ⟨x, hxx⟩ : ∃ x, endC 0 (l.take j) = x := ⟨_, rfl⟩
      have HXX := Lib.hid hxx
      rw [hxx] at hx
      obtain ⟨x0, x1⟩ := hx
      obtain ⟨G', cap', cur, e1, hB, hblk, q1, q2, q3, q4⟩ := ho.at (by rw [fillX_length HL.out hj]; omega)
      rw [fillX_length HL.out hj] at e1 q1
      cases e1
      have d0 : wr.cell? ⟨G, j, none⟩ = some (.int .i64 x) := by
        rw [own_row hblk, q4 j (by rw [fillX_length HL.out hj]; omega)]
        have := fillX_get HL.out hj
        rw [List.getElem?_eq_getElem (by rw [fillX_length HL.out hj]; omega), hxx] at this
        rw [Option.some.inj this]
      have gl : G < wr.heap.size := own_lt hblk
      obtain ⟨z, hz⟩ : ∃ z, cur[j + 1]? = some (.int .i64 z) := ⟨_, q4 (j + 1) (by rw [fillX_length HL.out hj]; omega)⟩
      have HZ := Lib.hid hz
      have HBK := Lib.hid hblk
      obtain ⟨b, off, rfl, hb, c0, c1, c2, c3⟩ := celAt (HV.out.later a_wr) j lj
      have HT := Lib.hid (cels_take lj)
      have hok := HNN.out l[j] (List.getElem_mem lj)
      generalize l[j] = cel at *
      obtain ⟨ca, cn, cr, cs⟩ := cel
      simp only at c0 c1 c2 c3
      obtain ⟨-, -, hr, hs⟩ := hok
      obtain ⟨y, hy⟩ : ∃ y, widR cr cs x = y := ⟨_, rfl⟩
      have hyb := widR_in cr cs x
      rw [hy] at hyb
      obtain ⟨y0, y1⟩ := hyb
      have HW := Lib.hid (fun w => cwidth_any ca cn cr cs x w y hy hr hs (by constructor <;> omega))
      have HE : Hid (endC 0 (l.take (j + 1)) = x + y) := Lib.hid (by
        rw [HT.out, endC_snoc, HXX.out]; unfold widC; rw [hy])
      have HFS := Lib.hid (fillX_set HL.out hlt)
      clear hy hr hs ho hblk q1 q2 q3 q4 hxx hlt2 hz
      go_wp2_with fail
      first | refine settle_wp (fun wS => AnyLater wr wS ∧ wS.heap[wr.heap.size]? = some (.cells #[.int .i64 ca, .int .i64 cn, .int .i32 cr, .int .i64 cs] 160)) ?_ ?_ | refine settle_calls (fun wS => AnyLater wr wS ∧ wS.heap[wr.heap.size]? = some (.cells #[.int .i64 ca, .int .i64 cn, .int .i32 cr, .int .i64 cs] 160)) ?_ ?_
      · refine ⟨?_, ?_⟩
        · repeat' (first | with_reducible assumption | with_reducible exact AnyLater.refl _ | with_reducible apply AnyLater.setCell | with_reducible apply AnyLater.later | with_reducible apply AnyLater.drewN | with_reducible apply AnyLater.drew | with_reducible apply AnyLater.alloc | ((try simp only [World.size_alloc, World.size_setCell, World.size_drew]); (try dsimp only); omega))
        · ((repeat (first | with_reducible assumption | ((with_reducible apply heap_new); (try simp only [World.size_alloc, World.size_setCell, World.size_drew, World.heap_drewN]); done) | ((with_reducible apply heap_new); (try simp only [World.size_alloc, World.size_setCell, World.size_drew, World.heap_drewN]); omega) | (with_reducible refine heap_old (by (try simp only [World.size_alloc, World.size_setCell, World.size_drew, World.heap_drewN]); omega) ?_) | (with_reducible refine heap_drew ?_) | (with_reducible refine heap_far (by omega) ?_) | (with_reducible apply heap_at))); all_goals rfl)
      rintro w1 ⟨b_w1, s0_w1⟩
      have a_w1 := a_wr.trans b_w1
      have r0_w1 := own_row s0_w1
      have f0_w1 := own_free s0_w1
      have l0_w1 := own_lt s0_w1
      have z_w1 := b_w1.below.size
      have d1 : w1.cell? ⟨G, j, none⟩ = some (.int .i64 x) := (b_w1.below.cell gl).trans d0
      apply wp_region_free (15) [⟨12, 29, .int .i64 y, false, fun v _ => v = .int .i64 y⟩] [] rfl (by kernel_rfl) (by kernel_rfl) (by kernel_rfl) (by simp) (by kernel_rfl)
      case hstab =>
        intro c hc
        simp only [List.mem_cons, List.not_mem_nil, or_false] at hc
        rcases hc with rfl
        · intro v x y hxy hv; exact hv
      case hfix =>
        intro c hc
        simp only [List.mem_cons, List.not_mem_nil, or_false] at hc
        rcases hc with rfl
        · exact .inr fun u x h => h
      case hlex =>
        intro U hU
        have q0 := own_row (any_own hU s0_w1)
        have q_d1 := cell_on hU d1
        simp only [List.map_cons, List.map_nil, CA.act, actFrom, actOp, List.lookup, Nat.reduceBEq, Nat.reduceLeDiff, Nat.reduceAdd, if_false, if_true]
        repeat (go_big_quiet_step (first | fail))
        exact wpQuiet_nil rfl
      case hstep =>
        intro j hj o ho
        have hj2 : j = 0 := by simp at hj; omega
        rcases hj2 with rfl
        · cases ho
          refine ⟨rfl, fun g x hx hp => ?_⟩
          clear hp
          simp only [fillAll, Act.put, List.setIfInBounds_toArray, List.set_cons_zero, List.set_cons_succ]
          refine chain_go ?_ (free_fix (HW.out x))
          first | (simp [go_sem, execOp]; done) | simp [go_sem, execOp, hcf]
      case htail =>
        intro g u hst hne
        have b_w2 : AnyLater w1 (later u) := ⟨u, rfl⟩
        generalize later u = w2 at *
        clear u
        clear hst hne
        simp only [fillAll, Act.put, List.setIfInBounds_toArray, List.set_cons_zero, List.set_cons_succ, List.drop_succ_cons, List.drop_zero, List.drop_nil]
        have z_w2 := b_w2.below.size
        have a_w2 := a_w1.trans b_w2
        have s0_w2 := any_own b_w2 s0_w1
        have r0_w2 := own_row s0_w2
        have f0_w2 := own_free s0_w2
        have l0_w2 := own_lt s0_w2
        (try clear r0_w1); (try clear f0_w1)
        have d1_w2 := cell_on b_w2 d1
        have b02 := b_w1.trans b_w2
        have hb2 := any_own b02 HBK.out
        have fz := own_free hb2 (j + 1)
        have e1 : w2.cell? ⟨G, j + 1, none⟩ = some (.int .i64 z) := by rw [own_row hb2]; exact HZ.out
        have hB2 := own_lt hb2
        have HA2 := Lib.hid (a_w2.setCell (p := ⟨G, j + 1, none⟩) (by rw [HG.out]; exact Nat.le_refl _) (.int .i64 (x + y)))
        have HO2 : Hid (ON .i64 3 (w2.setCell ⟨G, j + 1, none⟩ (.int .i64 (x + y))) G (.slice (some ⟨G, 0, none⟩) (n + 1) (n + 1)) (fillX l n (j + 1))) := Lib.hid (by
          rw [← HFS.out, HE.out]
          exact (ON.later b02 HO.out).set (x + y))
        go_wp2_with fail
        go_roundg (n - (j + 1))
        case measure => omega
        case rel => exact ⟨HA2.out, j + 1, rfl, by omega, by go_num, HO2.out⟩
    · obtain rfl : j = n := by omega
      have HE : Hid (ON .i64 3 wr G (.slice (some ⟨G, 0, none⟩) (j + 1) (j + 1)) (xsC 0 l)) := Lib.hid (by rw [← fillX_end HL.out]; exact ho)
      clear a_wr ho
      go_wp2_with fail
      go_ret
      exact ⟨_, rfl, HA.out, HE.out⟩
end Go.Proofs.YtamhnffokoejjaaGreatDoor
namespace Go.Proofs.YtamhnffokoejjaaGreatDoor
set_option linter.unusedSimpArgs false
set_option linter.unusedVariables false
set_option linter.unusedSectionVars false
open Go.RowKit
abbrev Rw := Int × Int × Int
abbrev Rws := List Rw
def rowF : Flat Rw where
  fl c := [.int .i64 c.1, .int .i64 c.2.1, .int .i64 c.2.2]
  k := 3
  pos := by decide
  len _ := rfl
  one a u hu := by
    simp only [List.mem_cons, List.not_mem_nil, or_false] at hu
    rcases hu with rfl | rfl | rfl <;> rfl
set_option maxRecDepth 100000 in
theorem rowFT : FlatT rowF 184 181 (.agg #[.int .i64 0, .int .i64 0, .int .i64 0]) 24 where
  und := Tryz.underlying181
  el := by kernel_rfl
  info := by kernel_rfl
  size := fun w => by simp [go_sem, rowF]
  zero := rfl
  few := by decide
theorem rowAt {w : World} {A : Option Addr} {n cap : Nat} {l : Rws} (h : FR rowF w (.slice A n cap) l) (j : Nat) (hj : j < l.length) : ∃ b off, A = some ⟨b, off, none⟩ ∧ b < w.heap.size ∧
    w.cell? ⟨b, off + j * 3, none⟩ = some (.int .i64 l[j].1) ∧ w.cell? ⟨b, off + j * 3 + 1, none⟩ = some (.int .i64 l[j].2.1) ∧ w.cell? ⟨b, off + j * 3 + 2, none⟩ = some (.int .i64 l[j].2.2) := by
  obtain ⟨b, off, e, hb, hc⟩ := h.at j hj
  exact ⟨b, off, e, hb, hc 0 _ rfl, hc 1 _ rfl, hc 2 _ rfl⟩
theorem OF.under {α : Type} {F : Flat α} {t : TypeId} {w : World} {B : Nat} {v : Value} {l : List α} (o : OF F t w B v l) {k : Nat} (h : w.heap.size ≤ k) : v.ownBlock ≠ some k := by
  rcases o.2 with ⟨rfl, _⟩ | ⟨g, cap, cur, rfl, _, h3, _⟩
  · intro h; cases h
  · intro e
    obtain rfl : g = k := by simpa [Value.ownBlock] using e
    have := own_lt h3
    omega
def wEnd (l : Cels) (f t : Nat) : Int := endC 0 ((l.take t).drop f)
theorem wEnd_self (l : Cels) (f : Nat) : wEnd l f f = 0 := by
  unfold wEnd
  rw [List.drop_of_length_le (by rw [List.length_take]; omega)]; rfl
theorem wEnd_succ {l : Cels} {f t : Nat} (hf : f ≤ t) (h : t < l.length) : wEnd l f (t + 1) = wEnd l f t + widC l[t] (wEnd l f t) := by
  unfold wEnd
  rw [cels_take h, List.drop_append_of_le_length (by rw [List.length_take]; omega), endC_snoc]
theorem wEnd_in (l : Cels) (f t : Nat) : 0 ≤ wEnd l f t ∧ wEnd l f t ≤ 48 * (t - f : Nat) := by
  have h := endC_in ((l.take t).drop f) 0
  unfold wEnd
  rw [List.length_drop, List.length_take] at h
  omega
def blC (c : Cel) : Bool := decide (c.2.2.1 = 9 ∨ c.2.2.1 = 32)
def wStop (l : Cels) (W : Int) (f : Nat) : Nat → Nat → Nat
  | 0, t => t
  | g + 1, t => if t < l.length ∧ (t = f ∨ wEnd l f (t + 1) ≤ W) then wStop l W f g (t + 1) else t
def wBl (l : Cels) (k : Nat) : Bool := (l[k]?).any blC
def wLast (l : Cels) (f : Nat) : Nat → Nat
  | 0 => f
  | k + 1 => if k < f then f else if wBl l k then k + 1 else wLast l f k
def wBreak (l : Cels) (f t : Nat) : Nat := if wLast l f t = f then t else wLast l f t
def wNext (l : Cels) (W : Int) (f : Nat) : Nat :=
  if l.length ≤ wStop l W f (l.length - f) f then l.length else wBreak l f (wStop l W f (l.length - f) f)
def wRows (l : Cels) (W : Int) : Nat → Nat → Rws
  | 0, _ => []
  | g + 1, f => ((f : Int), (wNext l W f : Int), wEnd l f (wNext l W f)) :: if l.length ≤ wNext l W f then [] else wRows l W g (wNext l W f)
def rowsW (l : Cels) (W : Int) : Rws := wRows l (max W 1) (l.length + 1) 0
theorem wStop_in (l : Cels) (W : Int) (f : Nat) : ∀ g t, t ≤ wStop l W f g t ∧ (t ≤ l.length → wStop l W f g t ≤ l.length)
  | 0, t => ⟨Nat.le_refl _, fun h => h⟩
  | g + 1, t => by
    unfold wStop
    split
    · rename_i h
      have k := wStop_in l W f g (t + 1)
      exact ⟨by omega, fun _ => k.2 (by omega)⟩
    · exact ⟨Nat.le_refl _, fun h => h⟩
theorem wStop_first {l : Cels} {W : Int} {f : Nat} (h : f < l.length) : f + 1 ≤ wStop l W f (l.length - f) f := by
  obtain ⟨g, hg⟩ : ∃ g, l.length - f = g + 1 := ⟨l.length - f - 1, by omega⟩
  rw [hg]
  unfold wStop
  rw [if_pos ⟨h, .inl rfl⟩]
  exact (wStop_in l W f g (f + 1)).1
theorem wStop_go {l : Cels} {W : Int} {f t : Nat} (h : t < l.length) (hf : t = f ∨ wEnd l f (t + 1) ≤ W) : wStop l W f (l.length - t) t = wStop l W f (l.length - (t + 1)) (t + 1) := by
  rw [show l.length - t = (l.length - (t + 1)) + 1 by omega]
  conv => lhs; unfold wStop
  rw [if_pos ⟨h, hf⟩]
theorem wStop_end {l : Cels} {W : Int} {f t : Nat} (hf : t ≠ f) (h : W < wEnd l f (t + 1)) : wStop l W f (l.length - t) t = t := by
  cases l.length - t with
  | zero => rfl
  | succ g =>
    unfold wStop
    rw [if_neg (by omega)]
theorem wLast_in (l : Cels) (f : Nat) : ∀ t, f ≤ wLast l f t ∧ wLast l f t ≤ max f t
  | 0 => ⟨Nat.le_refl _, by unfold wLast; omega⟩
  | k + 1 => by
    unfold wLast
    have h := wLast_in l f k
    split
    · omega
    · split
      · omega
      · omega
theorem wLast_self (l : Cels) (f : Nat) : wLast l f f = f := by have := wLast_in l f f; omega
theorem wLast_yes {l : Cels} {f k : Nat} (h : f ≤ k) (hb : wBl l k = true) : wLast l f (k + 1) = k + 1 := by
  unfold wLast; rw [if_neg (by omega), if_pos hb]
theorem wLast_no {l : Cels} {f k : Nat} (h : f ≤ k) (hb : wBl l k = false) : wLast l f (k + 1) = wLast l f k := by
  conv => lhs; unfold wLast
  rw [if_neg (by omega), if_neg (by rw [hb]; decide)]
theorem wBl_at {l : Cels} {k : Nat} (h : k < l.length) : wBl l k = blC l[k] := by
  unfold wBl; rw [List.getElem?_eq_getElem h]; rfl
theorem wBreak_in {l : Cels} {f t : Nat} (h : f < t) : f < wBreak l f t ∧ wBreak l f t ≤ t := by
  have := wLast_in l f t
  unfold wBreak
  split <;> omega
theorem wNext_in {l : Cels} {W : Int} {f : Nat} (h : f ≤ l.length) : f ≤ wNext l W f ∧ wNext l W f ≤ l.length ∧ (f < l.length → f < wNext l W f) := by
  have k := wStop_in l W f (l.length - f) f
  unfold wNext
  split
  · omega
  · have q : f < l.length := by omega
    have := wStop_first (W := W) q
    have := wBreak_in (l := l) (f := f) (t := wStop l W f (l.length - f) f) (by omega)
    omega
theorem wNext_all {l : Cels} {W : Int} {f : Nat} (h : wStop l W f (l.length - f) f = l.length) : wNext l W f = l.length := by
  unfold wNext; rw [h, if_pos (Nat.le_refl _)]
theorem wNext_part {l : Cels} {W : Int} {f t : Nat} (h : wStop l W f (l.length - f) f = t) (ht : t < l.length) : wNext l W f = wBreak l f t := by
  unfold wNext; rw [h, if_neg (by omega)]
theorem wRows_succ (l : Cels) (W : Int) (g f : Nat) : wRows l W (g + 1) f = ((f : Int), (wNext l W f : Int), wEnd l f (wNext l W f)) :: if l.length ≤ wNext l W f then [] else wRows l W g (wNext l W f) := rfl
theorem wRows_len (l : Cels) (W : Int) : ∀ g f, (wRows l W g f).length ≤ g
  | 0, _ => Nat.le_refl _
  | g + 1, f => by
    rw [wRows_succ]
    split
    · simp
    · have := wRows_len l W g (wNext l W f)
      simp; omega
end Go.Proofs.YtamhnffokoejjaaGreatDoor
namespace Go.Proofs.YtamhnffokoejjaaGreatDoor
set_option linter.unusedSimpArgs false
set_option linter.unusedVariables false
set_option linter.unusedSectionVars false
open Go.RowKit
structure Ld where
  cs : Cels
  xs : List Int
  up : Int
  dn : Int
  fr : Int
  en : Int
  la : Bool
structure LdV where
  a1 : Option Addr
  n1 : Nat
  c1 : Nat
  a2 : Option Addr
  n2 : Nat
  c2 : Nat
  up : Int
  dn : Int
  fr : Int
  en : Int
  la : Bool
def ldF : Flat LdV where
  fl x := [.slice x.a1 x.n1 x.c1, .slice x.a2 x.n2 x.c2, .int .i64 x.up, .int .i64 x.dn, .int .i64 x.fr, .int .i64 x.en, .bool x.la]
  k := 7
  pos := by decide
  len _ := rfl
  one a u hu := by
    simp only [List.mem_cons, List.not_mem_nil, or_false] at hu
    rcases hu with rfl | rfl | rfl | rfl | rfl | rfl | rfl <;> rfl
set_option maxRecDepth 100000 in
theorem ldFT : FlatT ldF 110 55 (.agg #[.slice none 0 0, .slice none 0 0, .int .i64 0, .int .i64 0, .int .i64 0, .int .i64 0, .bool false]) 88 where
  und := Tryz.underlying55
  el := by kernel_rfl
  info := by kernel_rfl
  size := fun w => by simp [go_sem, ldF]
  zero := rfl
  few := by decide
def IsLd (w : World) (x : LdV) (r : Ld) : Prop :=
  (FR celF w (.slice x.a1 x.n1 x.c1) r.cs ∧ RI w (.slice x.a2 x.n2 x.c2) r.xs) ∧ x.up = r.up ∧ x.dn = r.dn ∧ x.fr = r.fr ∧ x.en = r.en ∧ x.la = r.la
theorem IsLd.later {w w' : World} {x : LdV} {r : Ld} (h : IsLd w x r) (a : AnyLater w w') : IsLd w' x r :=
  ⟨⟨h.1.1.later a, h.1.2.later a⟩, h.2⟩
def LR (w : World) (v : Value) (L : List Ld) : Prop := ∃ lv : List LdV, FR ldF w v lv ∧ lv.length = L.length ∧ ∀ (j : Nat) (h : j < lv.length) (h' : j < L.length), IsLd w lv[j] L[j]
theorem LR.later {w w' : World} {v : Value} {L : List Ld} (h : LR w v L) (a : AnyLater w w') : LR w' v L := by
  obtain ⟨lv, h1, h2, h3⟩ := h
  exact ⟨lv, h1.later a, h2, fun j h h' => (h3 j h h').later a⟩
theorem LR.form {w : World} {v : Value} {L : List Ld} (h : LR w v L) : ∃ A cap, v = .slice A L.length cap ∧ L.length ≤ cap := by
  obtain ⟨lv, h1, h2, _⟩ := h
  obtain ⟨A, cap, e, hc⟩ := h1.form
  exact ⟨A, cap, by rw [e, h2], by omega⟩
theorem LR.void (w : World) (A : Option Addr) (cap : Nat) : LR w (.slice A 0 cap) [] := ⟨[], FR.void _ _ _, rfl, fun _ h => absurd h (by simp)⟩
theorem ldAt {w : World} {A : Option Addr} {n cap : Nat} {L : List Ld} (h : LR w (.slice A n cap) L) (j : Nat) (hj : j < L.length) : ∃ b off a1 c1 a2 c2, A = some ⟨b, off, none⟩ ∧ b < w.heap.size ∧
    (FR celF w (.slice a1 L[j].cs.length c1) L[j].cs ∧ RI w (.slice a2 L[j].xs.length c2) L[j].xs) ∧
    w.cell? ⟨b, off + j * 7, none⟩ = some (.slice a1 L[j].cs.length c1) ∧ w.cell? ⟨b, off + j * 7 + 1, none⟩ = some (.slice a2 L[j].xs.length c2) ∧
    w.cell? ⟨b, off + j * 7 + 2, none⟩ = some (.int .i64 L[j].up) ∧ w.cell? ⟨b, off + j * 7 + 3, none⟩ = some (.int .i64 L[j].dn) ∧
    w.cell? ⟨b, off + j * 7 + 4, none⟩ = some (.int .i64 L[j].fr) ∧ w.cell? ⟨b, off + j * 7 + 5, none⟩ = some (.int .i64 L[j].en) ∧
    w.cell? ⟨b, off + j * 7 + 6, none⟩ = some (.bool L[j].la) := by
  obtain ⟨lv, h1, h2, h3⟩ := h
  have hj' : j < lv.length := by omega
  obtain ⟨b, off, e, hb, hc⟩ := h1.at j hj'
  obtain ⟨⟨k1, k2⟩, k3, k4, k5, k6, k7⟩ := h3 j hj' hj
  have e1 := hc 0 _ rfl
  have e2 := hc 1 _ rfl
  have e3 := hc 2 _ rfl
  have e4 := hc 3 _ rfl
  have e5 := hc 4 _ rfl
  have e6 := hc 5 _ rfl
  have e7 := hc 6 _ rfl
  obtain ⟨A1, C1, q1, -⟩ := k1.form
  obtain ⟨A2, C2, q2, -⟩ := k2.form
  rw [q1] at k1 e1
  rw [q2] at k2 e2
  rw [k3] at e3
  rw [k4] at e4
  rw [k5] at e5
  rw [k6] at e6
  rw [k7] at e7
  exact ⟨b, off, A1, C1, A2, C2, e, hb, ⟨k1, k2⟩, e1, e2, e3, e4, e5, e6, e7⟩
def LdOk (r : Ld) : Prop := (I64s r.up ∧ I64s r.dn ∧ I64s r.fr ∧ I64s r.en) ∧ CelsOk r.cs ∧ ∀ x ∈ r.xs, I64s x
def LdsOk (L : List Ld) : Prop := ∀ r ∈ L, LdOk r
def htZ (u d : Int) : Int := if u < 0 ∨ d < 0 ∨ 1048576 < u ∨ 1048576 < d then 0 else u + d
def htL (r : Ld) : Int := htZ r.up r.dn
theorem htL_in (r : Ld) : 0 ≤ htL r ∧ htL r ≤ 2097152 := by
  unfold htL htZ
  split <;> omega
def sumL (L : List Ld) : Int := L.foldl (fun s r => s + htL r) 0
theorem sumL_snoc (L : List Ld) (r : Ld) : sumL (L ++ [r]) = sumL L + htL r := by unfold sumL; rw [List.foldl_append]; rfl
theorem sumL_take {L : List Ld} {j : Nat} (h : j < L.length) : sumL (L.take (j + 1)) = sumL (L.take j) + htL L[j] := by
  rw [List.take_succ_eq_append_getElem h, sumL_snoc]
theorem sumL_in (L : List Ld) : 0 ≤ sumL L ∧ sumL L ≤ 2097152 * L.length := by
  have : ∀ (L : List Ld) (s : Int), s ≤ L.foldl (fun s r => s + htL r) s ∧ L.foldl (fun s r => s + htL r) s ≤ s + 2097152 * L.length := by
    intro L
    induction L with
    | nil => intro s; simp
    | cons r L ih =>
      intro s
      have h := ih (s + htL r)
      have h2 := htL_in r
      rw [List.foldl_cons, List.length_cons]
      omega
  have h := this L 0
  unfold sumL
  omega
def upF (f : Int) : Int := if f = 2 then 14 else 7
def dnF (f : Int) : Int := if f = 2 then 3 else 2
def upL (l : Cels) : Int := l.foldl (fun u c => max u (upF (faceS c.2.2.2))) 7
def dnL (l : Cels) : Int := l.foldl (fun u c => max u (dnF (faceS c.2.2.2))) 2
theorem upL_snoc (l : Cels) (c : Cel) : upL (l ++ [c]) = max (upL l) (upF (faceS c.2.2.2)) := by unfold upL; rw [List.foldl_append]; rfl
theorem dnL_snoc (l : Cels) (c : Cel) : dnL (l ++ [c]) = max (dnL l) (dnF (faceS c.2.2.2)) := by unfold dnL; rw [List.foldl_append]; rfl
theorem upL_in (l : Cels) : 7 ≤ upL l ∧ upL l ≤ 14 := by
  have : ∀ (l : Cels) (u : Int), u ≤ 14 → u ≤ l.foldl (fun u c => max u (upF (faceS c.2.2.2))) u ∧ l.foldl (fun u c => max u (upF (faceS c.2.2.2))) u ≤ 14 := by
    intro l
    induction l with
    | nil => intro u h; simp [h]
    | cons c l ih =>
      intro u h
      have h2 : upF (faceS c.2.2.2) ≤ 14 := by unfold upF; split <;> omega
      have h3 := ih (max u (upF (faceS c.2.2.2))) (by omega)
      rw [List.foldl_cons]
      omega
  exact this l 7 (by decide)
theorem dnL_in (l : Cels) : 2 ≤ dnL l ∧ dnL l ≤ 3 := by
  have : ∀ (l : Cels) (u : Int), u ≤ 3 → u ≤ l.foldl (fun u c => max u (dnF (faceS c.2.2.2))) u ∧ l.foldl (fun u c => max u (dnF (faceS c.2.2.2))) u ≤ 3 := by
    intro l
    induction l with
    | nil => intro u h; simp [h]
    | cons c l ih =>
      intro u h
      have h2 : dnF (faceS c.2.2.2) ≤ 3 := by unfold dnF; split <;> omega
      have h3 := ih (max u (dnF (faceS c.2.2.2))) (by omega)
      rw [List.foldl_cons]
      omega
  exact this l 2 (by decide)
def frL (l : Cels) : Int := (l.head?.map (·.1)).getD 0
def toL (l : Cels) : Int := (l.getLast?.map fun c => c.1 + c.2.1).getD 0
def layL (l : Cels) (la : Bool) : Ld := { cs := l, xs := xsC 0 l, up := upL l, dn := dnL l, fr := frL l, en := toL l, la := la }
def rowCels (C : Cels) (r : Rw) : Cels := (C.take r.2.1.toNat).drop r.1.toNat
def linesL (C : Cels) (W : Int) : List Ld := (List.range (rowsW C W).length).map fun j => layL (rowCels C ((rowsW C W).getD j (0, 0, 0))) (decide (j + 1 = (rowsW C W).length))
theorem linesL_length (C : Cels) (W : Int) : (linesL C W).length = (rowsW C W).length := by simp [linesL]
end Go.Proofs.YtamhnffokoejjaaGreatDoor
namespace Go.Proofs.YtamhnffokoejjaaGreatDoor
set_option linter.unusedSimpArgs false
set_option linter.unusedVariables false
set_option linter.unusedSectionVars false
open Go.RowKit
def IsOwn (w : World) (B : Nat) (x : LdV) (r : Ld) : Prop :=
  (OF celF 160 w B (.slice x.a1 x.n1 x.c1) r.cs ∧ ON .i64 3 w B (.slice x.a2 x.n2 x.c2) r.xs) ∧ x.up = r.up ∧ x.dn = r.dn ∧ x.fr = r.fr ∧ x.en = r.en ∧ x.la = r.la
theorem IsOwn.isLd {w : World} {B : Nat} {x : LdV} {r : Ld} (h : IsOwn w B x r) : IsLd w x r := ⟨⟨h.1.1.fr, h.1.2.rn⟩, h.2⟩
theorem IsOwn.later {w w' : World} {B : Nat} {x : LdV} {r : Ld} (h : IsOwn w B x r) (a : AnyLater w w') : IsOwn w' B x r := ⟨⟨h.1.1.later a, ON.later a h.1.2⟩, h.2⟩
def Lds (w : World) (B : Nat) (v : Value) (L : List Ld) : Prop := ∃ lv, OF ldF 110 w B v lv ∧ lv.length = L.length ∧ ∀ (j : Nat) (h : j < lv.length) (h' : j < L.length), IsOwn w B lv[j] L[j]
theorem Lds.lr {w : World} {B : Nat} {v : Value} {L : List Ld} (h : Lds w B v L) : LR w v L := by
  obtain ⟨lv, h1, h2, h3⟩ := h
  exact ⟨lv, h1.fr, h2, fun j k k' => (h3 j k k').isLd⟩
theorem Lds.later {w w' : World} {B : Nat} {v : Value} {L : List Ld} (h : Lds w B v L) (a : AnyLater w w') : Lds w' B v L := by
  obtain ⟨lv, h1, h2, h3⟩ := h
  exact ⟨lv, h1.later a, h2, fun j k k' => (h3 j k k').later a⟩
end Go.Proofs.YtamhnffokoejjaaGreatDoor
namespace Go.Proofs.YtamhnffokoejjaaGreatDoor
set_option linter.unusedSimpArgs false
set_option linter.unusedVariables false
set_option linter.unusedSectionVars false
open Go.RowKit
set_option maxRecDepth 100000 in
theorem mmetric_any (f : Int) (w : World) (u d : Int) (hu : upF f = u) (hd : dnF f = d) (hf : 0 ≤ f ∧ f ≤ 2) : Calls Tryz.prog 245 #[.int .i64 f] w fun e w' => e = .returned (.tuple #[.int .i64 u, .int .i64 d, .bool true]) ∧ w = w' := by
  have hff : f = 0 ∨ f = 1 ∨ f = 2 := by omega
  clear hf
  rcases hff with rfl | rfl | rfl
  all_goals
    have H : Hid (_ ∧ _) := Lib.hid (And.intro hu hd)
    clear hu hd
    go_enter Tryz.func245, Tryz.ntmps245
    go_wp2_with fail
    refine bodyPost_ret (v := .tuple #[.int .i64 u, .int .i64 d, .bool true]) (by rw [← H.out.1, ← H.out.2]; simp [results, Tryz.results245, go_sem, upF, dnF]) rfl ⟨rfl, rfl⟩
set_option maxRecDepth 100000 in
set_option maxHeartbeats 1600000 in
theorem mreach_any (v : Value) (l : Cels) (w : World) (u d : Int) (hu : upL l = u) (hd : dnL l = d) (hv : FR celF w v l) (hN : CelsOk l) (hl : l.length ≤ 4000) : Calls Tryz.prog 204 #[v] w fun e w' => e = .returned (.tuple #[.int .i64 u, .int .i64 d]) ∧ AnyLater w w' := by
  obtain ⟨A, cap, rfl, hc⟩ := hv.form
  have HV := Lib.hid hv
  have HNN := Lib.hid hN
  have HS := Lib.hid (And.intro hu hd)
  have hmx : ∀ (w : World) (ts : Array TypeId) (t : TypeId) (p q : Int), (Builtin.max_ ts t #[.int .i64 p, .int .i64 q]).run Tryz.prog w = .ok (.int .i64 (max p q)) w := fun w ts t p q => by
    rw [run_max_int2]
    split
    · rw [Int.max_eq_right (by omega)]
    · rw [Int.max_eq_left (by omega)]
  obtain ⟨n, hn⟩ : ∃ n, l.length = n := ⟨_, rfl⟩
  have HL := Lib.hid hn
  have HM0 := Lib.hid (fun w => mmetric_any 0 w 7 2 rfl rfl (by decide))
  rw [hn] at HV hc hl ⊢
  clear hv hN hn hu hd
  go_enter Tryz.func204, Tryz.ntmps204
  go_wp2_with fail
  refine (HM0.out _).mono ?_
  rintro e w1 ⟨rfl, rfl⟩
  go_wp2_with fail
  go_loopg [2, 3, 16] n (fun kk uv dv iv wr => AnyLater w wr ∧ ∃ j : Nat, kk = n - j ∧ j ≤ n ∧ iv = .int .i64 j ∧ uv = .int .i64 (upL (l.take j)) ∧ dv = .int .i64 (dnL (l.take j)))
  case atStart => exact ⟨AnyLater.refl w, 0, by omega, by omega, rfl, rfl, rfl⟩
  case round =>
    obtain ⟨a_wr, j, hk, hj, rfl, rfl, rfl⟩ := hrel
    have HA := Lib.hid a_wr
    have hu := upL_in (l.take j)
    have hd := dnL_in (l.take j)
    by_cases hlt : j < n
    · have lj : j < l.length := by rw [HL.out]; exact hlt
      have i0 : (j : Int) < (n : Int) := by omega
      have HT : Hid (upL (l.take (j + 1)) = max (upL (l.take j)) (upF (faceS l[j].2.2.2)) ∧ dnL (l.take (j + 1)) = max (dnL (l.take j)) (dnF (faceS l[j].2.2.2))) := Lib.hid (by
        rw [cels_take lj, upL_snoc, dnL_snoc]; exact ⟨rfl, rfl⟩)
      obtain ⟨U, hU⟩ : ∃ U, upL (l.take j) = U := ⟨_, rfl⟩
      obtain ⟨D, hD⟩ : ∃ D, dnL (l.take j) = D := ⟨_, rfl⟩
      rw [hU] at hu HT ⊢
      rw [hD] at hd HT ⊢
      obtain ⟨b, off, rfl, hb, c0, c1, c2, c3⟩ := celAt (HV.out.later a_wr) j lj
      have hok := HNN.out l[j] (List.getElem_mem lj)
      generalize l[j] = cel at *
      obtain ⟨ca, cn, cr, cs⟩ := cel
      simp only at c0 c1 c2 c3 HT
      obtain ⟨-, -, hr, hs⟩ := hok
      have hfs := faceS_in cs
      obtain ⟨f, hf⟩ : ∃ f, faceS cs = f := ⟨_, rfl⟩
      have HF := Lib.hid (fun w => cface_any cs w f hf hs)
      rw [hf] at hfs HT
      obtain ⟨y1, hy1⟩ : ∃ y, upF f = y := ⟨_, rfl⟩
      obtain ⟨y2, hy2⟩ : ∃ y, dnF f = y := ⟨_, rfl⟩
      have HM := Lib.hid (fun w => mmetric_any f w y1 y2 hy1 hy2 hfs)
      rw [hy1, hy2] at HT
      clear hU hD hf hy1 hy2 hs hr hfs
      go_wp2_with fail
      first | refine settle_wp (fun wS => AnyLater wr wS ∧ wS.heap[wr.heap.size]? = some (.cells #[.int .i64 ca, .int .i64 cn, .int .i32 cr, .int .i64 cs] 160)) ?_ ?_ | refine settle_calls (fun wS => AnyLater wr wS ∧ wS.heap[wr.heap.size]? = some (.cells #[.int .i64 ca, .int .i64 cn, .int .i32 cr, .int .i64 cs] 160)) ?_ ?_
      · refine ⟨?_, ?_⟩
        · repeat' (first | with_reducible assumption | with_reducible exact AnyLater.refl _ | with_reducible apply AnyLater.setCell | with_reducible apply AnyLater.later | with_reducible apply AnyLater.drewN | with_reducible apply AnyLater.drew | with_reducible apply AnyLater.alloc | ((try simp only [World.size_alloc, World.size_setCell, World.size_drew]); (try dsimp only); omega))
        · ((repeat (first | with_reducible assumption | ((with_reducible apply heap_new); (try simp only [World.size_alloc, World.size_setCell, World.size_drew, World.heap_drewN]); done) | ((with_reducible apply heap_new); (try simp only [World.size_alloc, World.size_setCell, World.size_drew, World.heap_drewN]); omega) | (with_reducible refine heap_old (by (try simp only [World.size_alloc, World.size_setCell, World.size_drew, World.heap_drewN]); omega) ?_) | (with_reducible refine heap_drew ?_) | (with_reducible refine heap_far (by omega) ?_) | (with_reducible apply heap_at))); all_goals rfl)
      rintro w1 ⟨b_w1, s0_w1⟩
      have a_w1 := a_wr.trans b_w1
      have r0_w1 := own_row s0_w1
      have f0_w1 := own_free s0_w1
      have l0_w1 := own_lt s0_w1
      have z_w1 := b_w1.below.size
      have HB := Lib.hid (HA.out.trans b_w1)
      refine (HF.out _).mono ?_
      rintro e w2 ⟨rfl, rfl⟩
      go_wp2_with fail
      refine (HM.out _).mono ?_
      rintro e w2 ⟨rfl, rfl⟩
      go_wp2_with fail
      go_roundg (n - (j + 1))
      case measure => omega
      case rel => exact ⟨HB.out, j + 1, rfl, by omega, by go_num, by rw [HT.out.1], by rw [HT.out.2]⟩
    · obtain rfl : j = n := by omega
      have HE : Hid (upL (l.take j) = u ∧ dnL (l.take j) = d) := Lib.hid (by rw [← HS.out.1, ← HS.out.2, List.take_of_length_le (by rw [HL.out]; exact Nat.le_refl _)]; exact ⟨rfl, rfl⟩)
      rw [HE.out.1, HE.out.2]
      clear a_wr hu hd
      go_wp2_with fail
      refine bodyPost_ret (v := .tuple #[.int .i64 u, .int .i64 d]) (by simp [results, Tryz.results204, go_sem]) rfl ⟨rfl, HA.out⟩
set_option maxRecDepth 100000 in
theorem mclone_any (v : Value) (l : Cels) (w : World) (hv : FR celF w v l) (hl : l.length ≤ 190000) : Calls Tryz.prog 162 #[v] w fun e w' => ∃ u, e = .returned u ∧ AnyLater w w' ∧ OF celF 160 w' w.heap.size u l := by
  obtain ⟨A, cap, rfl, hc⟩ := hv.form
  have hq := fun (w : World) (n : Nat) => Lib.run_eql_slice_nil (P := Tryz.prog) w 108 160 A n cap 0 0 Tryz.underlying108
  obtain ⟨u, w2, k1, k2, k3⟩ := copyF celFT hv hl
  have K1 := Lib.hid k1
  have KK := Lib.hid (And.intro k2 k3)
  cases A with
  | none =>
    have hl0 : l = [] := by
      obtain ⟨A', c', e, h2, h3⟩ := hv
      cases e
      cases l with
      | nil => rfl
      | cons x t => obtain ⟨b, off, e, _⟩ := h3 (by simp); cases e
    subst hl0
    clear k1 k2 k3 hv KK K1
    have HE : Hid (OF celF 160 w w.heap.size (.slice none 0 0) []) := Lib.hid (OF.nil _ _ _)
    go_enter Tryz.func162, Tryz.ntmps162
    go_wp2_with fail
    go_ret
    exact ⟨_, rfl, AnyLater.refl _, HE.out⟩
  | some a =>
    clear k1 k2 k3 hv
    generalize l.length = n at *
    go_enter Tryz.func162, Tryz.ntmps162
    go_wp2_with (at_builtin; refine Lib.wpList_append_run _ rfl _ _ _ _ rfl _ _ rfl rfl _ _ K1.out ?_)
    go_ret
    exact ⟨_, rfl, KK.out.1, KK.out.2⟩
end Go.Proofs.YtamhnffokoejjaaGreatDoor
namespace Go.Proofs.YtamhnffokoejjaaGreatDoor
set_option linter.unusedSimpArgs false
set_option linter.unusedVariables false
set_option linter.unusedSectionVars false
open Go.RowKit
def SmallC (l : Cels) : Prop := ∀ c ∈ l, (0 ≤ c.1 ∧ c.1 ≤ 100000) ∧ 0 ≤ c.2.1 ∧ c.2.1 ≤ 100000
theorem frL_at {l : Cels} (h : 0 < l.length) : frL l = l[0].1 := by
  unfold frL
  cases l with
  | nil => simp at h
  | cons c l => rfl
theorem toL_at {l : Cels} {k : Nat} (h : l.length = k + 1) : toL l = (l[k]'(by omega)).1 + (l[k]'(by omega)).2.1 := by
  unfold toL
  have e : l.getLast? = some l[k] := by rw [List.getLast?_eq_getElem?, show l.length - 1 = k by omega, List.getElem?_eq_getElem]
  rw [e]
  rfl
set_option maxRecDepth 100000 in
set_option maxHeartbeats 1600000 in
theorem mlay_any (A : Option Addr) (cap n : Nat) (l : Cels) (w : World) (hn : l.length = n) (hv : FR celF w (.slice A n cap) l) (hN : CelsOk l) (hS : SmallC l) (hl : n ≤ 4000) :
    Calls Tryz.prog 161 #[.slice A n cap] w fun e w' => ∃ A2 c2, e = .returned (.agg #[.slice A n cap, .slice A2 (n + 1) c2, .int .i64 (upL l), .int .i64 (dnL l), .int .i64 (frL l), .int .i64 (toL l), .bool false]) ∧ AnyLater w w' ∧ ON .i64 3 w' w.heap.size (.slice A2 (n + 1) c2) (xsC 0 l) := by
  have HV := Lib.hid hv
  have HL := Lib.hid hn
  have HSM := Lib.hid hS
  have HOK := Lib.hid hN
  have HXS := Lib.hid (fun w2 (a : AnyLater w w2) => cxs_any (.slice A n cap) l w2 (hv.later a) hN (by omega))
  have HXL := Lib.hid (show (xsC 0 l).length = n + 1 by rw [xsC_length, hn])
  have HRE := Lib.hid (fun w2 (a : AnyLater w w2) => mreach_any (.slice A n cap) l w2 _ _ rfl rfl (hv.later a) hN (by omega))
  have hu := upL_in l
  have hd := dnL_in l
  obtain ⟨U, hU⟩ : ∃ U, upL l = U := ⟨_, rfl⟩
  obtain ⟨D, hD⟩ : ∃ D, dnL l = D := ⟨_, rfl⟩
  rw [hU, hD] at HRE
  rw [hU] at hu ⊢
  rw [hD] at hd ⊢
  obtain ⟨X, hX⟩ : ∃ X, frL l = X := ⟨_, rfl⟩
  obtain ⟨Y, hY⟩ : ∃ Y, toL l = Y := ⟨_, rfl⟩
  have HX := Lib.hid hX
  have HY := Lib.hid hY
  rw [hX, hY]
  clear hv hn hS hN hU hD hX hY
  go_enter Tryz.func161, Tryz.ntmps161
  go_upto_region 1 with fail
  first | refine settle_wp (fun wS => AnyLater w wS ∧ wS.heap[w.heap.size]? = some (.cells #[.slice none 0 0, .slice none 0 0, .int .i64 0, .int .i64 0, .int .i64 0, .int .i64 0, .bool false] 110)) ?_ ?_ | refine settle_calls (fun wS => AnyLater w wS ∧ wS.heap[w.heap.size]? = some (.cells #[.slice none 0 0, .slice none 0 0, .int .i64 0, .int .i64 0, .int .i64 0, .int .i64 0, .bool false] 110)) ?_ ?_
  · refine ⟨?_, ?_⟩
    · repeat' (first | with_reducible assumption | with_reducible exact AnyLater.refl _ | with_reducible apply AnyLater.setCell | with_reducible apply AnyLater.later | with_reducible apply AnyLater.drewN | with_reducible apply AnyLater.drew | with_reducible apply AnyLater.alloc | ((try simp only [World.size_alloc, World.size_setCell, World.size_drew]); (try dsimp only); omega))
    · ((repeat (first | with_reducible assumption | ((with_reducible apply heap_new); (try simp only [World.size_alloc, World.size_setCell, World.size_drew, World.heap_drewN]); done) | ((with_reducible apply heap_new); (try simp only [World.size_alloc, World.size_setCell, World.size_drew, World.heap_drewN]); omega) | (with_reducible refine heap_old (by (try simp only [World.size_alloc, World.size_setCell, World.size_drew, World.heap_drewN]); omega) ?_) | (with_reducible refine heap_drew ?_) | (with_reducible refine heap_far (by omega) ?_) | (with_reducible apply heap_at))); all_goals rfl)
  rintro w1 ⟨b_w1, s0_w1⟩
  have a_w1 := b_w1
  have r0_w1 := own_row s0_w1
  have f0_w1 := own_free s0_w1
  have l0_w1 := own_lt s0_w1
  have z_w1 := b_w1.below.size
  go_wp2_with fail
  refine (HXS.out _ b_w1).mono ?_
  rintro e w2 ⟨u2, rfl, b_w2, o2⟩
  have s0_w2 := any_own b_w2 s0_w1
  have l0_w2 := own_lt s0_w2
  have a_w2 := b_w1.trans b_w2
  obtain ⟨A2, c2, rfl, -⟩ := o2.form
  rw [HXL.out] at o2 ⊢
  have HO2 := Lib.hid (ON.wide (C := w.heap.size) b_w1.below.size o2)
  clear o2 b_w2
  go_upto_region 2 with fail
  first | refine settle_wp (fun wS => AnyLater w2 wS ∧ wS.heap[w2.heap.size]? = some (.cells #[.slice A n cap, .slice A2 (n + 1) c2, .int .i64 0, .int .i64 0, .int .i64 0, .int .i64 0, .bool false] 110)) ?_ ?_ | refine settle_calls (fun wS => AnyLater w2 wS ∧ wS.heap[w2.heap.size]? = some (.cells #[.slice A n cap, .slice A2 (n + 1) c2, .int .i64 0, .int .i64 0, .int .i64 0, .int .i64 0, .bool false] 110)) ?_ ?_
  · refine ⟨?_, ?_⟩
    · repeat' (first | with_reducible assumption | with_reducible exact AnyLater.refl _ | with_reducible apply AnyLater.setCell | with_reducible apply AnyLater.later | with_reducible apply AnyLater.drewN | with_reducible apply AnyLater.drew | with_reducible apply AnyLater.alloc | ((try simp only [World.size_alloc, World.size_setCell, World.size_drew]); (try dsimp only); omega))
    · ((repeat (first | with_reducible assumption | ((with_reducible apply heap_new); (try simp only [World.size_alloc, World.size_setCell, World.size_drew, World.heap_drewN]); done) | ((with_reducible apply heap_new); (try simp only [World.size_alloc, World.size_setCell, World.size_drew, World.heap_drewN]); omega) | (with_reducible refine heap_old (by (try simp only [World.size_alloc, World.size_setCell, World.size_drew, World.heap_drewN]); omega) ?_) | (with_reducible refine heap_drew ?_) | (with_reducible refine heap_far (by omega) ?_) | (with_reducible apply heap_at))); all_goals rfl)
  rintro w3 ⟨b_w3, s1_w3⟩
  have a_w3 := a_w2.trans b_w3
  have s0_w3 := any_own b_w3 s0_w2
  have r0_w3 := own_row s0_w3
  have f0_w3 := own_free s0_w3
  have l0_w3 := own_lt s0_w3
  (try clear r0_w2); (try clear f0_w2)
  have r1_w3 := own_row s1_w3
  have f1_w3 := own_free s1_w3
  have l1_w3 := own_lt s1_w3
  have z_w3 := b_w3.below.size
  obtain ⟨p, hp⟩ : ∃ p, w2.heap.size = p := ⟨_, rfl⟩
  have HP := Lib.hid hp
  rw [hp] at s1_w3 r1_w3 f1_w3 l1_w3 z_w3 ⊢
  go_wp2_with fail
  refine (HRE.out _ a_w3).mono ?_
  rintro e w4 ⟨rfl, b_w4⟩
  have z_w4 := b_w4.below.size
  have a_w4 := a_w3.trans b_w4
  have s0_w4 := any_own b_w4 s0_w3
  have s1_w4 := any_own b_w4 s1_w3
  have r0_w4 := own_row s0_w4
  have f0_w4 := own_free s0_w4
  have l0_w4 := own_lt s0_w4
  have r1_w4 := own_row s1_w4
  have f1_w4 := own_free s1_w4
  have l1_w4 := own_lt s1_w4
  (try clear r0_w3); (try clear f0_w3)
  (try clear r1_w3); (try clear f1_w3)
  have b24 := b_w3.trans b_w4
  go_upto_region 3 with fail
  first | refine settle_wp (fun wS => AnyLater w2 wS ∧ wS.heap[p]? = some (.cells #[.slice A n cap, .slice A2 (n + 1) c2, .int .i64 U, .int .i64 D, .int .i64 0, .int .i64 0, .bool false] 110)) ?_ ?_ | refine settle_calls (fun wS => AnyLater w2 wS ∧ wS.heap[p]? = some (.cells #[.slice A n cap, .slice A2 (n + 1) c2, .int .i64 U, .int .i64 D, .int .i64 0, .int .i64 0, .bool false] 110)) ?_ ?_
  · refine ⟨?_, ?_⟩
    · repeat' (first | with_reducible assumption | with_reducible exact AnyLater.refl _ | with_reducible apply AnyLater.setCell | with_reducible apply AnyLater.later | with_reducible apply AnyLater.drewN | with_reducible apply AnyLater.drew | with_reducible apply AnyLater.alloc | ((try simp only [World.size_alloc, World.size_setCell, World.size_drew]); (try dsimp only); omega))
    · ((repeat (first | with_reducible assumption | ((with_reducible apply heap_new); (try simp only [World.size_alloc, World.size_setCell, World.size_drew, World.heap_drewN]); done) | ((with_reducible apply heap_new); (try simp only [World.size_alloc, World.size_setCell, World.size_drew, World.heap_drewN]); omega) | (with_reducible refine heap_old (by (try simp only [World.size_alloc, World.size_setCell, World.size_drew, World.heap_drewN]); omega) ?_) | (with_reducible refine heap_drew ?_) | (with_reducible refine heap_far (by omega) ?_) | (with_reducible apply heap_at))); all_goals rfl)
  rintro w5 ⟨b_w5, s1_w5⟩
  have a_w5 := a_w2.trans b_w5
  have s0_w5 := any_own b_w5 s0_w2
  have r0_w5 := own_row s0_w5
  have f0_w5 := own_free s0_w5
  have l0_w5 := own_lt s0_w5
  (try clear r0_w2); (try clear f0_w2)
  have r1_w5 := own_row s1_w5
  have f1_w5 := own_free s1_w5
  have l1_w5 := own_lt s1_w5
  have z_w5 := b_w5.below.size
  have HO5 := Lib.hid (ON.later b_w5 HO2.out)
  have HP2 : Hid (w2.heap.size ≤ p) := Lib.hid (by rw [HP.out]; exact Nat.le_refl _)
  have hsp : w.heap.size < p := by have := HP2.out; omega
  clear b24 b_w4 b_w3 hp
  cases n with
  | zero =>
    obtain rfl : X = 0 := by rw [← HX.out, List.eq_nil_of_length_eq_zero HL.out]; rfl
    obtain rfl : Y = 0 := by rw [← HY.out, List.eq_nil_of_length_eq_zero HL.out]; rfl
    have oE := owns_setCells (by decide) [.slice A 0 cap, .slice A2 (0 + 1) c2, .int .i64 U, .int .i64 D, .int .i64 0, .int .i64 0, .bool false] 0 w5 _ s0_w5 HO5.out
    have aE := any_setCells (Nat.le_refl w.heap.size) [.slice A 0 cap, .slice A2 (0 + 1) c2, .int .i64 U, .int .i64 D, .int .i64 0, .int .i64 0, .bool false] 0 w5 a_w5
    have HE := Lib.hid (And.intro oE aE)
    clear oE aE
    go_wp2_with fail
    refine bodyPost_ret (v := .agg #[.slice A 0 cap, .slice A2 (0 + 1) c2, .int .i64 U, .int .i64 D, .int .i64 0, .int .i64 0, .bool false]) (by simp [results, Tryz.results161, go_sem, r0_w5]) rfl ⟨_, _, rfl, HE.out.2, HE.out.1⟩
  | succ k =>
    have lk : k < l.length := by rw [HL.out]; omega
    have l0 : 0 < l.length := by omega
    obtain ⟨b, off, rfl, hb, -⟩ := celAt HV.out k lk
    obtain ⟨b', off', eb, -, c0, c1, c2', c3⟩ := celAt (HV.out.later a_w5) k lk
    cases eb
    obtain ⟨b', off', eb, -, d0, -, -, -⟩ := celAt (HV.out.later a_w5) 0 l0
    cases eb
    rw [Nat.zero_mul, Nat.add_zero] at d0
    have HX2 := Lib.hid (frL_at l0)
    have HY2 := Lib.hid (toL_at HL.out)
    obtain ⟨⟨p1, p2⟩, p3, p4⟩ := HSM.out l[k] (List.getElem_mem lk)
    have hX3 : l[0].1 = X := by rw [← HX.out, HX2.out]
    have hY3 : l[k].1 + l[k].2.1 = Y := by rw [← HY.out, HY2.out]
    rw [hX3] at d0
    obtain ⟨cel, hcel⟩ : ∃ cel, l[k] = cel := ⟨_, rfl⟩
    rw [hcel] at c0 c1 c2' c3 p1 p2 p3 p4 hY3
    obtain ⟨ca, cn, cr, cs⟩ := cel
    simp only at c0 c1 c2' c3 p1 p2 p3 p4 hY3
    have e0 : (k : Int) + 1 - 1 = (k : Int) := by omega
    have HY3 := Lib.hid hY3
    have HD0 := Lib.hid d0
    have hbp : b < w5.heap.size := by have := a_w5.below.size; omega
    have n1 : b ≠ p := by omega
    clear hX3 hcel HX2 HY2 hY3 d0
    go_upto_region 5 with fail
    first | refine settle_wp (fun wS => AnyLater w5 wS ∧ wS.heap[w5.heap.size]? = some (.cells #[.int .i64 ca, .int .i64 cn, .int .i32 cr, .int .i64 cs] 160)) ?_ ?_ | refine settle_calls (fun wS => AnyLater w5 wS ∧ wS.heap[w5.heap.size]? = some (.cells #[.int .i64 ca, .int .i64 cn, .int .i32 cr, .int .i64 cs] 160)) ?_ ?_
    · refine ⟨?_, ?_⟩
      · repeat' (first | with_reducible assumption | with_reducible exact AnyLater.refl _ | with_reducible apply AnyLater.setCell | with_reducible apply AnyLater.later | with_reducible apply AnyLater.drewN | with_reducible apply AnyLater.drew | with_reducible apply AnyLater.alloc | ((try simp only [World.size_alloc, World.size_setCell, World.size_drew]); (try dsimp only); omega))
      · ((repeat (first | with_reducible assumption | ((with_reducible apply heap_new); (try simp only [World.size_alloc, World.size_setCell, World.size_drew, World.heap_drewN]); done) | ((with_reducible apply heap_new); (try simp only [World.size_alloc, World.size_setCell, World.size_drew, World.heap_drewN]); omega) | (with_reducible refine heap_old (by (try simp only [World.size_alloc, World.size_setCell, World.size_drew, World.heap_drewN]); omega) ?_) | (with_reducible refine heap_drew ?_) | (with_reducible refine heap_far (by omega) ?_) | (with_reducible apply heap_at))); all_goals rfl)
    rintro w6 ⟨b_w6, s2_w6⟩
    have a_w6 := a_w5.trans b_w6
    have s0_w6 := any_own b_w6 s0_w5
    have s1_w6 := any_own b_w6 s1_w5
    have r0_w6 := own_row s0_w6
    have f0_w6 := own_free s0_w6
    have l0_w6 := own_lt s0_w6
    have r1_w6 := own_row s1_w6
    have f1_w6 := own_free s1_w6
    have l1_w6 := own_lt s1_w6
    (try clear r0_w5); (try clear f0_w5)
    (try clear r1_w5); (try clear f1_w5)
    have r2_w6 := own_row s2_w6
    have f2_w6 := own_free s2_w6
    have l2_w6 := own_lt s2_w6
    have z_w6 := b_w6.below.size
    have d0 := (b_w6.below.cell hbp).trans HD0.out
    have b26 := b_w5.trans b_w6
    have n2 : w5.heap.size ≠ p := by omega
    obtain ⟨q, hq⟩ : ∃ q, w5.heap.size = q := ⟨_, rfl⟩
    rw [hq] at s2_w6 r2_w6 f2_w6 l2_w6 z_w6 n2 ⊢
    clear hq hbp c0 c1 c2' c3
    go_region
    go_upto_region 6 with fail
    rw [HY3.out]
    have hp2 := HP2.out
    first | refine settle_wp (fun wS => AnyLater w2 wS ∧ wS.heap[p]? = some (.cells #[.slice (some ⟨b, off, none⟩) (k + 1) cap, .slice A2 (k + 1 + 1) c2, .int .i64 U, .int .i64 D, .int .i64 X, .int .i64 Y, .bool false] 110)) ?_ ?_ | refine settle_calls (fun wS => AnyLater w2 wS ∧ wS.heap[p]? = some (.cells #[.slice (some ⟨b, off, none⟩) (k + 1) cap, .slice A2 (k + 1 + 1) c2, .int .i64 U, .int .i64 D, .int .i64 X, .int .i64 Y, .bool false] 110)) ?_ ?_
    · refine ⟨?_, ?_⟩
      · repeat' (first | with_reducible assumption | with_reducible exact AnyLater.refl _ | with_reducible apply AnyLater.setCell | with_reducible apply AnyLater.later | with_reducible apply AnyLater.drewN | with_reducible apply AnyLater.drew | with_reducible apply AnyLater.alloc | ((try simp only [World.size_alloc, World.size_setCell, World.size_drew]); (try dsimp only); omega))
      · ((repeat (first | with_reducible assumption | ((with_reducible apply heap_new); (try simp only [World.size_alloc, World.size_setCell, World.size_drew, World.heap_drewN]); done) | ((with_reducible apply heap_new); (try simp only [World.size_alloc, World.size_setCell, World.size_drew, World.heap_drewN]); omega) | (with_reducible refine heap_old (by (try simp only [World.size_alloc, World.size_setCell, World.size_drew, World.heap_drewN]); omega) ?_) | (with_reducible refine heap_drew ?_) | (with_reducible refine heap_far (by omega) ?_) | (with_reducible apply heap_at))); all_goals rfl)
    rintro w7 ⟨b_w7, s1_w7⟩
    have a_w7 := a_w2.trans b_w7
    have s0_w7 := any_own b_w7 s0_w2
    have r0_w7 := own_row s0_w7
    have f0_w7 := own_free s0_w7
    have l0_w7 := own_lt s0_w7
    (try clear r0_w2); (try clear f0_w2)
    have r1_w7 := own_row s1_w7
    have f1_w7 := own_free s1_w7
    have l1_w7 := own_lt s1_w7
    have z_w7 := b_w7.below.size
    have oE := owns_setCells (by decide) [.slice (some ⟨b, off, none⟩) (k + 1) cap, .slice A2 (k + 1 + 1) c2, .int .i64 U, .int .i64 D, .int .i64 X, .int .i64 Y, .bool false] 0 w7 _ s0_w7 (ON.later b_w7 HO2.out)
    have aE := any_setCells (Nat.le_refl w.heap.size) [.slice (some ⟨b, off, none⟩) (k + 1) cap, .slice A2 (k + 1 + 1) c2, .int .i64 U, .int .i64 D, .int .i64 X, .int .i64 Y, .bool false] 0 w7 a_w7
    have HE := Lib.hid (And.intro oE aE)
    clear oE aE d0 b26 n1 n2
    go_wp2_with fail
    refine bodyPost_ret (v := .agg #[.slice (some ⟨b, off, none⟩) (k + 1) cap, .slice A2 (k + 1 + 1) c2, .int .i64 U, .int .i64 D, .int .i64 X, .int .i64 Y, .bool false]) (by simp [results, Tryz.results161, go_sem, r0_w7]) rfl ⟨_, _, rfl, HE.out.2, HE.out.1⟩
end Go.Proofs.YtamhnffokoejjaaGreatDoor
