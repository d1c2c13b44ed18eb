/- cells: where cells begin, told by the program and by the document; the law's Few and Runs; the document's Same: by contract. -/
import Derived.Test.YteplnejnhgmfiaaDoorCelA
import Derived.Test.YteplnejnhgmfiaaDoorStays
import Derived.Test.YteplnejnhgmfiaaDoorFree
import Derived.Test.YteplnejnhgmfiaaDoorRunsA
import Derived.Deep.LoopGhost
import Derived.Deep.OwnRows
import Derived.Laws.StructEq
import Derived.Deep.QuietTactic
namespace Go.Proofs.YteplnejnhgmfiaaDoor
set_option linter.unusedSimpArgs false
set_option linter.unusedVariables false
set_option linter.unusedSectionVars false
open Go.RowKit

/-- one cell of a slice of cells, as the walk reads it -/
theorem celAt {w : World} {A : Option Addr} {n cap : Nat} {l : Cels} (h : FR celF w (.slice A n cap) l) (j : Nat) (hj : j < l.length) : ∃ b off, A = some ⟨b, off, none⟩ ∧ b < w.heap.size ∧
    w.cell? ⟨b, off + j * 4, none⟩ = some (.int .i64 l[j].1) ∧ w.cell? ⟨b, off + j * 4 + 1, none⟩ = some (.int .i64 l[j].2.1) ∧ w.cell? ⟨b, off + j * 4 + 2, none⟩ = some (.int .i32 l[j].2.2.1) ∧ w.cell? ⟨b, off + j * 4 + 3, none⟩ = some (.int .i64 l[j].2.2.2) := by
  obtain ⟨b, off, e, hb, hc⟩ := h.at j hj
  exact ⟨b, off, e, hb, hc 0 _ rfl, hc 1 _ rfl, hc 2 _ rfl, hc 3 _ rfl⟩

/-! ### Few, Runs -/
set_option maxRecDepth 100000 in
set_option maxHeartbeats 3200000 in
theorem cfew_any (v : Value) (l : Cels) (w : World) (hv : FR celF w v l) :
    Calls Tryd.prog 38 #[v] w fun e w' => ∃ u, e = .returned u ∧ AnyLater w w' ∧ OF celF 63 w' w.heap.size u (l.take 60) := by
  obtain ⟨A, cap, rfl, hc⟩ := hv.form
  have HV := Lib.hid hv
  obtain ⟨n, hn⟩ : ∃ n, l.length = n := ⟨_, rfl⟩
  have HNN := Lib.hid hn
  rw [hn] at HV hc ⊢
  clear hv
  have HX : Hid (∀ a2 c2, FR celF w (.slice a2 (l.take 60).length c2) (l.take 60) → ∃ u w2, (Builtin.append_ #[41, 41] 41 #[.slice (some ⟨w.heap.size, 0, none⟩) 0 0, .slice a2 (l.take 60).length c2]).run Tryd.prog (w.alloc (.cells #[] 63)) = .ok u w2 ∧ AnyLater w w2 ∧ OF celF 63 w2 w.heap.size u (l.take 60)) :=
    Lib.hid (fun a2 c2 h2 => copyF celFT h2 (by rw [List.length_take]; omega))
  by_cases q : 60 < n
  · have hl : (l.take 60).length = 60 := by rw [List.length_take]; omega
    have hr : FR celF w (.slice A (l.take 60).length cap) (l.take 60) := by
      rw [hl]
      have h := HV.out
      rw [← HNN.out] at h
      exact h.take 60 (by omega)
    obtain ⟨u, w2, k1, k2, k3⟩ := HX.out A cap hr
    rw [hl] at k1
    have K1 := Lib.hid k1
    have KK := Lib.hid (And.intro k2 k3)
    clear k1 k2 k3 hr hl hn
    go_enter Tryd.func38, Tryd.ntmps38
    go_wp2_with (at_builtin; refine Lib.wpList_append_run _ rfl _ _ _ _ rfl _ _ rfl rfl _ _ K1.out ?_)
    go_ret
    exact ⟨_, rfl, KK.out.1, KK.out.2⟩
  · have hl : l.take 60 = l := List.take_of_length_le (by omega)
    have hr : FR celF w (.slice A (l.take 60).length cap) (l.take 60) := by
      rw [hl, HNN.out]; exact HV.out
    obtain ⟨u, w2, k1, k2, k3⟩ := HX.out A cap hr
    rw [hl, HNN.out] at k1
    have K1 := Lib.hid k1
    have KK := Lib.hid (And.intro k2 k3)
    have dq : decide ((60 : Int) < (n : Int)) = false := by simp; omega
    clear k1 k2 k3 hr hl hn
    go_enter Tryd.func38, Tryd.ntmps38
    go_wp2_with (at_builtin; refine Lib.wpList_append_run _ rfl _ _ _ _ rfl _ _ rfl rfl _ _ K1.out ?_)
    go_ret
    exact ⟨_, rfl, KK.out.1, KK.out.2⟩
theorem RRn.takeN {w : World} {A : Option Addr} {cap : Nat} {l : Runs} (h : RRn w (.slice A l.length cap) l) (n : Nat) (hn : n ≤ l.length) : RRn w (.slice A n cap) (l.take n) := by
  obtain ⟨A', cap', e, h2, h3⟩ := h
  cases e
  have hl : (l.take n).length = n := by rw [List.length_take]; omega
  refine ⟨A, cap, by rw [hl], by rw [hl]; omega, fun h0 => ?_⟩
  rw [hl] at h0
  obtain ⟨b, off, rfl, hb, hc⟩ := h3 (by omega)
  refine ⟨b, off, rfl, hb, fun j hj => ?_⟩
  rw [hl] at hj
  rw [List.getElem_take]
  exact hc j (by omega)
set_option maxRecDepth 100000 in
set_option maxHeartbeats 3200000 in
theorem cruns_any (v : Value) (l : Runs) (w : World) (hv : RRn w v l) :
    Calls Tryd.prog 8 #[v] w fun e w' => ∃ u, e = .returned u ∧ AnyLater w w' ∧ ORn w' w.heap.size u (l.take 40) := by
  obtain ⟨A, cap, rfl, hc, h3⟩ := hv
  have HV : Hid (RRn w (.slice A l.length cap) l) := Lib.hid ⟨A, cap, rfl, hc, h3⟩
  obtain ⟨n, hn⟩ : ∃ n, l.length = n := ⟨_, rfl⟩
  have HNN := Lib.hid hn
  rw [hn] at HV hc ⊢
  clear h3
  have HX : Hid (∀ a2 c2, RRn w (.slice a2 (l.take 40).length c2) (l.take 40) → ∃ u w2, (Builtin.append_ #[23, 23] 23 #[.slice (some ⟨w.heap.size, 0, none⟩) 0 0, .slice a2 (l.take 40).length c2]).run Tryd.prog (w.alloc (.cells #[] 54)) = .ok u w2 ∧ AnyLater w w2 ∧ ORn w2 w.heap.size u (l.take 40)) :=
    Lib.hid (fun a2 c2 h2 => copyRuns h2 (by rw [List.length_take]; omega))
  by_cases q : 40 < n
  · have hl : (l.take 40).length = 40 := by rw [List.length_take]; omega
    have hr : RRn w (.slice A (l.take 40).length cap) (l.take 40) := by
      rw [hl]
      have h := HV.out
      rw [← HNN.out] at h
      exact h.takeN 40 (by omega)
    obtain ⟨u, w2, k1, k2, k3⟩ := HX.out A cap hr
    rw [hl] at k1
    have K1 := Lib.hid k1
    have KK := Lib.hid (And.intro k2 k3)
    clear k1 k2 k3 hr hl hn
    go_enter Tryd.func8, Tryd.ntmps8
    go_wp2_with (at_builtin; refine Lib.wpList_append_run _ rfl _ _ _ _ rfl _ _ rfl rfl _ _ K1.out ?_)
    go_ret
    exact ⟨_, rfl, KK.out.1, KK.out.2⟩
  · have hl : l.take 40 = l := List.take_of_length_le (by omega)
    have hr : RRn w (.slice A (l.take 40).length cap) (l.take 40) := by
      rw [hl, HNN.out]; exact HV.out
    obtain ⟨u, w2, k1, k2, k3⟩ := HX.out A cap hr
    rw [hl, HNN.out] at k1
    have K1 := Lib.hid k1
    have KK := Lib.hid (And.intro k2 k3)
    have dq : decide ((40 : Int) < (n : Int)) = false := by simp; omega
    clear k1 k2 k3 hr hl hn
    go_enter Tryd.func8, Tryd.ntmps8
    go_wp2_with (at_builtin; refine Lib.wpList_append_run _ rfl _ _ _ _ rfl _ _ rfl rfl _ _ K1.out ?_)
    go_ret
    exact ⟨_, rfl, KK.out.1, KK.out.2⟩

/-! ### the document's Xs -/
theorem cels_take {l : Cels} {j : Nat} (h : j < l.length) : l.take (j + 1) = l.take j ++ [l[j]] := List.take_succ_eq_append_getElem h
set_option maxRecDepth 100000 in
set_option maxHeartbeats 3200000 in
theorem cxxs_any (v : Value) (l : Cels) (w : World) (hv : FR celF w v l) (hN : CelsOk l) (hl : l.length ≤ 4000) :
    Calls Tryd.prog 34 #[v] w fun e w' => ∃ u, e = .returned u ∧ AnyLater w w' ∧ ON .i64 3 w' w.heap.size u (xsC 0 l) := by
  obtain ⟨A, cap, rfl, hc⟩ := hv.form
  have HV := Lib.hid hv
  have HNN := Lib.hid hN
  obtain ⟨n, hn⟩ : ∃ n, l.length = n := ⟨_, rfl⟩
  have HL := Lib.hid hn
  rw [hn] at HV hc hl ⊢
  clear hv hN hn
  go_enter Tryd.func34, Tryd.ntmps34
  go_wp2_with fail
  go_loopg [3, 4, 5] n (fun kk sv xv iv wr => AnyLater w wr ∧ ∃ j : Nat, kk = n - j ∧ j ≤ n ∧ iv = .int .i64 j ∧ xv = .int .i64 (endC 0 (l.take j)) ∧ ON .i64 3 wr w.heap.size sv (xsC 0 (l.take j)))
  case atStart => exact ⟨(AnyLater.refl w).alloc _, 0, by omega, by omega, rfl, rfl, ON.one (Nat.le_refl _) (heap_new rfl)⟩
  case round =>
    obtain ⟨a_wr, j, hk, hj, rfl, rfl, ho⟩ := hrel
    have HA := Lib.hid a_wr
    have HO := Lib.hid ho
    obtain ⟨A3, c3, rfl, h3⟩ := ho.form
    have hlen : (xsC 0 (l.take j)).length = j + 1 := by rw [xsC_length, List.length_take, HL.out]; omega
    rw [hlen] at HO h3 ⊢
    have hx := endC_in (l.take j) 0
    have hlt2 : (l.take j).length = j := by rw [List.length_take, HL.out]; omega
    rw [hlt2] at hx
    obtain ⟨x, hxx⟩ : ∃ x, endC 0 (l.take j) = x := ⟨_, rfl⟩
    have HXX := Lib.hid hxx
    rw [hxx] at hx ⊢
    obtain ⟨x0, x1⟩ := hx
    clear ho hxx hlt2
    by_cases hlt : j < n
    · have lj : j < l.length := by rw [HL.out]; exact hlt
      have i0 : (j : Int) < (n : Int) := by omega
      obtain ⟨b, off, rfl, hb, c0, c1, c2, c3⟩ := celAt (HV.out.later a_wr) j lj
      have HT := Lib.hid (cels_take lj)
      have hok := HNN.out l[j] (List.getElem_mem lj)
      generalize l[j] = cel at *
      obtain ⟨ca, cn, cr, cs⟩ := cel
      simp only at c0 c1 c2 c3
      obtain ⟨-, -, hr, hs⟩ := hok
      obtain ⟨y, hy⟩ : ∃ y, widR cr cs x = y := ⟨_, rfl⟩
      have hyb := widR_in cr cs x
      rw [hy] at hyb
      obtain ⟨y0, y1⟩ := hyb
      have HW := Lib.hid (fun w => cxwidth_any ca cn cr cs x w y hy hr hs (by constructor <;> omega))
      have HE : Hid (endC 0 (l.take (j + 1)) = x + y ∧ xsC 0 (l.take (j + 1)) = xsC 0 (l.take j) ++ [x + y]) := Lib.hid (by
        rw [HT.out]
        have e1 : endC 0 (l.take j ++ [(ca, cn, cr, cs)]) = x + y := by rw [endC_snoc, HXX.out]; unfold widC; rw [hy]
        exact ⟨e1, by rw [xsC_snoc, e1]⟩)
      clear hy a_wr hr hs
      go_wp2_with fail
      refine (HW.out _).mono ?_
      rintro e w3 ⟨rfl, b3⟩
      have ho3 := HO.out
      obtain ⟨u2, w4, k1, k2, k3⟩ := appI (x + y) (ON.later b3 HO.out) (Nat.le_trans HA.out.below.size b3.below.size) (by rw [hlen]; omega)
      have K1 := Lib.hid k1
      have K2 : Hid (ON .i64 3 w4 w.heap.size u2 (xsC 0 (l.take (j + 1)))) := Lib.hid (by rw [HE.out.2]; exact k2)
      have K3 := Lib.hid (k3 w (Nat.le_refl _) (HA.out.trans b3))
      clear k1 k2 k3 ho3 b3
      go_wp2_with (at_builtin; refine Lib.wpList_append_run _ rfl _ _ _ _ rfl _ _ rfl rfl _ _ K1.out ?_)
      go_roundg (n - (j + 1))
      case measure => omega
      case rel => exact ⟨K3.out, j + 1, rfl, by omega, by go_num, by rw [HE.out.1], K2.out⟩
    · obtain rfl : j = n := by omega
      have HE : Hid (l.take j = l) := Lib.hid (List.take_of_length_le (by rw [HL.out]; exact Nat.le_refl _))
      clear a_wr
      go_wp2_with fail
      go_ret
      exact ⟨_, rfl, HA.out, by have := HO.out; rw [HE.out] at this; exact this⟩

/-! ### the program's Xs -/
/-- what stands in the row while it is filled -/
def fillX (l : Cels) (n j : Nat) : List Int := xsC 0 (l.take j) ++ List.replicate (n - j) 0
theorem fillX_length {l : Cels} {n j : Nat} (hl : l.length = n) (hj : j ≤ n) : (fillX l n j).length = n + 1 := by
  unfold fillX
  rw [List.length_append, xsC_length, List.length_take, List.length_replicate]
  omega
theorem fillX_get {l : Cels} {n j : Nat} (hl : l.length = n) (hj : j ≤ n) : (fillX l n j)[j]? = some (endC 0 (l.take j)) := by
  have h := xsC_last (l.take j) 0
  have hlt : (l.take j).length = j := by rw [List.length_take]; omega
  rw [hlt] at h
  unfold fillX
  rw [List.getElem?_append_left (by rw [xsC_length, hlt]; omega)]
  exact h
theorem fillX_set {l : Cels} {n j : Nat} (hl : l.length = n) (hj : j < n) : (fillX l n j).set (j + 1) (endC 0 (l.take (j + 1))) = fillX l n (j + 1) := by
  have hlt : (l.take j).length = j := by rw [List.length_take]; omega
  unfold fillX
  rw [cels_take (show j < l.length by omega), xsC_snoc, List.set_append_right _ _ (by rw [xsC_length, hlt]; exact Nat.le_refl _), xsC_length, hlt, Nat.sub_self, show n - j = (n - (j + 1)) + 1 by omega, List.replicate_succ, List.set_cons_zero, List.append_assoc]
  rfl
theorem fillX_end {l : Cels} {n : Nat} (hl : l.length = n) : fillX l n n = xsC 0 l := by
  unfold fillX
  rw [List.take_of_length_le (by omega), Nat.sub_self, List.replicate_zero, List.append_nil]
theorem cmade (n : Nat) (hn : n ≤ 4000) (w : World) : (Instr.makeSlice 33 (.int .i64 ((n : Int) + 1)) (.int .i64 ((n : Int) + 1))).run Tryd.prog w = .ok (.slice (some ⟨w.heap.size, 0, none⟩) (n + 1) (n + 1)) (w.alloc (.cells (madeCells #[.int .i64 0] (n + 1)) 3)) := by
  have h := run_make_row' (P := Tryd.prog) 33 3 (.int .i64 0) 8 Tryd.underlying33 info_i64 rfl .i64 .i64 (n + 1) (by omega) (by omega) w
  rwa [Int.natCast_add] at h
theorem cmade_on (l : Cels) (n : Nat) (w : World) : ON .i64 3 (w.alloc (.cells (madeCells #[.int .i64 0] (n + 1)) 3)) w.heap.size (.slice (some ⟨w.heap.size, 0, none⟩) (n + 1) (n + 1)) (fillX l n 0) ∨ 4000 < n := by
  rcases Nat.lt_or_ge 4000 n with h | h
  · exact .inr h
  · left
    have e : fillX l n 0 = List.replicate (n + 1) 0 := by unfold fillX; rw [List.take_zero, Nat.sub_zero, List.replicate_succ]; rfl
    rw [e]
    have := ON.of (B := w.heap.size) (l := List.replicate (n + 1) 0) (cap := n + 1) (cur := madeCells #[.int .i64 0] (n + 1)) (Nat.le_refl _) (heap_new (w := w) rfl) (by simp) (by unfold maxLen; omega) (size_madeCells _ _) (fun j hj => by
      rw [← Array.getElem?_toList, toList_madeCells_one]
      rw [List.length_replicate] at hj
      simp [hj])
    simpa using this
set_option maxRecDepth 100000 in
set_option maxHeartbeats 3200000 in
theorem cxs_any (v : Value) (l : Cels) (w : World) (hv : FR celF w v l) (hN : CelsOk l) (hl : l.length ≤ 4000) :
    Calls Tryd.prog 54 #[v] w fun e w' => ∃ u, e = .returned u ∧ AnyLater w w' ∧ ON .i64 3 w' w.heap.size u (xsC 0 l) := by
  obtain ⟨A, cap, rfl, hc⟩ := hv.form
  have HV := Lib.hid hv
  have HNN := Lib.hid hN
  obtain ⟨n, hn⟩ : ∃ n, l.length = n := ⟨_, rfl⟩
  have HL := Lib.hid hn
  rw [hn] at HV hc hl ⊢
  have HM := cmade n hl w
  have HO0 := Lib.hid ((cmade_on l n w).resolve_right (by omega))
  have HA0 := Lib.hid ((AnyLater.refl w).alloc (.cells (madeCells #[.int .i64 0] (n + 1)) 3))
  obtain ⟨G, hg⟩ : ∃ G, w.heap.size = G := ⟨_, rfl⟩
  have HG := Lib.hid hg
  rw [hg] at HM HO0 ⊢
  generalize w.alloc (.cells (madeCells #[.int .i64 0] (n + 1)) 3) = w0 at *
  clear hv hN hn hg
  go_enter Tryd.func54, Tryd.ntmps54
  go_wp2_with fail
  go_loopg [12] n (fun kk iv wr => AnyLater w wr ∧ ∃ j : Nat, kk = n - j ∧ j ≤ n ∧ iv = .int .i64 j ∧ ON .i64 3 wr G (.slice (some ⟨G, 0, none⟩) (n + 1) (n + 1)) (fillX l n j))
  case atStart => exact ⟨HA0.out, 0, by omega, by omega, rfl, HO0.out⟩
  case round =>
    obtain ⟨a_wr, j, hk, hj, rfl, ho⟩ := hrel
    have HA := Lib.hid a_wr
    have HO := Lib.hid ho
    by_cases hlt : j < n
    · have lj : j < l.length := by rw [HL.out]; exact hlt
      have i0 : (j : Int) < (n : Int) := by omega
      have hx := endC_in (l.take j) 0
      have hlt2 : (l.take j).length = j := by rw [List.length_take, HL.out]; omega
      rw [hlt2] at hx
      obtain ⟨x, hxx⟩ : ∃ x, endC 0 (l.take j) = x := ⟨_, rfl⟩
      have HXX := Lib.hid hxx
      rw [hxx] at hx
      obtain ⟨x0, x1⟩ := hx
      obtain ⟨G', cap', cur, e1, hB, hblk, q1, q2, q3, q4⟩ := ho.at (by rw [fillX_length HL.out hj]; omega)
      rw [fillX_length HL.out hj] at e1 q1
      cases e1
      have d0 : wr.cell? ⟨G, j, none⟩ = some (.int .i64 x) := by
        rw [own_row hblk, q4 j (by rw [fillX_length HL.out hj]; omega)]
        have := fillX_get HL.out hj
        rw [List.getElem?_eq_getElem (by rw [fillX_length HL.out hj]; omega), hxx] at this
        rw [Option.some.inj this]
      have gl : G < wr.heap.size := own_lt hblk
      obtain ⟨z, hz⟩ : ∃ z, cur[j + 1]? = some (.int .i64 z) := ⟨_, q4 (j + 1) (by rw [fillX_length HL.out hj]; omega)⟩
      have HZ := Lib.hid hz
      have HBK := Lib.hid hblk
      obtain ⟨b, off, rfl, hb, c0, c1, c2, c3⟩ := celAt (HV.out.later a_wr) j lj
      have HT := Lib.hid (cels_take lj)
      have hok := HNN.out l[j] (List.getElem_mem lj)
      generalize l[j] = cel at *
      obtain ⟨ca, cn, cr, cs⟩ := cel
      simp only at c0 c1 c2 c3
      obtain ⟨-, -, hr, hs⟩ := hok
      obtain ⟨y, hy⟩ : ∃ y, widR cr cs x = y := ⟨_, rfl⟩
      have hyb := widR_in cr cs x
      rw [hy] at hyb
      obtain ⟨y0, y1⟩ := hyb
      have HW := Lib.hid (fun w => cwidth_any ca cn cr cs x w y hy hr hs (by constructor <;> omega))
      have HE : Hid (endC 0 (l.take (j + 1)) = x + y) := Lib.hid (by
        rw [HT.out, endC_snoc, HXX.out]; unfold widC; rw [hy])
      have HFS := Lib.hid (fillX_set HL.out hlt)
      clear hy hr hs ho hblk q1 q2 q3 q4 hxx hlt2 hz
      go_wp2_with fail
      first | refine settle_wp (fun wS => AnyLater wr wS ∧ wS.heap[wr.heap.size]? = some (.cells #[.int .i64 ca, .int .i64 cn, .int .i32 cr, .int .i64 cs] 63)) ?_ ?_ | refine settle_calls (fun wS => AnyLater wr wS ∧ wS.heap[wr.heap.size]? = some (.cells #[.int .i64 ca, .int .i64 cn, .int .i32 cr, .int .i64 cs] 63)) ?_ ?_
      · refine ⟨?_, ?_⟩
        · repeat' (first | with_reducible assumption | with_reducible exact AnyLater.refl _ | with_reducible apply AnyLater.setCell | with_reducible apply AnyLater.later | with_reducible apply AnyLater.drewN | with_reducible apply AnyLater.drew | with_reducible apply AnyLater.alloc | ((try simp only [World.size_alloc, World.size_setCell, World.size_drew]); (try dsimp only); omega))
        · ((repeat (first | with_reducible assumption | ((with_reducible apply heap_new); (try simp only [World.size_alloc, World.size_setCell, World.size_drew, World.heap_drewN]); done) | ((with_reducible apply heap_new); (try simp only [World.size_alloc, World.size_setCell, World.size_drew, World.heap_drewN]); omega) | (with_reducible refine heap_old (by (try simp only [World.size_alloc, World.size_setCell, World.size_drew, World.heap_drewN]); omega) ?_) | (with_reducible refine heap_drew ?_) | (with_reducible refine heap_far (by omega) ?_) | (with_reducible apply heap_at))); all_goals rfl)
      rintro w1 ⟨b_w1, s0_w1⟩
      have a_w1 := a_wr.trans b_w1
      have r0_w1 := own_row s0_w1
      have f0_w1 := own_free s0_w1
      have l0_w1 := own_lt s0_w1
      have z_w1 := b_w1.below.size
      have d1 : w1.cell? ⟨G, j, none⟩ = some (.int .i64 x) := (b_w1.below.cell gl).trans d0
      apply wp_region_free (15) [⟨12, 29, .int .i64 y, false, fun v _ => v = .int .i64 y⟩] [] rfl (by kernel_rfl) (by kernel_rfl) (by kernel_rfl) (by simp) (by kernel_rfl)
      case hstab =>
        intro c hc
        simp only [List.mem_cons, List.not_mem_nil, or_false] at hc
        rcases hc with rfl
        · intro v x y hxy hv; exact hv
      case hfix =>
        intro c hc
        simp only [List.mem_cons, List.not_mem_nil, or_false] at hc
        rcases hc with rfl
        · exact .inr fun u x h => h
      case hlex =>
        intro U hU
        have q0 := own_row (any_own hU s0_w1)
        have q_d1 := cell_on hU d1
        simp only [List.map_cons, List.map_nil, CA.act, actFrom, actOp, List.lookup, Nat.reduceBEq, Nat.reduceLeDiff, Nat.reduceAdd, if_false, if_true]
        repeat (go_big_quiet_step (first | fail))
        exact wpQuiet_nil rfl
      case hstep =>
        intro j hj o ho
        have hj2 : j = 0 := by simp at hj; omega
        rcases hj2 with rfl
        · cases ho
          refine ⟨rfl, fun g x hx hp => ?_⟩
          clear hp
          simp only [fillAll, Act.put, List.setIfInBounds_toArray, List.set_cons_zero, List.set_cons_succ]
          refine chain_go ?_ (free_fix (HW.out x))
          first | (simp [go_sem, execOp]; done) | simp [go_sem, execOp, hcf]
      case htail =>
        intro g u hst hne
        have b_w2 : AnyLater w1 (later u) := ⟨u, rfl⟩
        generalize later u = w2 at *
        clear u
        clear hst hne
        simp only [fillAll, Act.put, List.setIfInBounds_toArray, List.set_cons_zero, List.set_cons_succ, List.drop_succ_cons, List.drop_zero, List.drop_nil]
        have z_w2 := b_w2.below.size
        have a_w2 := a_w1.trans b_w2
        have s0_w2 := any_own b_w2 s0_w1
        have r0_w2 := own_row s0_w2
        have f0_w2 := own_free s0_w2
        have l0_w2 := own_lt s0_w2
        (try clear r0_w1); (try clear f0_w1)
        have d1_w2 := cell_on b_w2 d1
        have b02 := b_w1.trans b_w2
        have hb2 := any_own b02 HBK.out
        have fz := own_free hb2 (j + 1)
        have e1 : w2.cell? ⟨G, j + 1, none⟩ = some (.int .i64 z) := by rw [own_row hb2]; exact HZ.out
        have hB2 := own_lt hb2
        have HA2 := Lib.hid (a_w2.setCell (p := ⟨G, j + 1, none⟩) (by rw [HG.out]; exact Nat.le_refl _) (.int .i64 (x + y)))
        have HO2 : Hid (ON .i64 3 (w2.setCell ⟨G, j + 1, none⟩ (.int .i64 (x + y))) G (.slice (some ⟨G, 0, none⟩) (n + 1) (n + 1)) (fillX l n (j + 1))) := Lib.hid (by
          rw [← HFS.out, HE.out]
          exact (ON.later b02 HO.out).set (x + y))
        go_wp2_with fail
        go_roundg (n - (j + 1))
        case measure => omega
        case rel => exact ⟨HA2.out, j + 1, rfl, by omega, by go_num, HO2.out⟩
    · obtain rfl : j = n := by omega
      have HE : Hid (ON .i64 3 wr G (.slice (some ⟨G, 0, none⟩) (j + 1) (j + 1)) (xsC 0 l)) := Lib.hid (by rw [← fillX_end HL.out]; exact ho)
      clear a_wr ho
      go_wp2_with fail
      go_ret
      exact ⟨_, rfl, HA.out, HE.out⟩
end Go.Proofs.YteplnejnhgmfiaaDoor
