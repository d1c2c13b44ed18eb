/- seq: the document's May, All, Sum, Find: by contract. -/
import Derived.Test.YtjoadlfkdkeomaaSeqP
import Derived.Test.YtjoadlfkdkeomaaFree
import Derived.Test.YtjoadlfkdkeomaaClc
import Derived.Test.YtjoadlfkdkeomaaStor
import Derived.LoopN
import Derived.Deep.LoopGhost
import Derived.BigRegion
import Derived.RegionTactic
import Derived.Shelf.Abstract
import Derived.ChangeKeysEq
import Derived.Deep.DeepCutAuto
import Derived.Deep.CutBlock
namespace Go.Proofs.Ytjoadlfkdkeomaa
set_option linter.unusedSimpArgs false
set_option linter.unusedVariables false
set_option linter.unusedSectionVars false
open Go.RowKit


/-! ### the document's answers -/
theorem rmay_any (a b : Int) (c : Bool) (w : World) (hc : (!tlBad (a, b)) = c) : Calls Try.prog 29 #[.agg #[.int .i64 a, .int .i64 b]] w fun e w' => e = .returned (.bool c) ∧ AnyLater w w' := by
  unfold tlBad at hc
  by_cases h1 : 0 ≤ a
  · by_cases h2 : a ≤ 16777216
    · by_cases h3 : 0 ≤ b
      · by_cases h4 : b ≤ 16777216
        · obtain rfl : true = c := by rw [← hc]; simp; omega
          clear hc
          go_enter Try.func29, Try.ntmps29
          go_wp2_with fail
          go_ret
          exact ⟨rfl, by repeat' (first | with_reducible assumption | with_reducible exact AnyLater.refl _ | with_reducible apply AnyLater.setCell | with_reducible apply AnyLater.later | with_reducible apply AnyLater.drewN | with_reducible apply AnyLater.drew | with_reducible apply AnyLater.alloc | ((try simp only [World.size_alloc, World.size_setCell, World.size_drew]); (try dsimp only); omega))⟩
        · obtain rfl : false = c := by rw [← hc]; simp; omega
          clear hc
          have d4 : decide (b ≤ 16777216) = false := decide_eq_false h4
          go_enter Try.func29, Try.ntmps29
          go_wp2_with fail
          go_ret
          exact ⟨rfl, by repeat' (first | with_reducible assumption | with_reducible exact AnyLater.refl _ | with_reducible apply AnyLater.setCell | with_reducible apply AnyLater.later | with_reducible apply AnyLater.drewN | with_reducible apply AnyLater.drew | with_reducible apply AnyLater.alloc | ((try simp only [World.size_alloc, World.size_setCell, World.size_drew]); (try dsimp only); omega))⟩
      · obtain rfl : false = c := by rw [← hc]; simp; omega
        clear hc
        have d3 : decide (0 ≤ b) = false := decide_eq_false h3
        go_enter Try.func29, Try.ntmps29
        go_wp2_with fail
        go_ret
        exact ⟨rfl, by repeat' (first | with_reducible assumption | with_reducible exact AnyLater.refl _ | with_reducible apply AnyLater.setCell | with_reducible apply AnyLater.later | with_reducible apply AnyLater.drewN | with_reducible apply AnyLater.drew | with_reducible apply AnyLater.alloc | ((try simp only [World.size_alloc, World.size_setCell, World.size_drew]); (try dsimp only); omega))⟩
    · obtain rfl : false = c := by rw [← hc]; simp; omega
      clear hc
      have d2 : decide (a ≤ 16777216) = false := decide_eq_false h2
      go_enter Try.func29, Try.ntmps29
      go_wp2_with fail
      go_ret
      exact ⟨rfl, by repeat' (first | with_reducible assumption | with_reducible exact AnyLater.refl _ | with_reducible apply AnyLater.setCell | with_reducible apply AnyLater.later | with_reducible apply AnyLater.drewN | with_reducible apply AnyLater.drew | with_reducible apply AnyLater.alloc | ((try simp only [World.size_alloc, World.size_setCell, World.size_drew]); (try dsimp only); omega))⟩
  · obtain rfl : false = c := by rw [← hc]; simp; omega
    clear hc
    have d1 : decide (0 ≤ a) = false := decide_eq_false h1
    go_enter Try.func29, Try.ntmps29
    go_wp2_with fail
    go_ret
    exact ⟨rfl, by repeat' (first | with_reducible assumption | with_reducible exact AnyLater.refl _ | with_reducible apply AnyLater.setCell | with_reducible apply AnyLater.later | with_reducible apply AnyLater.drewN | with_reducible apply AnyLater.drew | with_reducible apply AnyLater.alloc | ((try simp only [World.size_alloc, World.size_setCell, World.size_drew]); (try dsimp only); omega))⟩
set_option maxRecDepth 100000 in
set_option maxHeartbeats 1600000 in
theorem rall_any (v : Value) (l : Qs) (c : Bool) (w : World) (hc : (!l.any tlBad) = c) (hv : QR w v l) (hl : l.length ≤ 90000) : Calls Try.prog 8 #[v] w fun e w' => e = .returned (.bool c) ∧ AnyLater w w' := by
  obtain ⟨A, cap, rfl, h2, h3⟩ := hv
  have HCC : Hid (∀ (j : Nat) (h : j < l.length), ∃ b off, A = some ⟨b, off, none⟩ ∧ b < w.heap.size ∧ w.cell? ⟨b, off + j * 2, none⟩ = some (.int .i64 l[j].1) ∧ w.cell? ⟨b, off + j * 2 + 1, none⟩ = some (.int .i64 l[j].2)) := Lib.hid (fun j hj => by
    obtain ⟨b, off, e, hb, hc⟩ := h3 (by omega)
    exact ⟨b, off, e, hb, hc j hj⟩)
  have HM := Lib.hid (fun a b c w hc => rmay_any a b c w hc)
  have HC := Lib.hid hc
  obtain ⟨n, hnn⟩ : ∃ n, l.length = n := ⟨_, rfl⟩
  have HN := Lib.hid hnn
  rw [hnn] at h2 hl ⊢
  clear h3 hc hnn
  go_enter Try.func8, Try.ntmps8
  go_wp2_with fail
  go_loopg [3] n (fun kk i wr => ∃ j : Nat, kk = n - j ∧ j ≤ n ∧ i = .int .i64 j ∧ AnyLater w wr ∧ (l.take j).any tlBad = false)
  case atStart => exact ⟨0, by omega, by omega, rfl, AnyLater.refl _, by simp⟩
  case round =>
    obtain ⟨j, hk, hj, rfl, a_wr, hf⟩ := hrel
    have HF := Lib.hid hf
    clear hf
    by_cases hlt : j < n
    · have lj : j < l.length := by rw [HN.out]; exact hlt
      obtain ⟨b, off, rfl, hb, k0, k1⟩ := HCC.out j lj
      have c0 : wr.cell? ⟨b, off + j * 2, none⟩ = some (.int .i64 l[j].1) := (a_wr.below.cell hb).trans k0
      have c1 : wr.cell? ⟨b, off + j * 2 + 1, none⟩ = some (.int .i64 l[j].2) := (a_wr.below.cell hb).trans k1
      have HT : Hid ((l.take (j + 1)).any tlBad = ((l.take j).any tlBad || tlBad l[j])) := Lib.hid (by rw [List.take_succ_eq_append_getElem lj, List.any_append]; simp)
      have HX : Hid (tlBad l[j] = true → l.any tlBad = true) := Lib.hid (fun h => List.any_eq_true.2 ⟨_, List.getElem_mem lj, h⟩)
      clear k0 k1
      generalize l[j] = x at *
      obtain ⟨f, t⟩ := x
      simp only at c0 c1
      cases hp : tlBad (f, t) with
      | true =>
        have HM1 := Lib.hid (HM.out f t false wr (by rw [hp]; rfl))
        have HE : Hid (false = c) := Lib.hid (by rw [← HC.out, HX.out hp]; rfl)
        clear hp HT HX
        go_wp2_with fail
        refine HM1.out.mono ?_
        rintro e w1 ⟨rfl, b_w1⟩
        go_wp2_with fail
        go_ret
        exact ⟨ret_bool HE.out, a_wr.trans b_w1⟩
      | false =>
        have HM1 := Lib.hid (HM.out f t true wr (by rw [hp]; rfl))
        have HE : Hid ((l.take (j + 1)).any tlBad = false) := Lib.hid (by rw [HT.out, HF.out, hp]; rfl)
        clear hp HT HX
        go_wp2_with fail
        refine HM1.out.mono ?_
        rintro e w1 ⟨rfl, b_w1⟩
        go_wp2_with fail
        go_roundg (n - (j + 1))
        case measure => omega
        case rel => exact ⟨j + 1, rfl, hlt, by go_num, a_wr.trans b_w1, HE.out⟩
    · obtain rfl : j = n := by omega
      have HE : Hid (true = c) := Lib.hid (by
        have := HF.out
        rw [List.take_of_length_le (Nat.le_of_eq HN.out)] at this
        rw [← HC.out, this]; rfl)
      go_wp2_with fail
      go_ret
      exact ⟨ret_bool HE.out, a_wr⟩
set_option maxRecDepth 100000 in
set_option maxHeartbeats 1600000 in
theorem rsum_any (v : Value) (l : Qs) (i : Int) (w : World) (R H : Int) (hR : tlR (l.take (sumN l i)) = R) (hH : tlH (l.take (sumN l i)) = H) (hv : QR w v l) (hl : l.length ≤ 90000) (hT : Tls l) : Calls Try.prog 19 #[v, .int .i64 i] w fun e w' => e = .returned (.agg #[.int .i64 R, .int .i64 H]) ∧ AnyLater w w' := by
  obtain ⟨A, cap, rfl, h2, h3⟩ := hv
  have HCC : Hid (∀ (j : Nat) (h : j < l.length), ∃ b off, A = some ⟨b, off, none⟩ ∧ b < w.heap.size ∧ w.cell? ⟨b, off + j * 2, none⟩ = some (.int .i64 l[j].1) ∧ w.cell? ⟨b, off + j * 2 + 1, none⟩ = some (.int .i64 l[j].2)) := Lib.hid (fun j hj => by
    obtain ⟨b, off, e, hb, hc⟩ := h3 (by omega)
    exact ⟨b, off, e, hb, hc j hj⟩)
  have HTk : Hid (∀ (j : Nat) (h : j < l.length), tlR (l.take (j + 1)) = tlR (l.take j) + l[j].1 ∧ tlH (l.take (j + 1)) = tlH (l.take j) + l[j].2) := Lib.hid (fun j h => tl_take h)
  have HB : Hid (∀ j, (0 ≤ tlR (l.take j) ∧ tlR (l.take j) ≤ 2000000000000) ∧ 0 ≤ tlH (l.take j) ∧ tlH (l.take j) ≤ 2000000000000) := Lib.hid (hT.bound hl)
  obtain ⟨m, hm⟩ : ∃ m, sumN l i = m := ⟨_, rfl⟩
  have hms : m ≤ l.length ∧ (∀ j : Nat, j < m → (j : Int) < i) ∧ (m < l.length → i ≤ (m : Int)) := by
    rw [← hm]
    unfold sumN clcClamp
    split
    · exact ⟨by omega, fun j hj => by omega, fun _ => by omega⟩
    · split
      · exact ⟨by omega, fun j hj => by omega, fun h => by omega⟩
      · exact ⟨by omega, fun j hj => by omega, fun h => by omega⟩
  rw [hm] at hR hH
  have HRH := Lib.hid (And.intro hR hH)
  obtain ⟨hm1, hm2, hm3⟩ := hms
  have HM := Lib.hid (And.intro hm2 hm3)
  obtain ⟨n, hnn⟩ : ∃ n, l.length = n := ⟨_, rfl⟩
  have HN := Lib.hid hnn
  rw [hnn] at h2 hl hm1 HM ⊢
  clear h3 hnn hT hm2 hm3 hR hH hm
  go_enter Try.func19, Try.ntmps19
  go_wp2_with fail
  first | refine settle_wp (fun wS => AnyLater w wS ∧ wS.heap[w.heap.size]? = some (.cells #[.int .i64 0, .int .i64 0] 33) ∧ wS.heap[w.heap.size + 1]? = some (.cells #[.int .i64 0, .int .i64 0] 33)) ?_ ?_ | refine settle_calls (fun wS => AnyLater w wS ∧ wS.heap[w.heap.size]? = some (.cells #[.int .i64 0, .int .i64 0] 33) ∧ wS.heap[w.heap.size + 1]? = some (.cells #[.int .i64 0, .int .i64 0] 33)) ?_ ?_
  · refine ⟨?_, ?_, ?_⟩
    · repeat' (first | with_reducible assumption | with_reducible exact AnyLater.refl _ | with_reducible apply AnyLater.setCell | with_reducible apply AnyLater.later | with_reducible apply AnyLater.drewN | with_reducible apply AnyLater.drew | with_reducible apply AnyLater.alloc | ((try simp only [World.size_alloc, World.size_setCell, World.size_drew]); (try dsimp only); omega))
    · ((repeat (first | with_reducible assumption | ((with_reducible apply heap_new); (try simp only [World.size_alloc, World.size_setCell, World.size_drew, World.heap_drewN]); done) | ((with_reducible apply heap_new); (try simp only [World.size_alloc, World.size_setCell, World.size_drew, World.heap_drewN]); omega) | (with_reducible refine heap_old (by (try simp only [World.size_alloc, World.size_setCell, World.size_drew, World.heap_drewN]); omega) ?_) | (with_reducible refine heap_drew ?_) | (with_reducible refine heap_far (by omega) ?_) | (with_reducible apply heap_at))); all_goals rfl)
    · ((repeat (first | with_reducible assumption | ((with_reducible apply heap_new); (try simp only [World.size_alloc, World.size_setCell, World.size_drew, World.heap_drewN]); done) | ((with_reducible apply heap_new); (try simp only [World.size_alloc, World.size_setCell, World.size_drew, World.heap_drewN]); omega) | (with_reducible refine heap_old (by (try simp only [World.size_alloc, World.size_setCell, World.size_drew, World.heap_drewN]); omega) ?_) | (with_reducible refine heap_drew ?_) | (with_reducible refine heap_far (by omega) ?_) | (with_reducible apply heap_at))); all_goals rfl)
  rintro w1 ⟨b_w1, s0_w1, s1_w1⟩
  have a_w1 := b_w1
  have r0_w1 := own_row s0_w1
  have f0_w1 := own_free s0_w1
  have l0_w1 := own_lt s0_w1
  have r1_w1 := own_row s1_w1
  have f1_w1 := own_free s1_w1
  have l1_w1 := own_lt s1_w1
  have z_w1 := b_w1.below.size
  go_wp2_with fail
  go_loopg [6] m (fun kk iv wr => ∃ j : Nat, kk = m - j ∧ j ≤ m ∧ iv = .int .i64 j ∧ AnyLater w wr ∧ wr.heap[w.heap.size]? = some (.cells #[.int .i64 0, .int .i64 0] 33) ∧ wr.heap[w.heap.size + 1]? = some (.cells #[.int .i64 (tlR (l.take j)), .int .i64 (tlH (l.take j))] 33))
  case atStart => exact ⟨0, by omega, by omega, rfl, a_w1, s0_w1, by simpa [tlR, tlH] using s1_w1⟩
  case round =>
    obtain ⟨j, hk, hj, rfl, a_wr, s0_wr, s1_wr⟩ := hrel
    have z_wr := a_wr.below.size
    have r0_wr := own_row s0_wr
    have f0_wr := own_free s0_wr
    have l0_wr := own_lt s0_wr
    by_cases hlt : j < m
    · have lj : j < l.length := by rw [HN.out]; omega
      have hlt2 : j < n := by omega
      have hji := HM.out.1 j hlt
      obtain ⟨b, off, rfl, hb, k0, k1⟩ := HCC.out j lj
      have c0 : wr.cell? ⟨b, off + j * 2, none⟩ = some (.int .i64 l[j].1) := (a_wr.below.cell hb).trans k0
      have c1 : wr.cell? ⟨b, off + j * 2 + 1, none⟩ = some (.int .i64 l[j].2) := (a_wr.below.cell hb).trans k1
      have hb2 : b < wr.heap.size := Nat.lt_of_lt_of_le hb z_wr
      have hne : b ≠ w.heap.size + 1 := by omega
      obtain ⟨t1, t2⟩ := HTk.out j lj
      obtain ⟨⟨p1, p2⟩, p3, p4⟩ := HB.out (j + 1)
      obtain ⟨R1, e1⟩ : ∃ R1, tlR (l.take (j + 1)) = R1 := ⟨_, rfl⟩
      obtain ⟨H1, e2⟩ : ∃ H1, tlH (l.take (j + 1)) = H1 := ⟨_, rfl⟩
      have HR1 := Lib.hid (And.intro e1 e2)
      rw [e1] at t1 p1 p2
      rw [e2] at t2 p3 p4
      clear e1 e2
      generalize tlR (l.take j) = R0 at *
      generalize tlH (l.take j) = H0 at *
      clear k0 k1
      generalize l[j] = x at *
      obtain ⟨f, t⟩ := x
      simp only at c0 c1 t1 t2
      have r1_wr := own_row s1_wr
      have f1_wr := own_free s1_wr
      have l1_wr := own_lt s1_wr
      have t1' : R0 + f = R1 := t1.symm
      have t2' : H0 + t = H1 := t2.symm
      clear t1 t2
      go_wp2_with fail
      go_region
      go_wp2_with fail
      go_roundg (m - (j + 1))
      case measure => omega
      case rel =>
        refine ⟨j + 1, rfl, hlt, by go_num, ?_, ?_, ?_⟩
        · repeat' (first | with_reducible assumption | with_reducible exact AnyLater.refl _ | with_reducible apply AnyLater.setCell | with_reducible apply AnyLater.later | with_reducible apply AnyLater.drewN | with_reducible apply AnyLater.drew | with_reducible apply AnyLater.alloc | ((try simp only [World.size_alloc, World.size_setCell, World.size_drew]); (try dsimp only); omega))
        · ((repeat (first | with_reducible assumption | ((with_reducible apply heap_new); (try simp only [World.size_alloc, World.size_setCell, World.size_drew, World.heap_drewN]); done) | ((with_reducible apply heap_new); (try simp only [World.size_alloc, World.size_setCell, World.size_drew, World.heap_drewN]); omega) | (with_reducible refine heap_old (by (try simp only [World.size_alloc, World.size_setCell, World.size_drew, World.heap_drewN]); omega) ?_) | (with_reducible refine heap_drew ?_) | (with_reducible refine heap_far (by omega) ?_) | (with_reducible apply heap_at))); all_goals rfl)
        · rw [HR1.out.1, HR1.out.2]
          ((repeat (first | with_reducible assumption | ((with_reducible apply heap_new); (try simp only [World.size_alloc, World.size_setCell, World.size_drew, World.heap_drewN]); done) | ((with_reducible apply heap_new); (try simp only [World.size_alloc, World.size_setCell, World.size_drew, World.heap_drewN]); omega) | (with_reducible refine heap_old (by (try simp only [World.size_alloc, World.size_setCell, World.size_drew, World.heap_drewN]); omega) ?_) | (with_reducible refine heap_drew ?_) | (with_reducible refine heap_far (by omega) ?_) | (with_reducible apply heap_at))); all_goals rfl)
    · obtain rfl : j = m := by omega
      obtain ⟨e1, e2⟩ := HRH.out
      rw [e1, e2] at s1_wr
      have r1_wr := own_row s1_wr
      have l1_wr := own_lt s1_wr
      by_cases hjn : j < n
      · have hij := HM.out.2 hjn
        go_wp2_with fail
        refine bodyPost_ret (v := .agg #[.int .i64 R, .int .i64 H]) (by simp [results, Try.results19, go_sem, *]) rfl ⟨rfl, ?_⟩
        repeat' (first | with_reducible assumption | with_reducible exact AnyLater.refl _ | with_reducible apply AnyLater.setCell | with_reducible apply AnyLater.later | with_reducible apply AnyLater.drewN | with_reducible apply AnyLater.drew | with_reducible apply AnyLater.alloc | ((try simp only [World.size_alloc, World.size_setCell, World.size_drew]); (try dsimp only); omega))
      · have d1 : decide (j < n) = false := decide_eq_false hjn
        go_wp2_with fail
        refine bodyPost_ret (v := .agg #[.int .i64 R, .int .i64 H]) (by simp [results, Try.results19, go_sem, *]) rfl ⟨rfl, ?_⟩
        repeat' (first | with_reducible assumption | with_reducible exact AnyLater.refl _ | with_reducible apply AnyLater.setCell | with_reducible apply AnyLater.later | with_reducible apply AnyLater.drewN | with_reducible apply AnyLater.drew | with_reducible apply AnyLater.alloc | ((try simp only [World.size_alloc, World.size_setCell, World.size_drew]); (try dsimp only); omega))
end Go.Proofs.Ytjoadlfkdkeomaa
