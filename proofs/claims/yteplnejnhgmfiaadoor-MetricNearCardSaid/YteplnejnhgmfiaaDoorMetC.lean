/- metric: Sum and Row, of the program and of the document: by contract. -/
import Derived.Test.YteplnejnhgmfiaaDoorMetB
namespace Go.Proofs.YteplnejnhgmfiaaDoor
set_option linter.unusedSimpArgs false
set_option linter.unusedVariables false
set_option linter.unusedSectionVars false
open Go.RowKit

set_option maxRecDepth 100000 in
set_option maxHeartbeats 1600000 in
theorem msum_any (v : Value) (L : List Ld) (w : World) (s : Int) (hs : sumL L = s) (hv : LR w v L) (hN : LdsOk L) (hl : L.length ≤ 1000) : Calls Tryd.prog 18 #[v] w fun e w' => e = .returned (.int .i64 s) ∧ AnyLater w w' := by
  obtain ⟨A, cap, rfl, hc⟩ := hv.form
  have HV := Lib.hid hv
  have HNN := Lib.hid hN
  have HS := Lib.hid hs
  obtain ⟨n, hn⟩ : ∃ n, L.length = n := ⟨_, rfl⟩
  have HL := Lib.hid hn
  rw [hn] at HV hc hl ⊢
  clear hv hN hn hs
  go_enter Tryd.func18, Tryd.ntmps18
  go_wp2_with fail
  go_loopg [3, 8] n (fun kk sv iv wr => AnyLater w wr ∧ ∃ j : Nat, kk = n - j ∧ j ≤ n ∧ iv = .int .i64 j ∧ sv = .int .i64 (sumL (L.take j)))
  case atStart => exact ⟨AnyLater.refl w, 0, by omega, by omega, rfl, rfl⟩
  case round =>
    obtain ⟨a_wr, j, hk, hj, rfl, rfl⟩ := hrel
    have HA := Lib.hid a_wr
    have hx := sumL_in (L.take j)
    rw [List.length_take, HL.out, Nat.min_eq_left hj] at hx
    by_cases hlt : j < n
    · have lj : j < L.length := by rw [HL.out]; exact hlt
      have i0 : (j : Int) < (n : Int) := by omega
      have HT := Lib.hid (sumL_take lj)
      obtain ⟨x, hxx⟩ : ∃ x, sumL (L.take j) = x := ⟨_, rfl⟩
      rw [hxx] at hx HT ⊢
      obtain ⟨x0, x1⟩ := hx
      obtain ⟨b, off, a1, k1, a2, k2, rfl, hb, -, d0, d1, d2, d3, d4, d5, d6⟩ := ldAt (HV.out.later a_wr) j lj
      have hok := HNN.out L[j] (List.getElem_mem lj)
      obtain ⟨p, hp⟩ : ∃ p, L[j] = p := ⟨_, rfl⟩
      rw [hp] at HT d0 d1 d2 d3 d4 d5 d6 hok
      obtain ⟨y, hy⟩ : ∃ y, htL p = y := ⟨_, rfl⟩
      have hyb := htL_in p
      rw [hy] at hyb HT
      obtain ⟨y0, y1⟩ := hyb
      have HH := Lib.hid (fun w => mheight_any a1 a2 p.cs.length k1 p.xs.length k2 p.up p.dn p.fr p.en p.la w y hy hok.1.1 hok.1.2.1)
      clear hxx hp hok hy
      go_wp2_with fail
      first | refine settle_wp (fun wS => AnyLater wr wS ∧ wS.heap[wr.heap.size]? = some (.cells #[.slice a1 p.cs.length k1, .slice a2 p.xs.length k2, .int .i64 p.up, .int .i64 p.dn, .int .i64 p.fr, .int .i64 p.en, .bool p.la] 43)) ?_ ?_ | refine settle_calls (fun wS => AnyLater wr wS ∧ wS.heap[wr.heap.size]? = some (.cells #[.slice a1 p.cs.length k1, .slice a2 p.xs.length k2, .int .i64 p.up, .int .i64 p.dn, .int .i64 p.fr, .int .i64 p.en, .bool p.la] 43)) ?_ ?_
      · refine ⟨?_, ?_⟩
        · repeat' (first | with_reducible assumption | with_reducible exact AnyLater.refl _ | with_reducible apply AnyLater.setCell | with_reducible apply AnyLater.later | with_reducible apply AnyLater.drewN | with_reducible apply AnyLater.drew | with_reducible apply AnyLater.alloc | ((try simp only [World.size_alloc, World.size_setCell, World.size_drew]); (try dsimp only); omega))
        · ((repeat (first | with_reducible assumption | ((with_reducible apply heap_new); (try simp only [World.size_alloc, World.size_setCell, World.size_drew, World.heap_drewN]); done) | ((with_reducible apply heap_new); (try simp only [World.size_alloc, World.size_setCell, World.size_drew, World.heap_drewN]); omega) | (with_reducible refine heap_old (by (try simp only [World.size_alloc, World.size_setCell, World.size_drew, World.heap_drewN]); omega) ?_) | (with_reducible refine heap_drew ?_) | (with_reducible refine heap_far (by omega) ?_) | (with_reducible apply heap_at))); all_goals rfl)
      rintro w1 ⟨b_w1, s0_w1⟩
      have a_w1 := a_wr.trans b_w1
      have r0_w1 := own_row s0_w1
      have f0_w1 := own_free s0_w1
      have l0_w1 := own_lt s0_w1
      have z_w1 := b_w1.below.size
      refine (HH.out _).mono ?_
      rintro e w2 ⟨rfl, b_w2⟩
      have HB := Lib.hid (HA.out.trans (b_w1.trans b_w2))
      clear b_w2
      go_wp2_with fail
      go_roundg (n - (j + 1))
      case measure => omega
      case rel => exact ⟨HB.out, j + 1, rfl, by omega, by go_num, by rw [HT.out]⟩
    · obtain rfl : j = n := by omega
      have HE : Hid (sumL (L.take j) = s) := Lib.hid (by rw [← HS.out, List.take_of_length_le (by rw [HL.out]; exact Nat.le_refl _)])
      clear a_wr
      go_wp2_with fail
      go_ret
      exact ⟨ret_i64 HE.out, HA.out⟩
set_option maxRecDepth 100000 in
set_option maxHeartbeats 1600000 in
theorem xsum_any (v : Value) (L : List Ld) (w : World) (s : Int) (hs : sumL L = s) (hv : LR w v L) (hN : LdsOk L) (hl : L.length ≤ 1000) : Calls Tryd.prog 19 #[v] w fun e w' => e = .returned (.int .i64 s) ∧ AnyLater w w' := by
  obtain ⟨A, cap, rfl, hc⟩ := hv.form
  have HV := Lib.hid hv
  have HNN := Lib.hid hN
  have HS := Lib.hid hs
  obtain ⟨n, hn⟩ : ∃ n, L.length = n := ⟨_, rfl⟩
  have HL := Lib.hid hn
  rw [hn] at HV hc hl ⊢
  clear hv hN hn hs
  go_enter Tryd.func19, Tryd.ntmps19
  go_wp2_with fail
  go_loopg [3, 4] n (fun kk sv iv wr => AnyLater w wr ∧ ∃ j : Nat, kk = n - j ∧ j ≤ n ∧ iv = .int .i64 j ∧ sv = .int .i64 (sumL (L.take j)))
  case atStart => exact ⟨AnyLater.refl w, 0, by omega, by omega, rfl, rfl⟩
  case round =>
    obtain ⟨a_wr, j, hk, hj, rfl, rfl⟩ := hrel
    have HA := Lib.hid a_wr
    have hx := sumL_in (L.take j)
    rw [List.length_take, HL.out, Nat.min_eq_left hj] at hx
    by_cases hlt : j < n
    · have lj : j < L.length := by rw [HL.out]; exact hlt
      have i0 : (j : Int) < (n : Int) := by omega
      have HT := Lib.hid (sumL_take lj)
      obtain ⟨x, hxx⟩ : ∃ x, sumL (L.take j) = x := ⟨_, rfl⟩
      rw [hxx] at hx HT ⊢
      obtain ⟨x0, x1⟩ := hx
      obtain ⟨b, off, a1, k1, a2, k2, rfl, hb, -, d0, d1, d2, d3, d4, d5, d6⟩ := ldAt (HV.out.later a_wr) j lj
      have hok := HNN.out L[j] (List.getElem_mem lj)
      obtain ⟨p, hp⟩ : ∃ p, L[j] = p := ⟨_, rfl⟩
      rw [hp] at HT d0 d1 d2 d3 d4 d5 d6 hok
      obtain ⟨y, hy⟩ : ∃ y, htL p = y := ⟨_, rfl⟩
      have hyb := htL_in p
      rw [hy] at hyb HT
      obtain ⟨y0, y1⟩ := hyb
      have HH := Lib.hid (fun w => xheight_any a1 a2 p.cs.length k1 p.xs.length k2 p.up p.dn p.fr p.en p.la w y hy hok.1.1 hok.1.2.1)
      clear hxx hp hok hy
      go_wp2_with fail
      refine (HH.out _).mono ?_
      rintro e w2 ⟨rfl, b_w2⟩
      have HB := Lib.hid (HA.out.trans b_w2)
      clear b_w2
      go_wp2_with fail
      go_roundg (n - (j + 1))
      case measure => omega
      case rel => exact ⟨HB.out, j + 1, rfl, by omega, by go_num, by rw [HT.out]⟩
    · obtain rfl : j = n := by omega
      have HE : Hid (sumL (L.take j) = s) := Lib.hid (by rw [← HS.out, List.take_of_length_le (by rw [HL.out]; exact Nat.le_refl _)])
      clear a_wr
      go_wp2_with fail
      go_ret
      exact ⟨ret_i64 HE.out, HA.out⟩
end Go.Proofs.YteplnejnhgmfiaaDoor
