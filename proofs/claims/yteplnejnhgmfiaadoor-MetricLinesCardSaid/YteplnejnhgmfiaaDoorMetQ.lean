/- metric, the document: Same of rows that are the same. -/
import Derived.Test.YteplnejnhgmfiaaDoorMetP
namespace Go.Proofs.YteplnejnhgmfiaaDoor
set_option linter.unusedSimpArgs false
set_option linter.unusedVariables false
set_option linter.unusedSectionVars false
open Go.RowKit

set_option maxRecDepth 100000 in
set_option maxHeartbeats 1600000 in
theorem lsame_yes (v v2 : Value) (L : List Ld) (w : World) (h : LR w v L) (h2 : LR w v2 L) (hn : L.length ≤ 1000) (hC : ∀ r ∈ L, r.cs.length ≤ 100000 ∧ r.xs.length ≤ 100000) :
    Calls Tryd.prog 12 #[v, v2] w fun e w' => e = .returned (.bool true) ∧ AnyLater w w' := by
  obtain ⟨A, cap, rfl, hc⟩ := h.form
  obtain ⟨A2, cap2, rfl, hc2⟩ := h2.form
  have H := Lib.hid (And.intro h h2)
  have HC := Lib.hid hC
  obtain ⟨n, hl⟩ : ∃ n, L.length = n := ⟨_, rfl⟩
  have HL := Lib.hid hl
  rw [hl] at H hc hc2 hn ⊢
  clear h h2 hl hC
  go_enter Tryd.func12, Tryd.ntmps12
  go_wp2_with fail
  go_loopg [5] n (fun k i wr => AnyLater w wr ∧ ∃ j : Nat, k = n - j ∧ j ≤ n ∧ i = .int .i64 j)
  case atStart => exact ⟨AnyLater.refl _, 0, by omega, by omega, rfl⟩
  case round =>
    obtain ⟨a_wo, j, hk, hj, rfl⟩ := hrel
    generalize wr = wo at *
    have HA := Lib.hid a_wo
    by_cases hlt : j < n
    · have lj : j < L.length := by rw [HL.out]; exact hlt
      have i1 : (j : Int) < (n : Int) := by omega
      obtain ⟨b, off, a1, k1, a2, k2, rfl, hb, hx1, c0, c1, c2, c3, c4, c5, c6⟩ := ldAt (H.out.1.later a_wo) j lj
      obtain ⟨b', off', e1, m1, e2, m2, rfl, hb', hx2, d0, d1, d2, d3, d4, d5, d6⟩ := ldAt (H.out.2.later a_wo) j lj
      have hlen := HC.out L[j] (List.getElem_mem lj)
      obtain ⟨r, hr⟩ : ∃ r, L[j] = r := ⟨_, rfl⟩
      rw [hr] at hx1 hx2 hlen c0 c1 c2 c3 c4 c5 c6 d0 d1 d2 d3 d4 d5 d6
      obtain ⟨n1, hn1⟩ : ∃ n1, r.cs.length = n1 := ⟨_, rfl⟩
      obtain ⟨n2, hn2⟩ : ∃ n2, r.xs.length = n2 := ⟨_, rfl⟩
      have HN := Lib.hid (And.intro hn1 hn2)
      have hlen1 := hlen.1
      have HX := Lib.hid (fun w2 (a : AnyLater wo w2) => csame_yes _ _ r.cs w2 (hx1.1.later a) (hx2.1.later a) hlen1)
      have HI := Lib.hid (And.intro hx1.2 hx2.2)
      rw [hn1] at HX c0 d0
      rw [hn2] at HI hlen c1 d1
      obtain ⟨-, hlen2⟩ := hlen
      generalize r.up = up at *
      generalize r.dn = dn at *
      generalize r.fr = fr at *
      generalize r.en = en at *
      generalize r.la = la at *
      obtain ⟨xs, hxs⟩ : ∃ xs, r.xs = xs := ⟨_, rfl⟩
      rw [hxs] at HI HN
      clear hx1 hx2 hr hn1 hn2 hlen1 hxs
      go_wp2_with fail
      go_region
      · go_upto_region 7 with fail
        first | refine settle_wp (fun wS => AnyLater wo wS ∧ wS.heap[wo.heap.size]? = some (.cells #[.slice a1 n1 k1, .slice a2 n2 k2, .int .i64 up, .int .i64 dn, .int .i64 fr, .int .i64 en, .bool la] 43) ∧ wS.heap[wo.heap.size + 1]? = some (.cells #[.slice e1 n1 m1, .slice e2 n2 m2, .int .i64 up, .int .i64 dn, .int .i64 fr, .int .i64 en, .bool la] 43)) ?_ ?_ | refine settle_calls (fun wS => AnyLater wo wS ∧ wS.heap[wo.heap.size]? = some (.cells #[.slice a1 n1 k1, .slice a2 n2 k2, .int .i64 up, .int .i64 dn, .int .i64 fr, .int .i64 en, .bool la] 43) ∧ wS.heap[wo.heap.size + 1]? = some (.cells #[.slice e1 n1 m1, .slice e2 n2 m2, .int .i64 up, .int .i64 dn, .int .i64 fr, .int .i64 en, .bool la] 43)) ?_ ?_
        · refine ⟨?_, ?_, ?_⟩
          · repeat' (first | with_reducible assumption | with_reducible exact AnyLater.refl _ | with_reducible apply AnyLater.setCell | with_reducible apply AnyLater.later | with_reducible apply AnyLater.drewN | with_reducible apply AnyLater.drew | with_reducible apply AnyLater.alloc | ((try simp only [World.size_alloc, World.size_setCell, World.size_drew]); (try dsimp only); omega))
          · ((repeat (first | with_reducible assumption | ((with_reducible apply heap_new); (try simp only [World.size_alloc, World.size_setCell, World.size_drew, World.heap_drewN]); done) | ((with_reducible apply heap_new); (try simp only [World.size_alloc, World.size_setCell, World.size_drew, World.heap_drewN]); omega) | (with_reducible refine heap_old (by (try simp only [World.size_alloc, World.size_setCell, World.size_drew, World.heap_drewN]); omega) ?_) | (with_reducible refine heap_drew ?_) | (with_reducible refine heap_far (by omega) ?_) | (with_reducible apply heap_at))); all_goals rfl)
          · ((repeat (first | with_reducible assumption | ((with_reducible apply heap_new); (try simp only [World.size_alloc, World.size_setCell, World.size_drew, World.heap_drewN]); done) | ((with_reducible apply heap_new); (try simp only [World.size_alloc, World.size_setCell, World.size_drew, World.heap_drewN]); omega) | (with_reducible refine heap_old (by (try simp only [World.size_alloc, World.size_setCell, World.size_drew, World.heap_drewN]); omega) ?_) | (with_reducible refine heap_drew ?_) | (with_reducible refine heap_far (by omega) ?_) | (with_reducible apply heap_at))); all_goals rfl)
        rintro w3 ⟨b_w3, s0_w3, s1_w3⟩
        have a_w3 := a_wo.trans b_w3
        have r0_w3 := own_row s0_w3
        have f0_w3 := own_free s0_w3
        have l0_w3 := own_lt s0_w3
        have r1_w3 := own_row s1_w3
        have f1_w3 := own_free s1_w3
        have l1_w3 := own_lt s1_w3
        have z_w3 := b_w3.below.size
        obtain ⟨p, hp⟩ : ∃ p, wo.heap.size = p := ⟨_, rfl⟩
        rw [hp] at s0_w3 s1_w3 r0_w3 r1_w3 f0_w3 f1_w3 l0_w3 l1_w3 ⊢
        clear hp
        go_wp2_with fail
        refine (HX.out _ b_w3).mono ?_
        rintro e w4 ⟨rfl, b_w4⟩
        have z_w4 := b_w4.below.size
        have a_w4 := a_w3.trans b_w4
        have s0_w4 := any_own b_w4 s0_w3
        have s1_w4 := any_own b_w4 s1_w3
        have r0_w4 := own_row s0_w4
        have f0_w4 := own_free s0_w4
        have l0_w4 := own_lt s0_w4
        have r1_w4 := own_row s1_w4
        have f1_w4 := own_free s1_w4
        have l1_w4 := own_lt s1_w4
        (try clear r0_w3); (try clear f0_w3)
        (try clear r1_w3); (try clear f1_w3)
        have b_w4o := b_w3.trans b_w4
        have HI4 := Lib.hid (And.intro (HI.out.1.later b_w4o) (HI.out.2.later b_w4o))
        have HA4 := Lib.hid (HA.out.trans b_w4o)
        clear b_w3 b_w4 b_w4o a_wo a_w3 a_w4 z_w3 l0_w3 l1_w3 HX
        go_wp2_with fail
        go_loopg [8] n2 (fun kk iv ws => AnyLater w4 ws ∧ ∃ i : Nat, kk = n2 - i ∧ i ≤ n2 ∧ iv = .int .i64 i)
        case atStart => exact ⟨AnyLater.refl w4, 0, by omega, by omega, rfl⟩
        case round =>
          obtain ⟨a_wr, i, hki, hin, rfl⟩ := hrel
          have b_wr := a_wr
          have a_w4 := HA4.out
          have z_wr := b_wr.below.size
          have a_wr := a_w4.trans b_wr
          have s0_wr := any_own b_wr s0_w4
          have s1_wr := any_own b_wr s1_w4
          have r0_wr := own_row s0_wr
          have f0_wr := own_free s0_wr
          have l0_wr := own_lt s0_wr
          have r1_wr := own_row s1_wr
          have f1_wr := own_free s1_wr
          have l1_wr := own_lt s1_wr
          (try clear r0_w4); (try clear f0_w4)
          (try clear r1_w4); (try clear f1_w4)
          have HAR := Lib.hid a_wr
          by_cases hlt2 : i < n2
          · have li : i < xs.length := by rw [HN.out.2]; exact hlt2
            have i2 : (i : Int) < (n2 : Int) := by omega
            obtain ⟨b3, off3, rfl, hb3, q0⟩ := numAt (HI4.out.1.later b_wr) i li
            obtain ⟨b4, off4, rfl, hb4, q1⟩ := numAt (HI4.out.2.later b_wr) i li
            generalize xs[i] = y at *
            go_wp2_with fail
            go_quiet (fail)
            go_wp2_with fail
            go_roundg (n2 - (i + 1))
            case measure => omega
            case rel => exact ⟨b_wr.drewN nq, i + 1, rfl, by omega, by go_num⟩
          · obtain rfl : i = n2 := by omega
            go_wp2_with fail
            go_roundg (n - (j + 1))
            case measure => omega
            case rel => exact ⟨HAR.out, j + 1, rfl, by omega, by go_num⟩
      · go_upto_region 7 with fail
        first | refine settle_wp (fun wS => AnyLater wo wS ∧ wS.heap[wo.heap.size + 1]? = some (.cells #[.slice a1 n1 k1, .slice a2 n2 k2, .int .i64 up, .int .i64 dn, .int .i64 fr, .int .i64 en, .bool la] 43) ∧ wS.heap[wo.heap.size]? = some (.cells #[.slice e1 n1 m1, .slice e2 n2 m2, .int .i64 up, .int .i64 dn, .int .i64 fr, .int .i64 en, .bool la] 43)) ?_ ?_ | refine settle_calls (fun wS => AnyLater wo wS ∧ wS.heap[wo.heap.size + 1]? = some (.cells #[.slice a1 n1 k1, .slice a2 n2 k2, .int .i64 up, .int .i64 dn, .int .i64 fr, .int .i64 en, .bool la] 43) ∧ wS.heap[wo.heap.size]? = some (.cells #[.slice e1 n1 m1, .slice e2 n2 m2, .int .i64 up, .int .i64 dn, .int .i64 fr, .int .i64 en, .bool la] 43)) ?_ ?_
        · refine ⟨?_, ?_, ?_⟩
          · repeat' (first | with_reducible assumption | with_reducible exact AnyLater.refl _ | with_reducible apply AnyLater.setCell | with_reducible apply AnyLater.later | with_reducible apply AnyLater.drewN | with_reducible apply AnyLater.drew | with_reducible apply AnyLater.alloc | ((try simp only [World.size_alloc, World.size_setCell, World.size_drew]); (try dsimp only); omega))
          · ((repeat (first | with_reducible assumption | ((with_reducible apply heap_new); (try simp only [World.size_alloc, World.size_setCell, World.size_drew, World.heap_drewN]); done) | ((with_reducible apply heap_new); (try simp only [World.size_alloc, World.size_setCell, World.size_drew, World.heap_drewN]); omega) | (with_reducible refine heap_old (by (try simp only [World.size_alloc, World.size_setCell, World.size_drew, World.heap_drewN]); omega) ?_) | (with_reducible refine heap_drew ?_) | (with_reducible refine heap_far (by omega) ?_) | (with_reducible apply heap_at))); all_goals rfl)
          · ((repeat (first | with_reducible assumption | ((with_reducible apply heap_new); (try simp only [World.size_alloc, World.size_setCell, World.size_drew, World.heap_drewN]); done) | ((with_reducible apply heap_new); (try simp only [World.size_alloc, World.size_setCell, World.size_drew, World.heap_drewN]); omega) | (with_reducible refine heap_old (by (try simp only [World.size_alloc, World.size_setCell, World.size_drew, World.heap_drewN]); omega) ?_) | (with_reducible refine heap_drew ?_) | (with_reducible refine heap_far (by omega) ?_) | (with_reducible apply heap_at))); all_goals rfl)
        rintro w3 ⟨b_w3, s0_w3, s1_w3⟩
        have a_w3 := a_wo.trans b_w3
        have r0_w3 := own_row s0_w3
        have f0_w3 := own_free s0_w3
        have l0_w3 := own_lt s0_w3
        have r1_w3 := own_row s1_w3
        have f1_w3 := own_free s1_w3
        have l1_w3 := own_lt s1_w3
        have z_w3 := b_w3.below.size
        obtain ⟨p, hp⟩ : ∃ p, wo.heap.size = p := ⟨_, rfl⟩
        rw [hp] at s0_w3 s1_w3 r0_w3 r1_w3 f0_w3 f1_w3 l0_w3 l1_w3 ⊢
        clear hp
        go_wp2_with fail
        refine (HX.out _ b_w3).mono ?_
        rintro e w4 ⟨rfl, b_w4⟩
        have z_w4 := b_w4.below.size
        have a_w4 := a_w3.trans b_w4
        have s0_w4 := any_own b_w4 s0_w3
        have s1_w4 := any_own b_w4 s1_w3
        have r0_w4 := own_row s0_w4
        have f0_w4 := own_free s0_w4
        have l0_w4 := own_lt s0_w4
        have r1_w4 := own_row s1_w4
        have f1_w4 := own_free s1_w4
        have l1_w4 := own_lt s1_w4
        (try clear r0_w3); (try clear f0_w3)
        (try clear r1_w3); (try clear f1_w3)
        have b_w4o := b_w3.trans b_w4
        have HI4 := Lib.hid (And.intro (HI.out.1.later b_w4o) (HI.out.2.later b_w4o))
        have HA4 := Lib.hid (HA.out.trans b_w4o)
        clear b_w3 b_w4 b_w4o a_wo a_w3 a_w4 z_w3 l0_w3 l1_w3 HX
        go_wp2_with fail
        go_loopg [8] n2 (fun kk iv ws => AnyLater w4 ws ∧ ∃ i : Nat, kk = n2 - i ∧ i ≤ n2 ∧ iv = .int .i64 i)
        case atStart => exact ⟨AnyLater.refl w4, 0, by omega, by omega, rfl⟩
        case round =>
          obtain ⟨a_wr, i, hki, hin, rfl⟩ := hrel
          have b_wr := a_wr
          have a_w4 := HA4.out
          have z_wr := b_wr.below.size
          have a_wr := a_w4.trans b_wr
          have s0_wr := any_own b_wr s0_w4
          have s1_wr := any_own b_wr s1_w4
          have r0_wr := own_row s0_wr
          have f0_wr := own_free s0_wr
          have l0_wr := own_lt s0_wr
          have r1_wr := own_row s1_wr
          have f1_wr := own_free s1_wr
          have l1_wr := own_lt s1_wr
          (try clear r0_w4); (try clear f0_w4)
          (try clear r1_w4); (try clear f1_w4)
          have HAR := Lib.hid a_wr
          by_cases hlt2 : i < n2
          · have li : i < xs.length := by rw [HN.out.2]; exact hlt2
            have i2 : (i : Int) < (n2 : Int) := by omega
            obtain ⟨b3, off3, rfl, hb3, q0⟩ := numAt (HI4.out.1.later b_wr) i li
            obtain ⟨b4, off4, rfl, hb4, q1⟩ := numAt (HI4.out.2.later b_wr) i li
            generalize xs[i] = y at *
            go_wp2_with fail
            go_quiet (fail)
            go_wp2_with fail
            go_roundg (n2 - (i + 1))
            case measure => omega
            case rel => exact ⟨b_wr.drewN nq, i + 1, rfl, by omega, by go_num⟩
          · obtain rfl : i = n2 := by omega
            go_wp2_with fail
            go_roundg (n - (j + 1))
            case measure => omega
            case rel => exact ⟨HAR.out, j + 1, rfl, by omega, by go_num⟩
    · obtain rfl : j = n := by omega
      clear a_wo
      go_wp2_with fail
      go_ret
      exact ⟨rfl, HA.out⟩
end Go.Proofs.YteplnejnhgmfiaaDoor
