/- metric, the program: lay, by contract. -/
import Derived.Test.YteplnejnhgmfiaaDoorMetM
namespace Go.Proofs.YteplnejnhgmfiaaDoor
set_option linter.unusedSimpArgs false
set_option linter.unusedVariables false
set_option linter.unusedSectionVars false
open Go.RowKit

/-- the places of cells are small numbers -/
def SmallC (l : Cels) : Prop := ∀ c ∈ l, (0 ≤ c.1 ∧ c.1 ≤ 100000) ∧ 0 ≤ c.2.1 ∧ c.2.1 ≤ 100000
theorem frL_at {l : Cels} (h : 0 < l.length) : frL l = l[0].1 := by
  unfold frL
  cases l with
  | nil => simp at h
  | cons c l => rfl
theorem toL_at {l : Cels} {k : Nat} (h : l.length = k + 1) : toL l = (l[k]'(by omega)).1 + (l[k]'(by omega)).2.1 := by
  unfold toL
  have e : l.getLast? = some l[k] := by rw [List.getLast?_eq_getElem?, show l.length - 1 = k by omega, List.getElem?_eq_getElem]
  rw [e]
  rfl
set_option maxRecDepth 100000 in
set_option maxHeartbeats 1600000 in
theorem mlay_any (A : Option Addr) (cap n : Nat) (l : Cels) (w : World) (hn : l.length = n) (hv : FR celF w (.slice A n cap) l) (hN : CelsOk l) (hS : SmallC l) (hl : n ≤ 4000) :
    Calls Tryd.prog 29 #[.slice A n cap] w fun e w' => ∃ A2 c2, e = .returned (.agg #[.slice A n cap, .slice A2 (n + 1) c2, .int .i64 (upL l), .int .i64 (dnL l), .int .i64 (frL l), .int .i64 (toL l), .bool false]) ∧ AnyLater w w' ∧ ON .i64 3 w' w.heap.size (.slice A2 (n + 1) c2) (xsC 0 l) := by
  have HV := Lib.hid hv
  have HL := Lib.hid hn
  have HSM := Lib.hid hS
  have HOK := Lib.hid hN
  have HXS := Lib.hid (fun w2 (a : AnyLater w w2) => cxs_any (.slice A n cap) l w2 (hv.later a) hN (by omega))
  have HXL := Lib.hid (show (xsC 0 l).length = n + 1 by rw [xsC_length, hn])
  have HRE := Lib.hid (fun w2 (a : AnyLater w w2) => mreach_any (.slice A n cap) l w2 _ _ rfl rfl (hv.later a) hN (by omega))
  have hu := upL_in l
  have hd := dnL_in l
  obtain ⟨U, hU⟩ : ∃ U, upL l = U := ⟨_, rfl⟩
  obtain ⟨D, hD⟩ : ∃ D, dnL l = D := ⟨_, rfl⟩
  rw [hU, hD] at HRE
  rw [hU] at hu ⊢
  rw [hD] at hd ⊢
  obtain ⟨X, hX⟩ : ∃ X, frL l = X := ⟨_, rfl⟩
  obtain ⟨Y, hY⟩ : ∃ Y, toL l = Y := ⟨_, rfl⟩
  have HX := Lib.hid hX
  have HY := Lib.hid hY
  rw [hX, hY]
  clear hv hn hS hN hU hD hX hY
  go_enter Tryd.func29, Tryd.ntmps29
  go_upto_region 1 with fail
  first | refine settle_wp (fun wS => AnyLater w wS ∧ wS.heap[w.heap.size]? = some (.cells #[.slice none 0 0, .slice none 0 0, .int .i64 0, .int .i64 0, .int .i64 0, .int .i64 0, .bool false] 43)) ?_ ?_ | refine settle_calls (fun wS => AnyLater w wS ∧ wS.heap[w.heap.size]? = some (.cells #[.slice none 0 0, .slice none 0 0, .int .i64 0, .int .i64 0, .int .i64 0, .int .i64 0, .bool false] 43)) ?_ ?_
  · refine ⟨?_, ?_⟩
    · repeat' (first | with_reducible assumption | with_reducible exact AnyLater.refl _ | with_reducible apply AnyLater.setCell | with_reducible apply AnyLater.later | with_reducible apply AnyLater.drewN | with_reducible apply AnyLater.drew | with_reducible apply AnyLater.alloc | ((try simp only [World.size_alloc, World.size_setCell, World.size_drew]); (try dsimp only); omega))
    · ((repeat (first | with_reducible assumption | ((with_reducible apply heap_new); (try simp only [World.size_alloc, World.size_setCell, World.size_drew, World.heap_drewN]); done) | ((with_reducible apply heap_new); (try simp only [World.size_alloc, World.size_setCell, World.size_drew, World.heap_drewN]); omega) | (with_reducible refine heap_old (by (try simp only [World.size_alloc, World.size_setCell, World.size_drew, World.heap_drewN]); omega) ?_) | (with_reducible refine heap_drew ?_) | (with_reducible refine heap_far (by omega) ?_) | (with_reducible apply heap_at))); all_goals rfl)
  rintro w1 ⟨b_w1, s0_w1⟩
  have a_w1 := b_w1
  have r0_w1 := own_row s0_w1
  have f0_w1 := own_free s0_w1
  have l0_w1 := own_lt s0_w1
  have z_w1 := b_w1.below.size
  go_wp2_with fail
  refine (HXS.out _ b_w1).mono ?_
  rintro e w2 ⟨u2, rfl, b_w2, o2⟩
  have s0_w2 := any_own b_w2 s0_w1
  have l0_w2 := own_lt s0_w2
  have a_w2 := b_w1.trans b_w2
  obtain ⟨A2, c2, rfl, -⟩ := o2.form
  rw [HXL.out] at o2 ⊢
  have HO2 := Lib.hid (ON.wide (C := w.heap.size) b_w1.below.size o2)
  clear o2 b_w2
  go_upto_region 2 with fail
  first | refine settle_wp (fun wS => AnyLater w2 wS ∧ wS.heap[w2.heap.size]? = some (.cells #[.slice A n cap, .slice A2 (n + 1) c2, .int .i64 0, .int .i64 0, .int .i64 0, .int .i64 0, .bool false] 43)) ?_ ?_ | refine settle_calls (fun wS => AnyLater w2 wS ∧ wS.heap[w2.heap.size]? = some (.cells #[.slice A n cap, .slice A2 (n + 1) c2, .int .i64 0, .int .i64 0, .int .i64 0, .int .i64 0, .bool false] 43)) ?_ ?_
  · refine ⟨?_, ?_⟩
    · repeat' (first | with_reducible assumption | with_reducible exact AnyLater.refl _ | with_reducible apply AnyLater.setCell | with_reducible apply AnyLater.later | with_reducible apply AnyLater.drewN | with_reducible apply AnyLater.drew | with_reducible apply AnyLater.alloc | ((try simp only [World.size_alloc, World.size_setCell, World.size_drew]); (try dsimp only); omega))
    · ((repeat (first | with_reducible assumption | ((with_reducible apply heap_new); (try simp only [World.size_alloc, World.size_setCell, World.size_drew, World.heap_drewN]); done) | ((with_reducible apply heap_new); (try simp only [World.size_alloc, World.size_setCell, World.size_drew, World.heap_drewN]); omega) | (with_reducible refine heap_old (by (try simp only [World.size_alloc, World.size_setCell, World.size_drew, World.heap_drewN]); omega) ?_) | (with_reducible refine heap_drew ?_) | (with_reducible refine heap_far (by omega) ?_) | (with_reducible apply heap_at))); all_goals rfl)
  rintro w3 ⟨b_w3, s1_w3⟩
  have a_w3 := a_w2.trans b_w3
  have s0_w3 := any_own b_w3 s0_w2
  have r0_w3 := own_row s0_w3
  have f0_w3 := own_free s0_w3
  have l0_w3 := own_lt s0_w3
  (try clear r0_w2); (try clear f0_w2)
  have r1_w3 := own_row s1_w3
  have f1_w3 := own_free s1_w3
  have l1_w3 := own_lt s1_w3
  have z_w3 := b_w3.below.size
  obtain ⟨p, hp⟩ : ∃ p, w2.heap.size = p := ⟨_, rfl⟩
  have HP := Lib.hid hp
  rw [hp] at s1_w3 r1_w3 f1_w3 l1_w3 z_w3 ⊢
  go_wp2_with fail
  refine (HRE.out _ a_w3).mono ?_
  rintro e w4 ⟨rfl, b_w4⟩
  have z_w4 := b_w4.below.size
  have a_w4 := a_w3.trans b_w4
  have s0_w4 := any_own b_w4 s0_w3
  have s1_w4 := any_own b_w4 s1_w3
  have r0_w4 := own_row s0_w4
  have f0_w4 := own_free s0_w4
  have l0_w4 := own_lt s0_w4
  have r1_w4 := own_row s1_w4
  have f1_w4 := own_free s1_w4
  have l1_w4 := own_lt s1_w4
  (try clear r0_w3); (try clear f0_w3)
  (try clear r1_w3); (try clear f1_w3)
  have b24 := b_w3.trans b_w4
  go_upto_region 3 with fail
  first | refine settle_wp (fun wS => AnyLater w2 wS ∧ wS.heap[p]? = some (.cells #[.slice A n cap, .slice A2 (n + 1) c2, .int .i64 U, .int .i64 D, .int .i64 0, .int .i64 0, .bool false] 43)) ?_ ?_ | refine settle_calls (fun wS => AnyLater w2 wS ∧ wS.heap[p]? = some (.cells #[.slice A n cap, .slice A2 (n + 1) c2, .int .i64 U, .int .i64 D, .int .i64 0, .int .i64 0, .bool false] 43)) ?_ ?_
  · refine ⟨?_, ?_⟩
    · repeat' (first | with_reducible assumption | with_reducible exact AnyLater.refl _ | with_reducible apply AnyLater.setCell | with_reducible apply AnyLater.later | with_reducible apply AnyLater.drewN | with_reducible apply AnyLater.drew | with_reducible apply AnyLater.alloc | ((try simp only [World.size_alloc, World.size_setCell, World.size_drew]); (try dsimp only); omega))
    · ((repeat (first | with_reducible assumption | ((with_reducible apply heap_new); (try simp only [World.size_alloc, World.size_setCell, World.size_drew, World.heap_drewN]); done) | ((with_reducible apply heap_new); (try simp only [World.size_alloc, World.size_setCell, World.size_drew, World.heap_drewN]); omega) | (with_reducible refine heap_old (by (try simp only [World.size_alloc, World.size_setCell, World.size_drew, World.heap_drewN]); omega) ?_) | (with_reducible refine heap_drew ?_) | (with_reducible refine heap_far (by omega) ?_) | (with_reducible apply heap_at))); all_goals rfl)
  rintro w5 ⟨b_w5, s1_w5⟩
  have a_w5 := a_w2.trans b_w5
  have s0_w5 := any_own b_w5 s0_w2
  have r0_w5 := own_row s0_w5
  have f0_w5 := own_free s0_w5
  have l0_w5 := own_lt s0_w5
  (try clear r0_w2); (try clear f0_w2)
  have r1_w5 := own_row s1_w5
  have f1_w5 := own_free s1_w5
  have l1_w5 := own_lt s1_w5
  have z_w5 := b_w5.below.size
  have HO5 := Lib.hid (ON.later b_w5 HO2.out)
  have HP2 : Hid (w2.heap.size ≤ p) := Lib.hid (by rw [HP.out]; exact Nat.le_refl _)
  have hsp : w.heap.size < p := by have := HP2.out; omega
  clear b24 b_w4 b_w3 hp
  cases n with
  | zero =>
    obtain rfl : X = 0 := by rw [← HX.out, List.eq_nil_of_length_eq_zero HL.out]; rfl
    obtain rfl : Y = 0 := by rw [← HY.out, List.eq_nil_of_length_eq_zero HL.out]; rfl
    have oE := owns_setCells (by decide) [.slice A 0 cap, .slice A2 (0 + 1) c2, .int .i64 U, .int .i64 D, .int .i64 0, .int .i64 0, .bool false] 0 w5 _ s0_w5 HO5.out
    have aE := any_setCells (Nat.le_refl w.heap.size) [.slice A 0 cap, .slice A2 (0 + 1) c2, .int .i64 U, .int .i64 D, .int .i64 0, .int .i64 0, .bool false] 0 w5 a_w5
    have HE := Lib.hid (And.intro oE aE)
    clear oE aE
    go_wp2_with fail
    refine bodyPost_ret (v := .agg #[.slice A 0 cap, .slice A2 (0 + 1) c2, .int .i64 U, .int .i64 D, .int .i64 0, .int .i64 0, .bool false]) (by simp [results, Tryd.results29, go_sem, r0_w5]) rfl ⟨_, _, rfl, HE.out.2, HE.out.1⟩
  | succ k =>
    have lk : k < l.length := by rw [HL.out]; omega
    have l0 : 0 < l.length := by omega
    obtain ⟨b, off, rfl, hb, -⟩ := celAt HV.out k lk
    obtain ⟨b', off', eb, -, c0, c1, c2', c3⟩ := celAt (HV.out.later a_w5) k lk
    cases eb
    obtain ⟨b', off', eb, -, d0, -, -, -⟩ := celAt (HV.out.later a_w5) 0 l0
    cases eb
    rw [Nat.zero_mul, Nat.add_zero] at d0
    have HX2 := Lib.hid (frL_at l0)
    have HY2 := Lib.hid (toL_at HL.out)
    obtain ⟨⟨p1, p2⟩, p3, p4⟩ := HSM.out l[k] (List.getElem_mem lk)
    have hX3 : l[0].1 = X := by rw [← HX.out, HX2.out]
    have hY3 : l[k].1 + l[k].2.1 = Y := by rw [← HY.out, HY2.out]
    rw [hX3] at d0
    obtain ⟨cel, hcel⟩ : ∃ cel, l[k] = cel := ⟨_, rfl⟩
    rw [hcel] at c0 c1 c2' c3 p1 p2 p3 p4 hY3
    obtain ⟨ca, cn, cr, cs⟩ := cel
    simp only at c0 c1 c2' c3 p1 p2 p3 p4 hY3
    have e0 : (k : Int) + 1 - 1 = (k : Int) := by omega
    have HY3 := Lib.hid hY3
    have HD0 := Lib.hid d0
    have hbp : b < w5.heap.size := by have := a_w5.below.size; omega
    have n1 : b ≠ p := by omega
    clear hX3 hcel HX2 HY2 hY3 d0
    go_upto_region 5 with fail
    first | refine settle_wp (fun wS => AnyLater w5 wS ∧ wS.heap[w5.heap.size]? = some (.cells #[.int .i64 ca, .int .i64 cn, .int .i32 cr, .int .i64 cs] 63)) ?_ ?_ | refine settle_calls (fun wS => AnyLater w5 wS ∧ wS.heap[w5.heap.size]? = some (.cells #[.int .i64 ca, .int .i64 cn, .int .i32 cr, .int .i64 cs] 63)) ?_ ?_
    · refine ⟨?_, ?_⟩
      · repeat' (first | with_reducible assumption | with_reducible exact AnyLater.refl _ | with_reducible apply AnyLater.setCell | with_reducible apply AnyLater.later | with_reducible apply AnyLater.drewN | with_reducible apply AnyLater.drew | with_reducible apply AnyLater.alloc | ((try simp only [World.size_alloc, World.size_setCell, World.size_drew]); (try dsimp only); omega))
      · ((repeat (first | with_reducible assumption | ((with_reducible apply heap_new); (try simp only [World.size_alloc, World.size_setCell, World.size_drew, World.heap_drewN]); done) | ((with_reducible apply heap_new); (try simp only [World.size_alloc, World.size_setCell, World.size_drew, World.heap_drewN]); omega) | (with_reducible refine heap_old (by (try simp only [World.size_alloc, World.size_setCell, World.size_drew, World.heap_drewN]); omega) ?_) | (with_reducible refine heap_drew ?_) | (with_reducible refine heap_far (by omega) ?_) | (with_reducible apply heap_at))); all_goals rfl)
    rintro w6 ⟨b_w6, s2_w6⟩
    have a_w6 := a_w5.trans b_w6
    have s0_w6 := any_own b_w6 s0_w5
    have s1_w6 := any_own b_w6 s1_w5
    have r0_w6 := own_row s0_w6
    have f0_w6 := own_free s0_w6
    have l0_w6 := own_lt s0_w6
    have r1_w6 := own_row s1_w6
    have f1_w6 := own_free s1_w6
    have l1_w6 := own_lt s1_w6
    (try clear r0_w5); (try clear f0_w5)
    (try clear r1_w5); (try clear f1_w5)
    have r2_w6 := own_row s2_w6
    have f2_w6 := own_free s2_w6
    have l2_w6 := own_lt s2_w6
    have z_w6 := b_w6.below.size
    have d0 := (b_w6.below.cell hbp).trans HD0.out
    have b26 := b_w5.trans b_w6
    have n2 : w5.heap.size ≠ p := by omega
    obtain ⟨q, hq⟩ : ∃ q, w5.heap.size = q := ⟨_, rfl⟩
    rw [hq] at s2_w6 r2_w6 f2_w6 l2_w6 z_w6 n2 ⊢
    clear hq hbp c0 c1 c2' c3
    go_region
    go_upto_region 6 with fail
    rw [HY3.out]
    have hp2 := HP2.out
    first | refine settle_wp (fun wS => AnyLater w2 wS ∧ wS.heap[p]? = some (.cells #[.slice (some ⟨b, off, none⟩) (k + 1) cap, .slice A2 (k + 1 + 1) c2, .int .i64 U, .int .i64 D, .int .i64 X, .int .i64 Y, .bool false] 43)) ?_ ?_ | refine settle_calls (fun wS => AnyLater w2 wS ∧ wS.heap[p]? = some (.cells #[.slice (some ⟨b, off, none⟩) (k + 1) cap, .slice A2 (k + 1 + 1) c2, .int .i64 U, .int .i64 D, .int .i64 X, .int .i64 Y, .bool false] 43)) ?_ ?_
    · refine ⟨?_, ?_⟩
      · repeat' (first | with_reducible assumption | with_reducible exact AnyLater.refl _ | with_reducible apply AnyLater.setCell | with_reducible apply AnyLater.later | with_reducible apply AnyLater.drewN | with_reducible apply AnyLater.drew | with_reducible apply AnyLater.alloc | ((try simp only [World.size_alloc, World.size_setCell, World.size_drew]); (try dsimp only); omega))
      · ((repeat (first | with_reducible assumption | ((with_reducible apply heap_new); (try simp only [World.size_alloc, World.size_setCell, World.size_drew, World.heap_drewN]); done) | ((with_reducible apply heap_new); (try simp only [World.size_alloc, World.size_setCell, World.size_drew, World.heap_drewN]); omega) | (with_reducible refine heap_old (by (try simp only [World.size_alloc, World.size_setCell, World.size_drew, World.heap_drewN]); omega) ?_) | (with_reducible refine heap_drew ?_) | (with_reducible refine heap_far (by omega) ?_) | (with_reducible apply heap_at))); all_goals rfl)
    rintro w7 ⟨b_w7, s1_w7⟩
    have a_w7 := a_w2.trans b_w7
    have s0_w7 := any_own b_w7 s0_w2
    have r0_w7 := own_row s0_w7
    have f0_w7 := own_free s0_w7
    have l0_w7 := own_lt s0_w7
    (try clear r0_w2); (try clear f0_w2)
    have r1_w7 := own_row s1_w7
    have f1_w7 := own_free s1_w7
    have l1_w7 := own_lt s1_w7
    have z_w7 := b_w7.below.size
    have oE := owns_setCells (by decide) [.slice (some ⟨b, off, none⟩) (k + 1) cap, .slice A2 (k + 1 + 1) c2, .int .i64 U, .int .i64 D, .int .i64 X, .int .i64 Y, .bool false] 0 w7 _ s0_w7 (ON.later b_w7 HO2.out)
    have aE := any_setCells (Nat.le_refl w.heap.size) [.slice (some ⟨b, off, none⟩) (k + 1) cap, .slice A2 (k + 1 + 1) c2, .int .i64 U, .int .i64 D, .int .i64 X, .int .i64 Y, .bool false] 0 w7 a_w7
    have HE := Lib.hid (And.intro oE aE)
    clear oE aE d0 b26 n1 n2
    go_wp2_with fail
    refine bodyPost_ret (v := .agg #[.slice (some ⟨b, off, none⟩) (k + 1) cap, .slice A2 (k + 1 + 1) c2, .int .i64 U, .int .i64 D, .int .i64 X, .int .i64 Y, .bool false]) (by simp [results, Tryd.results29, go_sem, r0_w7]) rfl ⟨_, _, rfl, HE.out.2, HE.out.1⟩
end Go.Proofs.YteplnejnhgmfiaaDoor
