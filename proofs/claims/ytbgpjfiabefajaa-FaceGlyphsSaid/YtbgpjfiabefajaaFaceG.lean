/- face: FaceUnknown, walked. -/
import Derived.Test.YtbgpjfiabefajaaFaceE
namespace Go.Proofs.Ytbgpjfiabefajaa
set_option linter.unusedSimpArgs false
set_option linter.unusedVariables false
set_option linter.unusedSectionVars false
open Go.RowKit

/-- good glyphs with the same bits have the same rows -/
theorem rows_same {g k : GM} (ho : g.Ok) (ko : k.Ok) (hg : goodG g = true) (hk : goodG k = true) (hw : g.w = k.w) (hh : g.h = k.h) (hb : ∀ x y : Int, hasB g x y = hasB k x y) : g.rows = k.rows := by
  obtain ⟨i1, i2, i3, i4, i5, i6⟩ := goodG_in hg
  obtain ⟨j1, j2, j3, j4, j5, j6⟩ := goodG_in hk
  refine List.ext_getElem (by omega) fun y h1 h2 => ?_
  have q1 := i6 _ (List.getElem_mem h1)
  have q2 := j6 _ (List.getElem_mem h2)
  have p1 := (ho.r _ (List.getElem_mem h1)).1
  have p2 := (ko.r _ (List.getElem_mem h2)).1
  have hx : ∀ x : Nat, (x : Int) < g.w → bitZ g.rows[y] x = bitZ k.rows[y] x := fun x hx => by
    have := hb x y
    rwa [hasB_in hx h1, hasB_in (by omega) h2] at this
  rw [← hw] at q2
  generalize g.rows[y] = a at *
  generalize k.rows[y] = b at *
  obtain ⟨m, rfl⟩ := Int.eq_ofNat_of_zero_le p1
  obtain ⟨n, rfl⟩ := Int.eq_ofNat_of_zero_le p2
  have e : ((2 : Int) ^ g.w.toNat) = ((2 ^ g.w.toNat : Nat) : Int) := by simp
  rw [e] at q1 q2
  congr 1
  refine Nat.eq_of_testBit_eq fun x => ?_
  by_cases q : (x : Int) < g.w
  · have := hx x q
    rwa [bitZ_nat, bitZ_nat] at this
  · have hp : 2 ^ g.w.toNat ≤ 2 ^ x := Nat.pow_le_pow_right (by decide) (by omega)
    rw [Nat.testBit_lt_two_pow (by omega), Nat.testBit_lt_two_pow (by omega)]
theorem dot0_none {a b : Int} (ha : knownZ a = false) (hb : knownZ b = false) (x y : Int) : dot0 a x y = dot0 b x y := by
  unfold dot0
  rw [colZ_none ha, colZ_none hb]
theorem face_same {f a b : Int} {g k : GM} (ha : knownZ a = false) (hb : knownZ b = false) (hg : FaceP f a g) (hk : FaceP f b k) : g.w = k.w ∧ g.rows = k.rows ∧ g.rows.length ≤ 32 := by
  by_cases q : 0 ≤ f ∧ f ≤ 2
  · obtain ⟨e1, e2, e3, e4⟩ := hg.yes q.1 q.2
    obtain ⟨k1, k2, k3, k4⟩ := hk.yes q.1 q.2
    have hw : g.w = k.w := e1.trans k1.symm
    obtain ⟨i1, i2, i3, i4, i5, i6⟩ := goodG_in e3
    refine ⟨hw, rows_same hg.ok hk.ok e3 k3 hw (e2.trans k2.symm) fun x y => ?_, by omega⟩
    rw [e4, k4]
    unfold dotZ
    rw [dot0_none ha hb, dot0_none ha hb, dot0_none ha hb]
  · obtain ⟨e1, _, e3⟩ := hg.no q
    obtain ⟨k1, _, k3⟩ := hk.no q
    exact ⟨e1.trans k1.symm, e3.trans k3.symm, by rw [e3]; decide⟩
set_option maxRecDepth 100000 in
set_option maxHeartbeats 3200000 in
theorem faceUnknown_any (T : TSays) (W0 : World) (a b f : Int) (ha : -2147483648 ≤ a ∧ a ≤ 2147483647) (hb : -2147483648 ≤ b ∧ b ≤ 2147483647) (hf : I64 f) : Calls Try.prog 12 #[.int .i32 a, .int .i32 b, .int .i64 f] W0 fun e w' => e = .returned (.bool true) ∧ AnyLater W0 w' := by
  obtain ⟨ka, hka⟩ : ∃ c, knownZ a = c := ⟨_, rfl⟩
  obtain ⟨kb, hkb⟩ : ∃ c, knownZ b = c := ⟨_, rfl⟩
  have HKa := Lib.hid (fun (w : World) => T.known (w := w) a ka hka ha)
  have HKb := Lib.hid (fun (w : World) => T.known (w := w) b kb hkb hb)
  have HGa := Lib.hid (fun (w : World) => T.glyph (w := w) f a hf ha)
  have HGb := Lib.hid (fun (w : World) => T.glyph (w := w) f b hf hb)
  have HLv := Lib.hid (fun w => flives_any T w)
  have HEa := Lib.hid hka
  have HEb := Lib.hid hkb
  obtain ⟨a1, a2⟩ := ha
  obtain ⟨b1, b2⟩ := hb
  obtain ⟨f1, f2⟩ := hf
  clear T hka hkb
  rcases ka with _ | _
  · rcases kb with _ | _
    · go_enter Try.func12, Try.ntmps12
      go_wp2_with fail
      refine (HKa.out _).mono ?_
      rintro e w1 ⟨rfl, c1⟩
      have HB1 := Lib.hid c1
      clear c1
      go_wp2_with fail
      refine (HKb.out _).mono ?_
      rintro e w2 ⟨rfl, c2⟩
      have HB2 := Lib.hid (HB1.out.trans c2)
      clear c2
      go_wp2_with fail
      refine (HGa.out _).mono ?_
      rintro e w3 ⟨u, rfl, c3, gm, hg, hp⟩
      have HB3 := Lib.hid (HB2.out.trans c3)
      have HIg := Lib.hid hg
      obtain ⟨su, rfl, _⟩ := hg
      clear c3
      go_wp2_with fail
      refine (HGb.out _).mono ?_
      rintro e w4 ⟨v, rfl, c4, km, hk, kp⟩
      have a_w4 := HB3.out.trans c4
      obtain ⟨ew, er, el⟩ := face_same HEa.out HEb.out hp kp
      obtain ⟨su', eu, A1, cap1, rfl, p2, p3⟩ := HIg.out.later c4
      obtain ⟨sv, rfl, A2, cap2, rfl, q2, q3⟩ := hk
      obtain rfl : su = .slice A1 gm.rows.length cap1 := by cases eu; rfl
      rw [← er] at q2 q3 ⊢
      obtain ⟨n, hn⟩ : ∃ n, gm.rows.length = n := ⟨_, rfl⟩
      have HN := Lib.hid hn
      have HP := Lib.hid p3
      have HQ := Lib.hid q3
      rw [hn] at p2 q2 el ⊢
      rw [← ew]
      have w64 := hp.ok.w
      have h64 := hp.ok.h
      have k64 := kp.ok.h
      have HRr := Lib.hid hp.ok.r
      obtain ⟨x1, x2⟩ := w64
      obtain ⟨x3, x4⟩ := h64
      obtain ⟨x5, x6⟩ := k64
      generalize gm.w = W at *
      generalize gm.h = H at *
      generalize km.h = H2 at *
      clear hp kp ew er hn p3 q3 eu c4 HIg
      go_upto_region 4 with fail
      first | refine settle_wp (fun wS => AnyLater w4 wS ∧ wS.heap[w4.heap.size]? = some (.cells #[.int .i64 W, .int .i64 H, .slice A1 n cap1] 51) ∧ wS.heap[w4.heap.size + 1]? = some (.cells #[.int .i64 W, .int .i64 H2, .slice A2 n cap2] 51)) ?_ ?_ | refine settle_calls (fun wS => AnyLater w4 wS ∧ wS.heap[w4.heap.size]? = some (.cells #[.int .i64 W, .int .i64 H, .slice A1 n cap1] 51) ∧ wS.heap[w4.heap.size + 1]? = some (.cells #[.int .i64 W, .int .i64 H2, .slice A2 n cap2] 51)) ?_ ?_
      · refine ⟨?_, ?_, ?_⟩
        · repeat' (first | with_reducible assumption | with_reducible exact AnyLater.refl _ | with_reducible apply AnyLater.setCell | with_reducible apply AnyLater.later | with_reducible apply AnyLater.drewN | with_reducible apply AnyLater.drew | with_reducible apply AnyLater.alloc | ((try simp only [World.size_alloc, World.size_setCell, World.size_drew]); (try dsimp only); omega))
        · ((repeat (first | with_reducible assumption | ((with_reducible apply heap_new); (try simp only [World.size_alloc, World.size_setCell, World.size_drew, World.heap_drewN]); done) | ((with_reducible apply heap_new); (try simp only [World.size_alloc, World.size_setCell, World.size_drew, World.heap_drewN]); omega) | (with_reducible refine heap_old (by (try simp only [World.size_alloc, World.size_setCell, World.size_drew, World.heap_drewN]); omega) ?_) | (with_reducible refine heap_drew ?_) | (with_reducible refine heap_far (by omega) ?_) | (with_reducible apply heap_at))); all_goals rfl)
        · ((repeat (first | with_reducible assumption | ((with_reducible apply heap_new); (try simp only [World.size_alloc, World.size_setCell, World.size_drew, World.heap_drewN]); done) | ((with_reducible apply heap_new); (try simp only [World.size_alloc, World.size_setCell, World.size_drew, World.heap_drewN]); omega) | (with_reducible refine heap_old (by (try simp only [World.size_alloc, World.size_setCell, World.size_drew, World.heap_drewN]); omega) ?_) | (with_reducible refine heap_drew ?_) | (with_reducible refine heap_far (by omega) ?_) | (with_reducible apply heap_at))); all_goals rfl)
      rintro w5 ⟨b_w5, s0_w5, s1_w5⟩
      have a_w5 := a_w4.trans b_w5
      have r0_w5 := own_row s0_w5
      have f0_w5 := own_free s0_w5
      have l0_w5 := own_lt s0_w5
      have r1_w5 := own_row s1_w5
      have f1_w5 := own_free s1_w5
      have l1_w5 := own_lt s1_w5
      have z_w5 := b_w5.below.size
      have s0 := Lib.hid s0_w5
      have s1 := Lib.hid s1_w5
      have H45 := Lib.hid b_w5
      go_wp2_with fail
      go_loopg [9] n (fun kk jv wr => AnyLater w5 wr ∧ ∃ j : Nat, kk = n - j ∧ j ≤ n ∧ jv = .int .i64 j)
      case atStart => exact ⟨AnyLater.refl _, 0, by omega, by omega, rfl⟩
      case round =>
        obtain ⟨a_wr, j, hk, hj, rfl⟩ := hrel
        have HA := Lib.hid a_wr
        have t0 := any_own a_wr s0.out
        have t1 := any_own a_wr s1.out
        have r0 := own_row t0
        have r1 := own_row t1
        have l0 := own_lt t0
        have l1 := own_lt t1
        by_cases hlt : j < n
        · have lj : j < gm.rows.length := by rw [HN.out]; exact hlt
          obtain ⟨bb1, o1, rfl, hb1, hc1⟩ := HP.out (by omega)
          obtain ⟨bb2, o2, rfl, hb2, hc2⟩ := HQ.out (by omega)
          have ha4 := H45.out.trans a_wr
          have cc1 : wr.cell? ⟨bb1, o1 + j, none⟩ = some (.int .u32 gm.rows[j]) := (ha4.below.cell hb1).trans (hc1 j lj)
          have cc2 : wr.cell? ⟨bb2, o2 + j, none⟩ = some (.int .u32 gm.rows[j]) := (ha4.below.cell hb2).trans (hc2 j lj)
          obtain ⟨z1, z2⟩ := HRr.out gm.rows[j] (List.getElem_mem lj)
          generalize gm.rows[j] = z at *
          clear hc1 hc2 ha4 a_wr
          go_wp2_with fail
          go_quiet (fail)
          go_wp2_with fail
          go_roundg (n - (j + 1))
          case measure => omega
          case rel => exact ⟨HA.out.drewN _, j + 1, rfl, by omega, by go_num⟩
        · obtain rfl : j = n := by omega
          clear a_wr
          go_wp2_with fail
          refine (HLv.out _).mono ?_
          rintro e w6 ⟨rfl, c6⟩
          have HA6 := Lib.hid (a_w5.trans (HA.out.trans c6))
          clear c6
          go_wp2_with fail
          go_ret
          exact ⟨rfl, HA6.out⟩
    · go_enter Try.func12, Try.ntmps12
      go_wp2_with fail
      refine (HKa.out _).mono ?_
      rintro e w1 ⟨rfl, c1⟩
      have HB1 := Lib.hid c1
      clear c1
      go_wp2_with fail
      refine (HKb.out _).mono ?_
      rintro e w2 ⟨rfl, c2⟩
      have HB2 := Lib.hid (HB1.out.trans c2)
      clear c2
      go_wp2_with fail
      refine (HLv.out _).mono ?_
      rintro e w3 ⟨rfl, c3⟩
      have HB3 := Lib.hid (HB2.out.trans c3)
      clear c3
      go_wp2_with fail
      go_ret
      exact ⟨rfl, HB3.out⟩
  · go_enter Try.func12, Try.ntmps12
    go_wp2_with fail
    refine (HKa.out _).mono ?_
    rintro e w1 ⟨rfl, c1⟩
    have HB1 := Lib.hid c1
    clear c1
    go_wp2_with fail
    refine (HLv.out _).mono ?_
    rintro e w3 ⟨rfl, c3⟩
    have HB3 := Lib.hid (HB1.out.trans c3)
    clear c3
    go_wp2_with fail
    go_ret
    exact ⟨rfl, HB3.out⟩
end Go.Proofs.Ytbgpjfiabefajaa
