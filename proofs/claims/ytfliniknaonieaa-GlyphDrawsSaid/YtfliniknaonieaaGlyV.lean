/- glyph: Draw of the program, by contract. -/
import Derived.Test.YtfliniknaonieaaGlyR
import Derived.Test.YtfliniknaonieaaGlyG
import Derived.Test.YtfliniknaonieaaFrameX
namespace Go.Proofs.Ytfliniknaonieaa
set_option linter.unusedSimpArgs false
set_option linter.unusedVariables false
set_option linter.unusedSectionVars false
open Go.RowKit

theorem dX_far (g : GM) (ax ay c : Int) (j : Nat) (m : FM) : ∀ d : Nat, dX g ax ay c j m (g.w.toNat + d) = dX g ax ay c j m g.w.toNat
  | 0 => rfl
  | d + 1 => by
    show (if hasB g ((g.w.toNat + d : Nat) : Int) j = true then _ else dX g ax ay c j m (g.w.toNat + d)) = _
    rw [hasB_out (by omega), dX_far g ax ay c j m d]
    simp
theorem dX_none (g : GM) (ax ay c : Int) (j : Nat) (m : FM) (hj : g.rows.length ≤ j) : ∀ i : Nat, dX g ax ay c j m i = m
  | 0 => rfl
  | i + 1 => by
    show (if hasB g (i : Int) j = true then _ else dX g ax ay c j m i) = m
    rw [hasB_out (by omega), dX_none g ax ay c j m hj i]
    simp
theorem dX_w {g : GM} (hg : goodG g = true) (ax ay c : Int) (j : Nat) (m : FM) : dX g ax ay c j m 32 = dX g ax ay c j m g.w.toNat := by
  obtain ⟨g1, g2, -⟩ := goodG_in hg
  have := dX_far g ax ay c j m (32 - g.w.toNat)
  rwa [show g.w.toNat + (32 - g.w.toNat) = 32 by omega] at this
theorem dY_far (g : GM) (ax ay c : Int) (m : FM) : ∀ d : Nat, dY g ax ay c m (g.rows.length + d) = dY g ax ay c m g.rows.length
  | 0 => rfl
  | d + 1 => by
    show dX g ax ay c (g.rows.length + d) (dY g ax ay c m (g.rows.length + d)) 32 = _
    rw [dX_none g ax ay c _ _ (by omega), dY_far g ax ay c m d]
theorem dY_40 {g : GM} (hg : goodG g = true) (ax ay c : Int) (m : FM) : dY g ax ay c m 40 = dY g ax ay c m g.rows.length := by
  obtain ⟨g1, g2, g3, g4, g5, -⟩ := goodG_in hg
  have := dY_far g ax ay c m (40 - g.rows.length)
  rwa [show g.rows.length + (40 - g.rows.length) = 40 by omega] at this
theorem IsG.off {S : Nat → Prop} {w w' : World} {g : GM} {v : Value} (h : IsG g v w) (hk : Keeps S w w') (ho : OffG v S) : IsG g v w' := by
  obtain ⟨s, rfl, A, cap, rfl, h2, h3⟩ := h
  refine ⟨_, rfl, A, cap, rfl, h2, fun h0 => ?_⟩
  obtain ⟨b, off, rfl, hb, hc⟩ := h3 h0
  have hbS : ¬ S b := ho _ _ b off _ _ rfl
  have hblk := hk.block b hb hbS
  exact ⟨b, off, rfl, Nat.lt_of_lt_of_le hb hk.size, fun j hj => by rw [← hc j hj]; exact cell_block hblk _⟩
set_option maxRecDepth 100000 in
set_option maxHeartbeats 6400000 in
theorem draw_any {w : World} {a : Nat} {m : FM} {S : Nat → Prop} {g : GM} {v : Value} (ax ay c n : Int) (hn : (drawM g ax ay c m).n - m.n = n) (h : Fr w a m S) (hs : Small m) (hv : IsG g v w) (ho : OffG v S) (hok : g.Ok) (hl : g.rows.length ≤ 40) (hax : I64 ax) (hay : I64 ay) :
    Calls Try.prog 29 #[ptr a, v, .int .i64 ax, .int .i64 ay, .int .u32 c] w fun e w' => e = .returned (.int .i64 n) ∧ Keeps S w w' ∧ Fr w' a (drawM g ax ay c m) S := by
  obtain ⟨sm1, sm2, sm3, sm4, sm5⟩ := hs
  have HV := Lib.hid hv
  have HF := Lib.hid h
  have HSB := Lib.hid h.below
  obtain ⟨A, nr, cap, rfl, -⟩ := hv.form
  have HOff := Lib.hid ho
  by_cases hgn : goodG g = true ∧ nearB ax ay = true
  · obtain ⟨hg, hnear⟩ := hgn
    have hn2 := of_decide_eq_true (p := (-1048576 ≤ ax ∧ ax ≤ 1048576 ∧ -1048576 ≤ ay ∧ ay ≤ 1048576)) hnear
    obtain ⟨n1, n2, n3, n4⟩ := hn2
    have hM : drawM g ax ay c m = dY g ax ay c m g.rows.length := by unfold drawM; rw [hnear, hg]; exact dY_40 hg ax ay c m
    rw [hM] at hn ⊢
    obtain ⟨g1, g2, g3, g4, g5, -⟩ := goodG_in hg
    have HG := Lib.hid (fun w' (ha : AnyLater w w') => glGood_any g _ w' true hg (HV.out.later ha) hok (by omega))
    have HP1 := Lib.hid (fun w' => glPlace_any ax w' true (decide_eq_true ⟨n1, n2⟩) hax)
    have HP2 := Lib.hid (fun w' => glPlace_any ay w' true (decide_eq_true ⟨n3, n4⟩) hay)
    have HY : Hid (∀ j, Grew m (dY g ax ay c m j) (j * 800000000)) := Lib.hid (dY_grew g ax ay c m sm2 sm3)
    have HX : Hid (∀ j mm i, mm.w ≤ 4096 → mm.rows.length ≤ 4096 → Grew mm (dX g ax ay c j mm i) (i * 25000000)) := Lib.hid (fun j mm i h1 h2 => dX_grew g ax ay c j mm h1 h2 i)
    have HYs : Hid (∀ j, dY g ax ay c m (j + 1) = dX g ax ay c j (dY g ax ay c m j) g.w.toNat) := Lib.hid (fun j => dX_w hg ax ay c j _)
    have HHas : Hid (∀ (i j : Nat) w', Keeps S w w' → (i : Int) ≤ 32 → (j : Int) ≤ 32 → Calls Try.prog 48 #[.agg #[.int .i64 g.w, .int .i64 g.h, .slice A nr cap], .int .i64 i, .int .i64 j] w' fun e w'' => e = .returned (.bool (hasB g i j)) ∧ AnyLater w' w'') := Lib.hid (fun i j w' hk hi hj => has_any0 g _ i j w' _ rfl (HV.out.off hk HOff.out) hok hg (by unfold I64; omega) (by unfold I64; omega))
    have HN := Lib.hid hn
    have HSm := Lib.hid (And.intro sm1 (And.intro sm2 (And.intro sm3 (And.intro sm4 sm5))))
    obtain ⟨Wn, hWn⟩ : ∃ z : Nat, (z : Int) = g.w := ⟨g.w.toNat, by omega⟩
    obtain ⟨Hn, hHn⟩ : ∃ z : Nat, (z : Int) = g.h := ⟨g.h.toNat, by omega⟩
    have hWt : g.w.toNat = Wn := by omega
    have hHt : g.rows.length = Hn := by omega
    rw [hWt] at HYs
    rw [hHt] at HN ⊢
    rw [← hWn, ← hHn] at HG HHas ⊢
    rw [← hWn] at g1 g2
    rw [← hHn] at g3 g4
    clear hn h hv ho hg hnear hM hax hay g5 hWt hHt hWn hHn sm1 hok hl
    unfold ptr
    go_enter Try.func29, Try.ntmps29
    go_wp2_with fail
    first | refine settle_wp (fun wS => AnyLater w wS ∧ wS.heap[w.heap.size]? = some (.cells #[.int .i64 (Wn : Int), .int .i64 (Hn : Int), .slice A nr cap] 51)) ?_ ?_ | refine settle_calls (fun wS => AnyLater w wS ∧ wS.heap[w.heap.size]? = some (.cells #[.int .i64 (Wn : Int), .int .i64 (Hn : Int), .slice A nr cap] 51)) ?_ ?_
    · refine ⟨?_, ?_⟩
      · repeat' (first | with_reducible assumption | with_reducible exact AnyLater.refl _ | with_reducible apply AnyLater.setCell | with_reducible apply AnyLater.later | with_reducible apply AnyLater.drewN | with_reducible apply AnyLater.drew | with_reducible apply AnyLater.alloc | ((try simp only [World.size_alloc, World.size_setCell, World.size_drew]); (try dsimp only); omega))
      · ((repeat (first | with_reducible assumption | ((with_reducible apply heap_new); (try simp only [World.size_alloc, World.size_setCell, World.size_drew, World.heap_drewN]); done) | ((with_reducible apply heap_new); (try simp only [World.size_alloc, World.size_setCell, World.size_drew, World.heap_drewN]); omega) | (with_reducible refine heap_old (by (try simp only [World.size_alloc, World.size_setCell, World.size_drew, World.heap_drewN]); omega) ?_) | (with_reducible refine heap_drew ?_) | (with_reducible refine heap_far (by omega) ?_) | (with_reducible apply heap_at))); all_goals rfl)
    rintro w1 ⟨b_w1, s0_w1⟩
    have a_w1 := b_w1
    have r0_w1 := own_row s0_w1
    have f0_w1 := own_free s0_w1
    have l0_w1 := own_lt s0_w1
    have z_w1 := b_w1.below.size
    refine (HG.out w1 a_w1).mono ?_
    rintro e w2 ⟨rfl, b2⟩
    have s0_w2 := any_own b2 s0_w1
    have HA2 := Lib.hid (a_w1.trans b2)
    have HS2 := Lib.hid s0_w2
    have r0_w2 := own_row s0_w2
    clear b2 r0_w1 s0_w1
    go_wp2_with fail
    refine (HP1.out w2).mono ?_
    rintro e w' ⟨rfl, rfl⟩
    go_wp2_with fail
    refine (HP2.out w2).mono ?_
    rintro e w' ⟨rfl, rfl⟩
    go_wp2_with fail
    clear s0_w2 r0_w2
    have HSz : Hid (w.heap.size < w2.heap.size ∧ ¬ S w.heap.size) := Lib.hid ⟨own_lt HS2.out, fun hq => by have := HSB.out _ hq; omega⟩
    go_loopg [11, 29] Hn (fun k nv jv wr => ∃ (j : Nat) (z : Int), k = Hn - j ∧ j ≤ Hn ∧ jv = .int .i64 j ∧ nv = .int .i64 z ∧ (dY g ax ay c m j).n - m.n = z ∧ Keeps S w2 wr ∧ Fr wr a (dY g ax ay c m j) S)
    case atStart => exact ⟨0, 0, by omega, by omega, rfl, rfl, by simp [dY], Keeps.refl _ _, HF.out.any HA2.out⟩
    case round =>
      obtain ⟨j, z, hk, hj, rfl, rfl, hz, hK, hX⟩ := hrel
      have HZ := Lib.hid hz
      have HK := Lib.hid hK
      have HFr := Lib.hid hX
      have hgr := HY.out j
      have zb : 0 ≤ z ∧ z ≤ 40 * 800000000 := by have := hgr.n0; have := hgr.n1; omega
      have s_b : wr.heap[w.heap.size]? = some (.cells #[.int .i64 (Wn : Int), .int .i64 (Hn : Int), .slice A nr cap] 51) := (hK.block _ HSz.out.1 HSz.out.2).trans HS2.out
      have r_b := own_row s_b
      have HGr := Lib.hid hgr
      clear hz hK hX hgr s_b
      by_cases hlt : j < Hn
      · obtain ⟨mj, hmj⟩ : ∃ mj, dY g ax ay c m j = mj := ⟨_, rfl⟩
        rw [hmj] at HZ HFr HGr
        have HMJ := Lib.hid hmj
        clear hmj
        have HXj : Hid (∀ i, Grew mj (dX g ax ay c j mj i) (i * 25000000)) := Lib.hid (fun i => HX.out j mj i (by rw [HGr.out.w]; exact HSm.out.2.1) (by rw [HGr.out.h]; exact HSm.out.2.2.1))
        go_wp2_with fail
        go_loopg [11, 34] Wn (fun kk nv iv wr => ∃ (i : Nat) (z2 : Int), kk = Wn - i ∧ i ≤ Wn ∧ iv = .int .i64 i ∧ nv = .int .i64 z2 ∧ (dX g ax ay c j mj i).n - m.n = z2 ∧ Keeps S w2 wr ∧ Fr wr a (dX g ax ay c j mj i) S)
        case atStart => exact ⟨0, z, by omega, by omega, rfl, rfl, HZ.out, HK.out, HFr.out⟩
        case round =>
          obtain ⟨i, z2, hk2, hi, rfl, rfl, hz2, hK2, hX2⟩ := hrel
          have HZ2 := Lib.hid hz2
          have HK2 := Lib.hid hK2
          have HF2 := Lib.hid hX2
          have hgr2 := HXj.out i
          have zb2 : 0 ≤ z2 ∧ z2 ≤ 80 * 800000000 := by have := HGr.out.n0; have := HGr.out.n1; have := hgr2.n0; have := hgr2.n1; omega
          have s_b2 : wr.heap[w.heap.size]? = some (.cells #[.int .i64 (Wn : Int), .int .i64 (Hn : Int), .slice A nr cap] 51) := (hK2.block _ HSz.out.1 HSz.out.2).trans HS2.out
          have r_b2 := own_row s_b2
          have HGr2 := Lib.hid hgr2
          clear hz2 hK2 hX2 hgr2 s_b2 r_b
          by_cases hli : i < Wn
          · have HHi := Lib.hid (HHas.out i j wr ((Keeps.of HA2.out).trans HK2.out) (by omega) (by omega))
            rcases hb : hasB g i j
            · rw [hb] at HHi
              have HE : Hid (dX g ax ay c j mj (i + 1) = dX g ax ay c j mj i) := Lib.hid (by rw [dX, hb]; simp)
              clear hb
              go_wp2_with fail
              refine HHi.out.mono ?_
              rintro e w5 ⟨rfl, b5⟩
              have HK5 := Lib.hid (HK2.out.trans (Keeps.of b5))
              have HF5 := Lib.hid (HF2.out.any b5)
              clear b5 r_b2
              go_wp2_with fail
              go_roundg (Wn - (i + 1))
              case measure => omega
              case rel => exact ⟨i + 1, z2, rfl, by omega, by go_num, rfl, by rw [HE.out]; exact HZ2.out, HK5.out, by rw [HE.out]; exact HF5.out⟩
            · rw [hb] at HHi
              have HE : Hid (dX g ax ay c j mj (i + 1) = fillM (unitR ax ay i j) c (dX g ax ay c j mj i)) := Lib.hid (by rw [dX, hb]; simp)
              clear hb
              obtain ⟨mi, hmi⟩ : ∃ mi, dX g ax ay c j mj i = mi := ⟨_, rfl⟩
              rw [hmi] at HE HZ2 HF2 HGr2
              have hmw : mi.w ≤ 4096 := by rw [HGr2.out.w, HGr.out.w]; exact HSm.out.2.1
              have hmh : mi.rows.length ≤ 4096 := by rw [HGr2.out.h, HGr.out.h]; exact HSm.out.2.2.1
              have hm0 : 0 ≤ mi.n ∧ mi.n ≤ 4000000000000 := by have := HSm.out.2.2.2; have := HZ2.out; omega
              obtain ⟨nf, hnf⟩ : ∃ nf, cntA (unitR ax ay i j) mi.w mi.rows.length = nf := ⟨_, rfl⟩
              have nfb := cntA_max (r := unitR ax ay i j) (w := mi.w) (y := mi.rows.length) (by omega) (by omega)
              rw [hnf] at nfb
              have HZ3 : Hid ((fillM (unitR ax ay i j) c mi).n - m.n = z2 + nf) := Lib.hid (by
                show mi.n + cntA (unitR ax ay i j) mi.w mi.rows.length - m.n = _
                rw [hnf]; have := HZ2.out; omega)
              have HFi : Hid (∀ w', Fr w' a mi S → Calls Try.prog 37 #[.pointer (some ⟨a, 0, none⟩), .agg #[.int .i64 (ax + (i : Int)), .int .i64 (ay + (j : Int)), .int .i64 1, .int .i64 1], .int .u32 c] w' fun e w'' => e = .returned (.int .i64 nf) ∧ Keeps S w' w'' ∧ Fr w'' a (fillM (unitR ax ay i j) c mi) S) := Lib.hid (fun w' hf => fill_any (unitR ax ay i j) c nf hnf hf hmw hmh hm0.1 hm0.2 ⟨by unfold unitR I64; simp only; omega, by unfold unitR I64; simp only; omega, by unfold unitR I64; simp only; omega, by unfold unitR I64; simp only; omega⟩)
              clear hnf hmi hmw hmh hm0
              go_wp2_with fail
              refine HHi.out.mono ?_
              rintro e w5 ⟨rfl, b5⟩
              have HK5 := Lib.hid (HK2.out.trans (Keeps.of b5))
              have HF5 := Lib.hid (HF2.out.any b5)
              clear b5 r_b2
              go_wp2_with fail
              refine (HFi.out _ HF5.out).mono ?_
              rintro e w6 ⟨rfl, k6, f6⟩
              have HK6 := Lib.hid (HK5.out.trans k6)
              have HF6 := Lib.hid f6
              clear k6 f6
              go_wp2_with fail
              go_roundg (Wn - (i + 1))
              case measure => omega
              case rel => exact ⟨i + 1, z2 + nf, rfl, by omega, by go_num, rfl, by rw [HE.out]; exact HZ3.out, HK6.out, by rw [HE.out]; exact HF6.out⟩
          · obtain rfl : i = Wn := by omega
            have HE : Hid (dY g ax ay c m (j + 1) = dX g ax ay c j mj i) := Lib.hid (by rw [HYs.out, HMJ.out])
            go_wp2_with fail
            go_roundg (Hn - (j + 1))
            case measure => omega
            case rel => exact ⟨j + 1, z2, rfl, by omega, by go_num, rfl, by rw [HE.out]; exact HZ2.out, HK2.out, by rw [HE.out]; exact HF2.out⟩
      · obtain rfl : j = Hn := by omega
        go_wp2_with fail
        go_ret
        exact ⟨ret_int (by rw [← HZ.out, ← HN.out]), (Keeps.of HA2.out).trans HK.out, HFr.out⟩
  · have hM : drawM g ax ay c m = m := by
      unfold drawM
      rw [if_neg]
      intro q
      rw [Bool.and_eq_true] at q
      exact hgn ⟨q.2, q.1⟩
    rw [hM] at hn ⊢
    have HZ : Hid (0 = n) := Lib.hid (by omega)
    rcases hg : goodG g
    · have HG := Lib.hid (fun w' (ha : AnyLater w w') => glGood_any g _ w' false hg (HV.out.later ha) hok (by omega))
      clear hn h hv ho hg hgn hM hax hay
      generalize g.w = W at *
      generalize g.h = H at *
      unfold ptr
      go_enter Try.func29, Try.ntmps29
      go_wp2_with fail
      first | refine settle_wp (fun wS => AnyLater w wS ∧ wS.heap[w.heap.size]? = some (.cells #[.int .i64 W, .int .i64 H, .slice A nr cap] 51)) ?_ ?_ | refine settle_calls (fun wS => AnyLater w wS ∧ wS.heap[w.heap.size]? = some (.cells #[.int .i64 W, .int .i64 H, .slice A nr cap] 51)) ?_ ?_
      · refine ⟨?_, ?_⟩
        · repeat' (first | with_reducible assumption | with_reducible exact AnyLater.refl _ | with_reducible apply AnyLater.setCell | with_reducible apply AnyLater.later | with_reducible apply AnyLater.drewN | with_reducible apply AnyLater.drew | with_reducible apply AnyLater.alloc | ((try simp only [World.size_alloc, World.size_setCell, World.size_drew]); (try dsimp only); omega))
        · ((repeat (first | with_reducible assumption | ((with_reducible apply heap_new); (try simp only [World.size_alloc, World.size_setCell, World.size_drew, World.heap_drewN]); done) | ((with_reducible apply heap_new); (try simp only [World.size_alloc, World.size_setCell, World.size_drew, World.heap_drewN]); omega) | (with_reducible refine heap_old (by (try simp only [World.size_alloc, World.size_setCell, World.size_drew, World.heap_drewN]); omega) ?_) | (with_reducible refine heap_drew ?_) | (with_reducible refine heap_far (by omega) ?_) | (with_reducible apply heap_at))); all_goals rfl)
      rintro w1 ⟨b_w1, s0_w1⟩
      have a_w1 := b_w1
      have r0_w1 := own_row s0_w1
      have f0_w1 := own_free s0_w1
      have l0_w1 := own_lt s0_w1
      have z_w1 := b_w1.below.size
      refine (HG.out w1 a_w1).mono ?_
      rintro e w2 ⟨rfl, b2⟩
      have HA2 := Lib.hid (a_w1.trans b2)
      clear b2 r0_w1 s0_w1
      go_wp2_with fail
      go_ret
      exact ⟨ret_int HZ.out, Keeps.of HA2.out, HF.out.any HA2.out⟩
    · have HG := Lib.hid (fun w' (ha : AnyLater w w') => glGood_any g _ w' true hg (HV.out.later ha) hok (by omega))
      have hnn : ¬ (-1048576 ≤ ax ∧ ax ≤ 1048576 ∧ -1048576 ≤ ay ∧ ay ≤ 1048576) := fun q => hgn ⟨hg, decide_eq_true q⟩
      rcases e1 : decide (-1048576 ≤ ax ∧ ax ≤ 1048576)
      · have HP1 := Lib.hid (fun w' => glPlace_any ax w' false e1 hax)
        clear hn h hv ho hg hgn hM hax hay e1 hnn
        generalize g.w = W at *
        generalize g.h = H at *
        unfold ptr
        go_enter Try.func29, Try.ntmps29
        go_wp2_with fail
        first | refine settle_wp (fun wS => AnyLater w wS ∧ wS.heap[w.heap.size]? = some (.cells #[.int .i64 W, .int .i64 H, .slice A nr cap] 51)) ?_ ?_ | refine settle_calls (fun wS => AnyLater w wS ∧ wS.heap[w.heap.size]? = some (.cells #[.int .i64 W, .int .i64 H, .slice A nr cap] 51)) ?_ ?_
        · refine ⟨?_, ?_⟩
          · repeat' (first | with_reducible assumption | with_reducible exact AnyLater.refl _ | with_reducible apply AnyLater.setCell | with_reducible apply AnyLater.later | with_reducible apply AnyLater.drewN | with_reducible apply AnyLater.drew | with_reducible apply AnyLater.alloc | ((try simp only [World.size_alloc, World.size_setCell, World.size_drew]); (try dsimp only); omega))
          · ((repeat (first | with_reducible assumption | ((with_reducible apply heap_new); (try simp only [World.size_alloc, World.size_setCell, World.size_drew, World.heap_drewN]); done) | ((with_reducible apply heap_new); (try simp only [World.size_alloc, World.size_setCell, World.size_drew, World.heap_drewN]); omega) | (with_reducible refine heap_old (by (try simp only [World.size_alloc, World.size_setCell, World.size_drew, World.heap_drewN]); omega) ?_) | (with_reducible refine heap_drew ?_) | (with_reducible refine heap_far (by omega) ?_) | (with_reducible apply heap_at))); all_goals rfl)
        rintro w1 ⟨b_w1, s0_w1⟩
        have a_w1 := b_w1
        have r0_w1 := own_row s0_w1
        have f0_w1 := own_free s0_w1
        have l0_w1 := own_lt s0_w1
        have z_w1 := b_w1.below.size
        refine (HG.out w1 a_w1).mono ?_
        rintro e w2 ⟨rfl, b2⟩
        have HA2 := Lib.hid (a_w1.trans b2)
        clear b2 r0_w1 s0_w1
        go_wp2_with fail
        refine (HP1.out w2).mono ?_
        rintro e w' ⟨rfl, rfl⟩
        go_wp2_with fail
        go_ret
        exact ⟨ret_int HZ.out, Keeps.of HA2.out, HF.out.any HA2.out⟩
      · have HP1 := Lib.hid (fun w' => glPlace_any ax w' true e1 hax)
        have e2 : decide (-1048576 ≤ ay ∧ ay ≤ 1048576) = false := decide_eq_false (fun q => hnn ⟨(of_decide_eq_true e1).1, (of_decide_eq_true e1).2, q.1, q.2⟩)
        have HP2 := Lib.hid (fun w' => glPlace_any ay w' false e2 hay)
        clear hn h hv ho hg hgn hM hax hay e1 e2 hnn
        generalize g.w = W at *
        generalize g.h = H at *
        unfold ptr
        go_enter Try.func29, Try.ntmps29
        go_wp2_with fail
        first | refine settle_wp (fun wS => AnyLater w wS ∧ wS.heap[w.heap.size]? = some (.cells #[.int .i64 W, .int .i64 H, .slice A nr cap] 51)) ?_ ?_ | refine settle_calls (fun wS => AnyLater w wS ∧ wS.heap[w.heap.size]? = some (.cells #[.int .i64 W, .int .i64 H, .slice A nr cap] 51)) ?_ ?_
        · refine ⟨?_, ?_⟩
          · repeat' (first | with_reducible assumption | with_reducible exact AnyLater.refl _ | with_reducible apply AnyLater.setCell | with_reducible apply AnyLater.later | with_reducible apply AnyLater.drewN | with_reducible apply AnyLater.drew | with_reducible apply AnyLater.alloc | ((try simp only [World.size_alloc, World.size_setCell, World.size_drew]); (try dsimp only); omega))
          · ((repeat (first | with_reducible assumption | ((with_reducible apply heap_new); (try simp only [World.size_alloc, World.size_setCell, World.size_drew, World.heap_drewN]); done) | ((with_reducible apply heap_new); (try simp only [World.size_alloc, World.size_setCell, World.size_drew, World.heap_drewN]); omega) | (with_reducible refine heap_old (by (try simp only [World.size_alloc, World.size_setCell, World.size_drew, World.heap_drewN]); omega) ?_) | (with_reducible refine heap_drew ?_) | (with_reducible refine heap_far (by omega) ?_) | (with_reducible apply heap_at))); all_goals rfl)
        rintro w1 ⟨b_w1, s0_w1⟩
        have a_w1 := b_w1
        have r0_w1 := own_row s0_w1
        have f0_w1 := own_free s0_w1
        have l0_w1 := own_lt s0_w1
        have z_w1 := b_w1.below.size
        refine (HG.out w1 a_w1).mono ?_
        rintro e w2 ⟨rfl, b2⟩
        have HA2 := Lib.hid (a_w1.trans b2)
        clear b2 r0_w1 s0_w1
        go_wp2_with fail
        refine (HP1.out w2).mono ?_
        rintro e w' ⟨rfl, rfl⟩
        go_wp2_with fail
        refine (HP2.out w2).mono ?_
        rintro e w' ⟨rfl, rfl⟩
        go_wp2_with fail
        go_ret
        exact ⟨ret_int HZ.out, Keeps.of HA2.out, HF.out.any HA2.out⟩
theorem dsays : DSays Fr where
  draw ax ay c n hn h hs hv ho hok hl hax hay _ := (draw_any ax ay c n hn h hs hv ho hok hl hax hay).mono fun _ _ ⟨h1, h2, h3⟩ => ⟨h1, h2, _, h3, fun _ hk => .inl hk⟩
end Go.Proofs.Ytfliniknaonieaa
