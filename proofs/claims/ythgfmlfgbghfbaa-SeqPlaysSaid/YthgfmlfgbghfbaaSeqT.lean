/- seq: SeqMany, walked. -/
import Derived.Test.YthgfmlfgbghfbaaSeqS
import Derived.Test.YthgfmlfgbghfbaaFree
import Derived.Test.YthgfmlfgbghfbaaClc
import Derived.Test.YthgfmlfgbghfbaaStor
import Derived.Lib.AppendZeros
import Derived.LoopN
import Derived.Deep.LoopGhost
import Derived.BigRegion
import Derived.RegionTactic
import Derived.Shelf.Abstract
import Derived.ChangeKeysEq
import Derived.Deep.DeepCutAuto
import Derived.Deep.CutBlock
namespace Go.Proofs.Ythgfmlfgbghfbaa
set_option linter.unusedSimpArgs false
set_option linter.unusedVariables false
set_option linter.unusedSectionVars false
open Go.RowKit


/-- where the i-th goes: at the beginning, the end or the middle -/
def manyAt (r : Int) (a b c : Int) : Int := if r = 0 then a else if r = 1 then b else c
theorem many_i0 (a b c : Int) (w : World) : (Instr.index 51 (.agg #[.int .i64 a, .int .i64 b, .int .i64 c]) (.int .u8 0)).run Try.prog w = .ok (.int .i64 a) w := by kernel_rfl
theorem many_i1 (a b c : Int) (w : World) : (Instr.index 51 (.agg #[.int .i64 a, .int .i64 b, .int .i64 c]) (.int .u8 1)).run Try.prog w = .ok (.int .i64 b) w := by kernel_rfl
theorem many_i2 (a b c : Int) (w : World) : (Instr.index 51 (.agg #[.int .i64 a, .int .i64 b, .int .i64 c]) (.int .u8 2)).run Try.prog w = .ok (.int .i64 c) w := by kernel_rfl
theorem many_index (r : Int) (hr : 0 ≤ r ∧ r ≤ 2) (a b c : Int) (w : World) : (Instr.index 51 (.agg #[.int .i64 a, .int .i64 b, .int .i64 c]) (.int .u8 r)).run Try.prog w = .ok (.int .i64 (manyAt r a b c)) w := by
  have h : r = 0 ∨ r = 1 ∨ r = 2 := by omega
  rcases h with rfl | rfl | rfl
  · exact many_i0 a b c w
  · exact many_i1 a b c w
  · exact many_i2 a b c w
theorem tall_field (a b : Int) (w : World) : (Instr.field 34 (.agg #[.int .i64 a, .int .i64 b]) 0).run Try.prog w = .ok (.int .i64 a) w := by kernel_rfl
theorem many_in (r : Int) (n : Nat) : ∃ a : Nat, manyAt r 0 n ((n : Int) / 2) = (a : Int) ∧ a ≤ n := by
  unfold manyAt
  split
  · exact ⟨0, rfl, Nat.zero_le _⟩
  · split
    · exact ⟨n, rfl, Nat.le_refl _⟩
    · exact ⟨n / 2, by omega, by omega⟩
theorem many_out (r : Int) (n : Nat) (h : 0 < n) : ∃ a : Nat, manyAt r 0 ((n : Int) - 1) ((n : Int) / 2) = (a : Int) ∧ a < n := by
  unfold manyAt
  split
  · exact ⟨0, rfl, h⟩
  · split
    · exact ⟨n - 1, by omega, by omega⟩
    · exact ⟨n / 2, by omega, by omega⟩
theorem many_ins {l : Qs} {a n : Nat} (h : l.length = n) (hs : tlR l = n) (ha : a ≤ n) (x : Int) : (l.take a ++ [(1, x)] ++ l.drop a).length = n + 1 ∧ tlR (l.take a ++ [(1, x)] ++ l.drop a) = ((n + 1 : Nat) : Int) := by
  have e : tlR (l.take a) + tlR (l.drop a) = tlR l := by rw [← tlR_append, List.take_append_drop]
  rw [List.length_append, List.length_append, tlR_append, tlR_append, List.length_take, List.length_drop]
  simp [tlR]
  omega
set_option maxRecDepth 100000 in
set_option maxHeartbeats 3200000 in
theorem seqMany_any (wh n0 : Int) (w : World) (h1 : 0 ≤ wh ∧ wh ≤ 255) (h2 : 0 ≤ n0 ∧ n0 ≤ 255) : Calls Try.prog 6 #[.int .u8 wh, .int .u8 n0] w fun e w' => e = .returned (.bool true) ∧ AnyLater w w' := by
  obtain ⟨n, rfl⟩ := Int.eq_ofNat_of_zero_le h2.1
  have hn : n ≤ 255 := by omega
  obtain ⟨r, hr⟩ : ∃ r, wh % 3 = r := ⟨_, rfl⟩
  have hr2 : 0 ≤ r ∧ r ≤ 2 := by omega
  have HIx := many_index r hr2
  have HN := Lib.hid (sqnew_any (.slice none 0 0) [] w (QR.void w none 0) (by decide) (by decide))
  have HLi := Lib.hid (fun w' => sqlives_any w')
  obtain ⟨h3, h4⟩ := h1
  clear h2 hr2
  go_enter Try.func6, Try.ntmps6
  go_wp2_with fail
  refine HN.out.mono ?_
  rintro e w1 ⟨g, t0, rfl, b1, hq, hs⟩
  have HQ0 := Lib.hid (And.intro b1 (And.intro hq hs))
  have HBw := Lib.hid (Nat.le_refl w.heap.size)
  have HG := Lib.hid hq.base
  obtain ⟨B, hB⟩ : ∃ B, w.heap.size = B := ⟨_, rfl⟩
  rw [hB] at HQ0 HG
  have HBB := Lib.hid hB
  clear b1 hq hs HN hB
  go_wp2_with fail
  go_loopg [7] n (fun kk iv wr => ∃ (j : Nat) (t : Ht), kk = n - j ∧ j ≤ n ∧ iv = .int .i64 j ∧ Hid (AnyLater w wr ∧ QAt B wr g t ∧ t.hs.length = j ∧ tlR t.hs = (j : Int)))
  case atStart => exact ⟨0, t0, by omega, by omega, rfl, Lib.hid ⟨HQ0.out.1, HQ0.out.2.1, by rw [HQ0.out.2.2]; rfl, by rw [HQ0.out.2.2]; rfl⟩⟩
  case round =>
    obtain ⟨j, t, rfl, hj, rfl, HI⟩ := hrel
    by_cases hlt : j < n
    · obtain ⟨a, ha, ha2⟩ := many_in r j
      have HA := Lib.hid (And.intro ha ha2)
      have HIn : Hid (∀ (w2 : World) (u : Value), AnyLater wr w2 → QR w2 u [(1, (j : Int))] → Calls Try.prog 21 #[.pointer (some ⟨g, 0, none⟩), .int .i64 (a : Int), u] w2 fun e w' => e = .returned (.int .i64 0) ∧ QDone B w2 g t (t.hs.take a ++ [(1, (j : Int))] ++ t.hs.drop a) w') := Lib.hid (fun w2 u a2 hu => sqins_yes g u t a [(1, (j : Int))] w2 (HI.out.2.1.later a2) (by rw [HI.out.2.2.1]; exact ha2) hu (by rw [HI.out.2.2.1]; simp; omega) (by simp [tlBad]; omega))
      have HEnd : Hid (∀ (w2 w3 : World), AnyLater wr w2 → QDone B w2 g t (t.hs.take a ++ [(1, (j : Int))] ++ t.hs.drop a) w3 → ∃ t', AnyLater w w3 ∧ QAt B w3 g t' ∧ t'.hs.length = j + 1 ∧ tlR t'.hs = ((j + 1 : Nat) : Int)) := Lib.hid (fun w2 w3 a2 hq => by
        have ha3 := hq.any (HI.out.1.trans a2) (Nat.le_of_eq HBB.out) HG.out
        obtain ⟨⟨t', k1, k2, _⟩, _⟩ := hq
        obtain ⟨m1, m2⟩ := many_ins HI.out.2.2.1 HI.out.2.2.2 ha2 (j : Int)
        exact ⟨t', ha3, k1, by rw [k2]; exact m1, by rw [k2]; exact m2⟩)
      have HL : Hid (∀ (w2 : World) (q : Nat), w2.heap[q]? = some (.cells #[.int .i64 1, .int .i64 (j : Int)] 34) → QR w2 (.slice (some ⟨q, 0, none⟩) 1 1) [(1, (j : Int))]) := Lib.hid (fun w2 q h => QR.lit [(1, (j : Int))] h rfl)
      clear ha2
      go_wp2_with fail
      have a_wr := HI.out.1
      first | refine settle_wp (fun wS => AnyLater wr wS ∧ wS.heap[wr.heap.size]? = some (.cells #[.int .i64 1, .int .i64 (j : Int)] 34)) ?_ ?_ | refine settle_calls (fun wS => AnyLater wr wS ∧ wS.heap[wr.heap.size]? = some (.cells #[.int .i64 1, .int .i64 (j : Int)] 34)) ?_ ?_
      · refine ⟨?_, ?_⟩
        · repeat' (first | with_reducible assumption | with_reducible exact AnyLater.refl _ | with_reducible apply AnyLater.setCell | with_reducible apply AnyLater.later | with_reducible apply AnyLater.drewN | with_reducible apply AnyLater.drew | with_reducible apply AnyLater.alloc | ((try simp only [World.size_alloc, World.size_setCell, World.size_drew]); (try dsimp only); omega))
        · ((repeat (first | with_reducible assumption | ((with_reducible apply heap_new); (try simp only [World.size_alloc, World.size_setCell, World.size_drew, World.heap_drewN]); done) | ((with_reducible apply heap_new); (try simp only [World.size_alloc, World.size_setCell, World.size_drew, World.heap_drewN]); omega) | (with_reducible refine heap_old (by (try simp only [World.size_alloc, World.size_setCell, World.size_drew, World.heap_drewN]); omega) ?_) | (with_reducible refine heap_drew ?_) | (with_reducible refine heap_far (by omega) ?_) | (with_reducible apply heap_at))); all_goals rfl)
      rintro w2 ⟨b_w2, s0_w2⟩
      have a_w2 := a_wr.trans b_w2
      have r0_w2 := own_row s0_w2
      have f0_w2 := own_free s0_w2
      have l0_w2 := own_lt s0_w2
      have z_w2 := b_w2.below.size
      refine (HIn.out w2 _ b_w2 (HL.out w2 _ s0_w2)).mono ?_
      rintro e w3 ⟨rfl, hq⟩
      obtain ⟨t', k1, k2, k3, k4⟩ := HEnd.out w2 w3 b_w2 hq
      have HZ := Lib.hid (And.intro k1 (And.intro k2 (And.intro k3 k4)))
      clear hq k1 k2 k3 k4 b_w2 a_w2 s0_w2 r0_w2 f0_w2 l0_w2
      go_wp2_with fail
      go_roundg (n - (j + 1))
      case measure => omega
      case rel => exact ⟨j + 1, t', rfl, hlt, by go_num, HZ.out⟩
    · obtain rfl : j = n := by omega
      have hf := HI.out.2.1.fit
      have HC := Lib.hid (sqcheck_any g t wr HI.out.2.1.q hf HI.out.2.1.ok.fine.1)
      have HLn : Hid (∀ w', AnyLater wr w' → Calls Try.prog 13 #[.pointer (some ⟨g, 0, none⟩)] w' fun e w'' => e = .returned (.int .i64 (j : Int)) ∧ AnyLater w' w'') := Lib.hid (fun w' a => by
        have := sqlen_any (.pointer (some ⟨g, 0, none⟩)) t w' (HI.out.2.1.later a).q.nil_or hf
        rwa [HI.out.2.2.1] at this)
      have HSm : Hid (∀ w', AnyLater wr w' → Calls Try.prog 19 #[.pointer (some ⟨g, 0, none⟩), .int .i64 300] w' fun e w'' => e = .returned (.agg #[.int .i64 (j : Int), .int .i64 (tlH t.hs)]) ∧ AnyLater w' w'') := Lib.hid (fun w' a => by
        have e : sumN t.hs 300 = t.hs.length := by
          unfold sumN clcClamp
          rw [HI.out.2.2.1, if_neg (by omega), if_pos (by omega)]
          simp
        exact sqsum_any _ t 300 w' _ _ (by rw [e, List.take_length, HI.out.2.2.2]) (by rw [e, List.take_length]) (HI.out.2.1.later a).q.nil_or hf)
      have tf := tall_field
      clear hf
      generalize tlH t.hs = H0 at *
      go_wp2_with fail
      have a0 := AnyLater.refl wr
      refine HC.out.mono ?_
      rintro e w2 ⟨rfl, b2⟩
      have B2 := Lib.hid b2
      clear b2
      go_wp2_with fail
      refine (HLn.out _ B2.out).mono ?_
      rintro e w3 ⟨rfl, b3⟩
      have B3 := Lib.hid (B2.out.trans b3)
      clear b3
      go_wp2_with fail
      refine (HSm.out _ B3.out).mono ?_
      rintro e w4 ⟨rfl, b4⟩
      have B4 := Lib.hid (B3.out.trans b4)
      clear b4
      go_wp2_with fail
      have HQ4 := Lib.hid (And.intro (HI.out.1.trans B4.out) (And.intro (HI.out.2.1.later B4.out) HI.out.2.2.1))
      clear HC HLn HSm B2 B3 B4 HI HQ0 a0
      go_loopg [9] j (fun kk iv wr => ∃ (t : Ht), iv = .int .i64 kk ∧ kk ≤ j ∧ Hid (AnyLater w wr ∧ QAt B wr g t ∧ t.hs.length = kk))
      case atStart => exact ⟨t, rfl, Nat.le_refl _, HQ4⟩
      case round =>
        obtain ⟨t2, rfl, hkj, HI⟩ := hrel
        by_cases hpos : 0 < gk
        · obtain ⟨a, ha, ha2⟩ := many_out r gk hpos
          have d1 : decide (gk ≤ a) = false := decide_eq_false (by omega)
          have HD : Hid (Calls Try.prog 22 #[.pointer (some ⟨g, 0, none⟩), .int .i64 (a : Int), .int .i64 1] wr fun e w' => e = .returned (.int .i64 0) ∧ QDone B wr g t2 (t2.hs.take a ++ t2.hs.drop (a + 1)) w') := Lib.hid (sqdel_yes g t2 a 1 wr HI.out.2.1 (by rw [HI.out.2.2]; exact ha2))
          have HEnd : Hid (∀ (w3 : World), QDone B wr g t2 (t2.hs.take a ++ t2.hs.drop (a + 1)) w3 → ∃ t', AnyLater w w3 ∧ QAt B w3 g t' ∧ t'.hs.length = gk - 1) := Lib.hid (fun w3 hq => by
            have ha3 := hq.any HI.out.1 (Nat.le_of_eq HBB.out) HG.out
            obtain ⟨⟨t', k1, k2, _⟩, _⟩ := hq
            refine ⟨t', ha3, k1, ?_⟩
            rw [k2, List.length_append, List.length_take, List.length_drop, HI.out.2.2]
            omega)
          have hg1 : ((gk - 1 : Nat) : Int) = (gk : Int) - 1 := by omega
          have HN1 := Lib.hid hg1
          clear hg1
          go_wp2_with fail
          refine HD.out.mono ?_
          rintro e w3 ⟨rfl, hq⟩
          obtain ⟨t', k1, k2, k3⟩ := HEnd.out w3 hq
          have HC := Lib.hid (sqcheck_any g t' w3 k2.q k2.fit k2.ok.fine.1)
          have HZ := Lib.hid (fun w' (a' : AnyLater w3 w') => And.intro (k1.trans a') (And.intro (k2.later a') k3))
          clear hq k1 k2 k3 HD HEnd
          by_cases h8 : gk % 8 = 0
          · have e8 : (((gk : Int) % 8 : Int) == 0) = true := by simp; omega
            have e9 : (gk : Int) % 8 = 0 := by omega
            go_wp2_with fail
            refine HC.out.mono ?_
            rintro e w4 ⟨rfl, b4⟩
            have B4 := Lib.hid b4
            clear b4
            go_wp2_with fail
            go_roundg (gk - 1)
            case measure => omega
            case rel => exact ⟨t', by rw [HN1.out], by omega, Lib.hid (HZ.out _ B4.out)⟩
          · have e8 : (((gk : Int) % 8 : Int) == 0) = false := by simp; omega
            go_wp2_with fail
            go_roundg (gk - 1)
            case measure => omega
            case rel => exact ⟨t', by rw [HN1.out], by omega, Lib.hid (HZ.out _ (AnyLater.refl _))⟩
        · obtain rfl : gk = 0 := by omega
          have HL0 : Hid (Calls Try.prog 13 #[.pointer (some ⟨g, 0, none⟩)] wr fun e w'' => e = .returned (.int .i64 0) ∧ AnyLater wr w'') := Lib.hid (by
            have := sqlen_any (.pointer (some ⟨g, 0, none⟩)) t2 wr HI.out.2.1.q.nil_or HI.out.2.1.fit
            rwa [HI.out.2.2] at this)
          have HW := Lib.hid HI.out.1
          go_wp2_with fail
          refine HL0.out.mono ?_
          rintro e w4 ⟨rfl, b4⟩
          have B4 := Lib.hid (HW.out.trans b4)
          clear b4
          go_wp2_with fail
          refine (HLi.out _).mono ?_
          rintro e w5 ⟨rfl, b5⟩
          have B5 := Lib.hid (B4.out.trans b5)
          clear b5
          go_wp2_with fail
          go_ret
          exact ⟨rfl, B5.out⟩
end Go.Proofs.Ythgfmlfgbghfbaa
