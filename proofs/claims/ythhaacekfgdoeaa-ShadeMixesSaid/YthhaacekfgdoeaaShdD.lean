/- shade: ShadeMixes, ShadeHexes, ShadeParses, walked. -/
import Derived.Test.YthhaacekfgdoeaaShdK
import Derived.Test.YthhaacekfgdoeaaShdP
import Derived.Test.YthhaacekfgdoeaaShdH
namespace Go.Proofs.Ythhaacekfgdoeaa
set_option linter.unusedSimpArgs false
set_option linter.unusedVariables false
set_option linter.unusedSectionVars false
open Go.RowKit

/-- what the program's functions of colours are to tell -/
structure SCol : Prop extends SLow where
  gray : ∀ {w : World} (a n : Int), grayZ a = n → U32s a → Calls Try.prog 9 #[.int .u32 a] w fun e w' => e = .returned (.int .i64 n) ∧ AnyLater w w'
  parseY : ∀ {w : World} (l : List UInt8) (n : Int), parseL l = some n → Calls Try.prog 12 #[.string (mkS l)] w fun e w' => e = .returned (.tuple #[.int .u32 n, .bool true]) ∧ AnyLater w w'
  parseN : ∀ {w : World} (l : List UInt8), parseL l = none → (l.length : Int) ≤ 9223372036854775807 → Calls Try.prog 12 #[.string (mkS l)] w fun e w' => e = .returned (.tuple #[.int .u32 0, .bool false]) ∧ AnyLater w w'
theorem str_same {a b : List UInt8} (h : a = b) : ((mkS a).toList == (mkS b).toList) = true := by rw [h]; simp
set_option maxRecDepth 100000 in
set_option maxHeartbeats 3200000 in
theorem shadeMixes_any (T : SCol) (W : World) (a b : Int) (ha : U32s a) (hb : U32s b) : Calls Try.prog 3 #[.int .u32 a, .int .u32 b] W fun e w' => e = .returned (.bool true) ∧ AnyLater W w' := by
  have HLv := Lib.hid (fun w => slives_any T.toSLow w)
  have HP := Lib.hid (fun w => parts_any a w ha)
  obtain ⟨mx, hmx⟩ : ∃ z, mixZ a b = z := ⟨_, rfl⟩
  have M1 := Lib.hid (fun (w : World) => T.mix (w := w) a b mx hmx ha hb)
  have M2 := Lib.hid (fun (w : World) => refMix_any a b w mx hmx ha hb)
  have M3 := Lib.hid (fun (w : World) => T.mix (w := w) a a (a % 16777216) (mixZ_self ha.1) ha ha)
  have Gy := Lib.hid (fun (w : World) => T.gray (w := w) a _ rfl ha)
  obtain ⟨a1, a2⟩ := ha
  unfold grayZ at Gy
  have x1 : 0 ≤ a / 65536 % 256 ∧ a / 65536 % 256 ≤ 255 := by omega
  have x2 : 0 ≤ a / 256 % 256 ∧ a / 256 % 256 ≤ 255 := by omega
  have x3 : 0 ≤ a % 256 ∧ a % 256 ≤ 255 := by omega
  generalize a / 65536 % 256 = p0 at *
  generalize a / 256 % 256 = p1 at *
  generalize a % 256 = p2 at *
  obtain ⟨u1, u2⟩ := x1
  obtain ⟨u3, u4⟩ := x2
  obtain ⟨u5, u6⟩ := x3
  clear T hmx hb
  go_enter Try.func3, Try.ntmps3
  go_wp2_with fail
  refine (HP.out _).mono ?_
  rintro e w1 ⟨rfl, b1⟩
  have a_w1 := b1
  clear b1
  go_upto_region 2 with fail
  first | refine settle_wp (fun wS => AnyLater w1 wS ∧ wS.heap[w1.heap.size]? = some (.cells #[.int .u32 p0, .int .u32 p1, .int .u32 p2] 23)) ?_ ?_ | refine settle_calls (fun wS => AnyLater w1 wS ∧ wS.heap[w1.heap.size]? = some (.cells #[.int .u32 p0, .int .u32 p1, .int .u32 p2] 23)) ?_ ?_
  · refine ⟨?_, ?_⟩
    · repeat' (first | with_reducible assumption | with_reducible exact AnyLater.refl _ | with_reducible apply AnyLater.setCell | with_reducible apply AnyLater.later | with_reducible apply AnyLater.drewN | with_reducible apply AnyLater.drew | with_reducible apply AnyLater.alloc | ((try simp only [World.size_alloc, World.size_setCell, World.size_drew]); (try dsimp only); omega))
    · ((repeat (first | with_reducible assumption | ((with_reducible apply heap_new); (try simp only [World.size_alloc, World.size_setCell, World.size_drew, World.heap_drewN]); done) | ((with_reducible apply heap_new); (try simp only [World.size_alloc, World.size_setCell, World.size_drew, World.heap_drewN]); omega) | (with_reducible refine heap_old (by (try simp only [World.size_alloc, World.size_setCell, World.size_drew, World.heap_drewN]); omega) ?_) | (with_reducible refine heap_drew ?_) | (with_reducible refine heap_far (by omega) ?_) | (with_reducible apply heap_at))); all_goals rfl)
  rintro w2 ⟨b_w2, s0_w2⟩
  have a_w2 := a_w1.trans b_w2
  have r0_w2 := own_row s0_w2
  have f0_w2 := own_free s0_w2
  have l0_w2 := own_lt s0_w2
  have z_w2 := b_w2.below.size
  go_wp2_with fail
  apply wp_region_free (35) [⟨2, 10, .int .u32 mx, false, fun v _ => v = .int .u32 mx⟩, ⟨5, 13, .int .u32 mx, false, fun v _ => v = .int .u32 mx⟩, ⟨9, 17, .int .i64 ((3 * p0 + 6 * p1 + p2) / 10), false, fun v _ => v = .int .i64 ((3 * p0 + 6 * p1 + p2) / 10)⟩, ⟨27, 35, .int .u32 (a % 16777216), false, fun v _ => v = .int .u32 (a % 16777216)⟩, ⟨33, 41, .bool true, false, fun v _ => v = .bool true⟩] [] rfl (by kernel_rfl) (by kernel_rfl) (by kernel_rfl) (by simp) (by kernel_rfl)
  case hstab =>
    intro c hc
    simp only [List.mem_cons, List.not_mem_nil, or_false] at hc
    rcases hc with rfl | rfl | rfl | rfl | rfl
    · intro v x y hxy hv; exact hv
    · intro v x y hxy hv; exact hv
    · intro v x y hxy hv; exact hv
    · intro v x y hxy hv; exact hv
    · intro v x y hxy hv; exact hv
  case hfix =>
    intro c hc
    simp only [List.mem_cons, List.not_mem_nil, or_false] at hc
    rcases hc with rfl | rfl | rfl | rfl | rfl
    · exact .inr fun u x h => h
    · exact .inr fun u x h => h
    · exact .inr fun u x h => h
    · exact .inr fun u x h => h
    · exact .inr fun u x h => h
  case hlex =>
    intro U hU
    have q0 := own_row (any_own hU s0_w2)
    simp only [List.map_cons, List.map_nil, CA.act, actFrom, actOp, List.lookup, Nat.reduceBEq, Nat.reduceLeDiff, Nat.reduceAdd, if_false, if_true]
    repeat (go_big_quiet_step (first | fail))
    exact wpQuiet_nil rfl
  case hstep =>
    intro j hj o ho
    have hj2 : j = 0 ∨ j = 1 ∨ j = 2 ∨ j = 3 ∨ j = 4 := by simp at hj; omega
    rcases hj2 with rfl | rfl | rfl | rfl | rfl
    · cases ho
      refine ⟨rfl, fun g x hx hp => ?_⟩
      clear hp
      simp only [fillAll, Act.put, List.setIfInBounds_toArray, List.set_cons_zero, List.set_cons_succ]
      refine chain_go ?_ (free_fix (M1.out x))
      simp [go_sem, execOp]
    · cases ho
      refine ⟨rfl, fun g x hx hp => ?_⟩
      clear hp
      simp only [fillAll, Act.put, List.setIfInBounds_toArray, List.set_cons_zero, List.set_cons_succ]
      refine chain_go ?_ (free_fix (M2.out x))
      simp [go_sem, execOp]
    · cases ho
      refine ⟨rfl, fun g x hx hp => ?_⟩
      clear hp
      simp only [fillAll, Act.put, List.setIfInBounds_toArray, List.set_cons_zero, List.set_cons_succ]
      refine chain_go ?_ (free_fix (Gy.out x))
      simp [go_sem, execOp]
    · cases ho
      refine ⟨rfl, fun g x hx hp => ?_⟩
      clear hp
      simp only [fillAll, Act.put, List.setIfInBounds_toArray, List.set_cons_zero, List.set_cons_succ]
      refine chain_go ?_ (free_fix (M3.out x))
      simp [go_sem, execOp]
    · cases ho
      refine ⟨rfl, fun g x hx hp => ?_⟩
      clear hp
      simp only [fillAll, Act.put, List.setIfInBounds_toArray, List.set_cons_zero, List.set_cons_succ]
      refine chain_go ?_ (free_fix (HLv.out x))
      simp [go_sem, execOp]
  case htail =>
    intro g u hst hne
    have b_w3 : AnyLater w2 (later u) := ⟨u, rfl⟩
    generalize later u = w3 at *
    clear u
    clear hst hne
    simp only [fillAll, Act.put, List.setIfInBounds_toArray, List.set_cons_zero, List.set_cons_succ, List.drop_succ_cons, List.drop_zero, List.drop_nil]
    have z_w3 := b_w3.below.size
    have a_w3 := a_w2.trans b_w3
    have s0_w3 := any_own b_w3 s0_w2
    have r0_w3 := own_row s0_w3
    have f0_w3 := own_free s0_w3
    have l0_w3 := own_lt s0_w3
    (try clear r0_w2); (try clear f0_w2)
    go_wp2_with fail
    go_ret
    exact ⟨rfl, a_w3⟩
set_option maxRecDepth 100000 in
set_option maxHeartbeats 1600000 in
theorem shadeHexes_any (T : SCol) (W : World) (c : Int) (hc : U32s c) : Calls Try.prog 4 #[.int .u32 c] W fun e w' => e = .returned (.bool true) ∧ AnyLater W w' := by
  have HLv := Lib.hid (fun w => slives_any T.toSLow w)
  have HH := Lib.hid (fun (w : World) => T.hex (w := w) c hc)
  have HR := Lib.hid (fun (w : World) => refHex_any c w hc)
  have HP := Lib.hid (fun (w : World) => T.parseY (w := w) (hexL c) _ (parse_hex hc.1))
  generalize mkS (hexL c) = S at *
  obtain ⟨c1, c2⟩ := hc
  clear T
  go_enter Try.func4, Try.ntmps4
  go_wp2_with fail
  refine (HH.out _).mono ?_
  rintro e w1 ⟨rfl, b1⟩
  have H1 := Lib.hid b1
  clear b1
  go_wp2_with fail
  refine (HP.out _).mono ?_
  rintro e w2 ⟨rfl, b2⟩
  have H2 := Lib.hid (H1.out.trans b2)
  clear b2
  go_wp2_with fail
  refine (HR.out _).mono ?_
  rintro e w3 ⟨rfl, b3⟩
  have H3 := Lib.hid (H2.out.trans b3)
  clear b3
  go_wp2_with fail
  refine (HLv.out _).mono ?_
  rintro e w4 ⟨rfl, b4⟩
  have H4 := Lib.hid (H3.out.trans b4)
  clear b4
  go_wp2_with fail
  go_ret
  exact ⟨rfl, H4.out⟩
set_option maxRecDepth 100000 in
set_option maxHeartbeats 1600000 in
theorem shadeParses_any (T : SCol) (W : World) (l : List UInt8) (hl : (l.length : Int) ≤ 9223372036854775807) : Calls Try.prog 5 #[.string (mkS l)] W fun e w' => e = .returned (.bool true) ∧ AnyLater W w' := by
  have HLv := Lib.hid (fun w => slives_any T.toSLow w)
  have hsz := mkS_size l
  cases hp : parseL l with
  | none =>
    have HP := Lib.hid (fun (w : World) => T.parseN (w := w) l hp hl)
    by_cases h6 : l.length = 6
    · have hd : (l.take 7).all isDig = false := by
        rw [List.take_of_length_le (by omega)]
        exact (parse_none hp).resolve_left (fun h => h h6)
      have HD := Lib.hid (fun (w : World) => digits_any l w false hd hl)
      rw [h6] at hsz
      generalize mkS l = S at *
      clear T hp hd hl h6
      go_enter Try.func5, Try.ntmps5
      go_wp2_with fail
      refine (HP.out _).mono ?_
      rintro e w1 ⟨rfl, b1⟩
      have H1 := Lib.hid b1
      clear b1
      go_wp2_with fail
      refine (HD.out _).mono ?_
      rintro e w2 ⟨rfl, b2⟩
      have H2 := Lib.hid (H1.out.trans b2)
      clear b2
      go_wp2_with fail
      refine (HLv.out _).mono ?_
      rintro e w3 ⟨rfl, b3⟩
      have H3 := Lib.hid (H2.out.trans b3)
      clear b3
      go_wp2_with fail
      go_ret
      exact ⟨rfl, H3.out⟩
    · obtain ⟨n, hn⟩ : ∃ n, l.length = n := ⟨_, rfl⟩
      rw [hn] at hsz hl h6
      have d6 : ((n : Int) != 6) = true := by simp; omega
      generalize mkS l = S at *
      clear T hp hn
      go_enter Try.func5, Try.ntmps5
      go_wp2_with fail
      refine (HP.out _).mono ?_
      rintro e w1 ⟨rfl, b1⟩
      have H1 := Lib.hid b1
      clear b1
      go_wp2_with fail
      refine (HLv.out _).mono ?_
      rintro e w3 ⟨rfl, b3⟩
      have H3 := Lib.hid (H1.out.trans b3)
      clear b3
      go_wp2_with fail
      go_ret
      exact ⟨rfl, H3.out⟩
  | some c =>
    obtain ⟨h6, he, c1, c2⟩ := hex_parse hp
    have HP := Lib.hid (fun (w : World) => T.parseY (w := w) l c hp)
    have HR := Lib.hid (fun (w : World) => refHex_any c w ⟨by omega, by omega⟩)
    rw [he] at HR
    rw [h6] at hsz
    generalize mkS l = S at *
    clear T hp hl he h6
    go_enter Try.func5, Try.ntmps5
    go_wp2_with fail
    refine (HP.out _).mono ?_
    rintro e w1 ⟨rfl, b1⟩
    have H1 := Lib.hid b1
    clear b1
    go_wp2_with fail
    refine (HR.out _).mono ?_
    rintro e w2 ⟨rfl, b2⟩
    have H2 := Lib.hid (H1.out.trans b2)
    clear b2
    go_wp2_with fail
    refine (HLv.out _).mono ?_
    rintro e w3 ⟨rfl, b3⟩
    have H3 := Lib.hid (H2.out.trans b3)
    clear b3
    go_wp2_with fail
    go_ret
    exact ⟨rfl, H3.out⟩
end Go.Proofs.Ythhaacekfgdoeaa
