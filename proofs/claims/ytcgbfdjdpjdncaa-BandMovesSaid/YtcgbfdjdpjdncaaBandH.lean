/- band: the law on rows that are moved, on what the program's functions are to tell. -/
import Derived.Test.YtcgbfdjdpjdncaaBandG
namespace Go.Proofs.Ytcgbfdjdpjdncaa
set_option linter.unusedSimpArgs false
set_option linter.unusedVariables false
set_option linter.unusedSectionVars false
open Go.RowKit

def IsB (a : Bands) (v : Value) (w : World) : Prop := RB w v a
theorem IsB.stays {a : Bands} {v : Value} {w w' : World} (h : AnyLater w w') (s : IsB a v w) : IsB a v w' := RB.later s h
theorem few_gives (v : Value) (l : Bands) (w : World) (h : RB w v l) (hl : l.length ≤ 30) : Calls Try.prog 8 #[v] w (Gives (IsB l) w) := by
  refine (few_same v l w h hl).mono ?_
  rintro e w' ⟨v', he, hw, ho⟩
  refine ⟨v', he, hw, ho.reads, fun b hb => ?_⟩
  rcases ho.2 with ⟨rfl, _⟩ | ⟨g, cap, cur, rfl, h2, h3, _⟩
  · cases hb
  · obtain rfl : g = b := by simpa [vblk] using hb
    exact ⟨h2, own_lt h3⟩
/-- the rows that bands have elsewhere, within bounds -/
def movF (a : Bands) (d t0 t1 : Int) (y : Int) : Bool := inB a (y - d) && decide (t0 ≤ y ∧ y < t1)
def movR (a : Bands) (d t0 t1 : Int) (i : Nat) : Bool := movF a d t0 t1 ((i : Int) - 100)
theorem mov_told {a : Bands} {d t0 t1 : Int} (hd : -100 ≤ d ∧ d ≤ 100) (h0 : -100 ≤ t0) (h1 : t1 ≤ 300) (y : Int) : (inB a (y - clampB d) && decide (clampB t0 ≤ y ∧ y < clampB t1)) = inB (ofL (movR a d t0 t1) 400) y := by
  rw [near_fn (movR a d t0 t1) (movF a d t0 t1) (fun _ => rfl) (fun y hy => by
    have := of_decide_eq_true (Bool.and_eq_true_iff.1 hy).2
    omega)]
  unfold movF
  have e : clampB d = d := by unfold clampB; omega
  have e2 : decide (clampB t0 ≤ y ∧ y < clampB t1) = decide (t0 ≤ y ∧ y < t1) := by
    rw [decide_eq_decide]; unfold clampB; omega
  rw [e, e2]
theorem Apart.one {w : World} : Apart (w.alloc (.cells #[] 4)) w.heap.size 4 [(.slice (some ⟨w.heap.size, 0, none⟩) 0 0, 0, [])] :=
  ⟨fun r hr => by
    obtain rfl := List.mem_singleton.1 hr
    exact ⟨⟨rfl, .inr ⟨w.heap.size, 0, #[], rfl, Nat.le_refl _, heap_new rfl, Nat.le_refl _, Nat.zero_le _, rfl, rfl⟩⟩, _, _, rfl⟩, List.pairwise_singleton _ _⟩

set_option maxRecDepth 100000 in
set_option maxHeartbeats 6400000 in
theorem moves_law (S : Says) (v1 : Value) (l1 : Bands) (d t0 t1 : Int) (w : World) (h1 : RB w v1 l1) (n1 : Nums l1) (hd : Nums [(d, d), (t0, t1)]) :
    Calls Try.prog 6 #[v1, .int .i64 d, .agg #[.int .i64 t0, .int .i64 t1]] w fun e w' => e = .returned (.bool true) ∧ AnyLater w w' := by
  obtain ⟨i0, hi0, hz0, hz1, hz2⟩ := info_parts info_bool
  obtain ⟨⟨d1, d2⟩, _⟩ := hd (d, d) (by simp)
  obtain ⟨⟨p1, p2⟩, q1, q2⟩ := hd (t0, t1) (by simp)
  simp only at d1 d2 p1 p2 q1 q2
  have HD := Lib.hid hd
  have F1 := Lib.hid (fun w' (ha : AnyLater w w') => few_any v1 l1 w' (h1.later ha))
  have HS := Lib.hid S
  have HK : Hid ((l1.take 30).length ≤ 30) := Lib.hid (by rw [List.length_take]; omega)
  have HM := Lib.hid (nums_take n1 30)
  clear h1 S n1 hd
  generalize l1.take 30 = a at *
  have K1 : Hid (a.length ≤ 1000) := Lib.hid (by have := HK.out; omega)
  have k5 : Hid (a.length ≤ 100000) := Lib.hid (by have := HK.out; omega)
  go_enter Try.func6, Try.ntmps6
  go_wp2_with fail
  first | refine settle_wp (fun wS => AnyLater w wS ∧ wS.heap[w.heap.size]? = some (.cells #[.int .i64 t0, .int .i64 t1] 33) ∧ wS.heap[w.heap.size]? = some (.cells #[.int .i64 t0, .int .i64 t1] 33)) ?_ ?_ | refine settle_calls (fun wS => AnyLater w wS ∧ wS.heap[w.heap.size]? = some (.cells #[.int .i64 t0, .int .i64 t1] 33) ∧ wS.heap[w.heap.size]? = some (.cells #[.int .i64 t0, .int .i64 t1] 33)) ?_ ?_
  · refine ⟨?_, ?_, ?_⟩
    · repeat' (first | with_reducible assumption | with_reducible exact AnyLater.refl _ | with_reducible apply AnyLater.setCell | with_reducible apply AnyLater.later | with_reducible apply AnyLater.drewN | with_reducible apply AnyLater.drew | with_reducible apply AnyLater.alloc | ((try simp only [World.size_alloc, World.size_setCell, World.size_drew]); (try dsimp only); omega))
    · ((repeat (first | with_reducible assumption | ((with_reducible apply heap_new); (try simp only [World.size_alloc, World.size_setCell, World.size_drew, World.heap_drewN]); done) | ((with_reducible apply heap_new); (try simp only [World.size_alloc, World.size_setCell, World.size_drew, World.heap_drewN]); omega) | (with_reducible refine heap_old (by (try simp only [World.size_alloc, World.size_setCell, World.size_drew, World.heap_drewN]); omega) ?_) | (with_reducible refine heap_drew ?_) | (with_reducible refine heap_far (by omega) ?_) | (with_reducible apply heap_at))); all_goals rfl)
    · ((repeat (first | with_reducible assumption | ((with_reducible apply heap_new); (try simp only [World.size_alloc, World.size_setCell, World.size_drew, World.heap_drewN]); done) | ((with_reducible apply heap_new); (try simp only [World.size_alloc, World.size_setCell, World.size_drew, World.heap_drewN]); omega) | (with_reducible refine heap_old (by (try simp only [World.size_alloc, World.size_setCell, World.size_drew, World.heap_drewN]); omega) ?_) | (with_reducible refine heap_drew ?_) | (with_reducible refine heap_far (by omega) ?_) | (with_reducible apply heap_at))); all_goals rfl)
  rintro w1 ⟨b_w1, s0_w1, s1_w1⟩
  have a_w1 := b_w1
  have r0_w1 := own_row s0_w1
  have f0_w1 := own_free s0_w1
  have l0_w1 := own_lt s0_w1
  have r1_w1 := own_row s1_w1
  have f1_w1 := own_free s1_w1
  have l1_w1 := own_lt s1_w1
  have z_w1 := b_w1.below.size
  refine (F1.out w1 a_w1).mono ?_
  rintro e w2 ⟨va, rfl, b_w2, o1⟩
  have a_w2 := a_w1.trans b_w2
  have s0_w2 := any_own b_w2 s0_w1
  have r0_w2 := own_row s0_w2
  have l0_w2 := own_lt s0_w2
  have RA := Lib.hid (fun w' (ha : AnyLater w2 w') => o1.reads.later ha)
  clear o1 F1 s1_w1 r1_w1 f1_w1 l1_w1
  go_wp2_with fail
  apply wp_region_mem (7) [⟨1, 13, IsB a⟩] (by kernel_rfl) (by kernel_rfl) (by simp)
  case hstab =>
    intro e he v x y hxy hv
    simp only [List.mem_cons, List.not_mem_nil, or_false] at he
    rcases he with rfl
    · exact IsB.stays hxy hv
  case hlex =>
    intro U
    have q0 := fun (v : Later (later U)) => own_row (any_own ⟨v, rfl⟩ (any_own ⟨U, rfl⟩ s0_w2))
    simp only [absFrom, absOp, idx, List.map_cons, List.map_nil, List.contains_cons, List.contains_nil, Nat.reduceBEq, Bool.or_false, Bool.false_or, Bool.true_or, Bool.or_true, Bool.false_eq_true, Nat.reduceLeDiff, Nat.reduceAdd, if_false, if_true]
    repeat (go_big_quiet_step (first | fail))
    exact wpQuiet_nil rfl
  case hown =>
    intro e he o ho
    simp only [List.mem_cons, List.not_mem_nil, or_false] at he
    rcases he with rfl
    · cases ho; intro x hx; simp [go_sem, execOp]; exact few_gives va a x (RA.out x hx) HK.out
  case htail =>
    intro g u hst hne
    have b_w3 : AnyLater w2 (later u) := ⟨u, rfl⟩
    generalize later u = w3 at *
    clear u
    obtain ⟨p13_w3, o13_w3⟩ := hst _ (List.mem_of_getElem? (i := 0) rfl)
    dsimp only at p13_w3 o13_w3
    clear hst hne
    simp only [fillAll, Act.put, List.setIfInBounds_toArray, List.set_cons_zero, List.set_cons_succ, List.drop_succ_cons, List.drop_zero]
    generalize g 1 = v13 at *
    have z_w3 := b_w3.below.size
    have a_w3 := a_w2.trans b_w3
    have s0_w3 := any_own b_w3 s0_w2
    have r0_w3 := own_row s0_w3
    have f0_w3 := own_free s0_w3
    have l0_w3 := own_lt s0_w3
    (try clear r0_w2); (try clear f0_w2)
    go_wp2_with fail
    refine (HS.out.move v13 a d t0 t1 w3 p13_w3 HM.out K1.out HD.out).mono ?_
    rintro e w4 ⟨v4, T4, rfl, b4, r4, g4, q4⟩
    have a_w4 := a_w3.trans b4
    have s0_w4 := any_own b4 s0_w3
    have R4 := Lib.hid r4
    have G4 := Lib.hid g4
    have Q4 := Lib.hid q4
    have c34 := Lib.hid (b_w3.trans b4)
    have HLEN : Hid (T4.length ≤ 1000) := Lib.hid (by have h1 := len_move g4 q4; have := HK.out; omega)
    clear r4 g4 q4 b4
    go_wp2_with fail
    refine (HS.out.good v4 T4 w4 true ⟨fun _ => G4.out, fun _ => rfl⟩ R4.out G4.out.nums HLEN.out).mono ?_
    rintro e w5 ⟨rfl, b_w5⟩
    have z_w5 := b_w5.below.size
    have a_w5 := a_w4.trans b_w5
    have s0_w5 := any_own b_w5 s0_w4
    have r0_w5 := own_row s0_w5
    have f0_w5 := own_free s0_w5
    have l0_w5 := own_lt s0_w5
    (try clear r0_w4); (try clear f0_w4)
    have c25 := Lib.hid (c34.out.trans b_w5)
    have B45 := Lib.hid b_w5
    clear b_w5
    have NR0 := near_any va a w5 (RA.out w5 c25.out) k5.out
    have I1 := Lib.hid (fun (w' : World) (y : Int) (ha : AnyLater w5 w') => in_any va a y w' (RA.out w' (c25.out.trans ha)) k5.out)
    cases hn : nearB a with
    | false =>
      rw [hn] at NR0
      have NR := Lib.hid NR0
      clear NR0 hn
      go_wp2_with fail
      refine NR.out.mono ?_
      rintro e w9 ⟨rfl, rfl⟩
      go_wp2_with fail
      refine (lives_any HS.out _).mono ?_
      rintro e w6 ⟨rfl, b_w6⟩
      have z_w6 := b_w6.below.size
      have a_w6 := a_w5.trans b_w6
      go_wp2_with fail
      go_ret
      exact ⟨rfl, a_w6⟩
    | true =>
      rw [hn] at NR0
      have NR := Lib.hid NR0
      have NA := Lib.hid hn
      clear NR0 hn
      by_cases k1 : d < -100
      · skip
        go_wp2_with fail
        refine NR.out.mono ?_
        rintro e w9 ⟨rfl, rfl⟩
        go_wp2_with fail
        refine (lives_any HS.out _).mono ?_
        rintro e w6 ⟨rfl, b_w6⟩
        have z_w6 := b_w6.below.size
        have a_w6 := a_w5.trans b_w6
        go_wp2_with fail
        go_ret
        exact ⟨rfl, a_w6⟩
      · by_cases k2 : 100 < d
        · skip
          go_wp2_with fail
          refine NR.out.mono ?_
          rintro e w9 ⟨rfl, rfl⟩
          go_wp2_with fail
          refine (lives_any HS.out _).mono ?_
          rintro e w6 ⟨rfl, b_w6⟩
          have z_w6 := b_w6.below.size
          have a_w6 := a_w5.trans b_w6
          go_wp2_with fail
          go_ret
          exact ⟨rfl, a_w6⟩
        · by_cases k3 : t0 < -100
          · skip
            go_wp2_with fail
            refine NR.out.mono ?_
            rintro e w9 ⟨rfl, rfl⟩
            go_wp2_with fail
            refine (lives_any HS.out _).mono ?_
            rintro e w6 ⟨rfl, b_w6⟩
            have z_w6 := b_w6.below.size
            have a_w6 := a_w5.trans b_w6
            go_wp2_with fail
            go_ret
            exact ⟨rfl, a_w6⟩
          · by_cases k4 : 300 < t1
            · skip
              go_wp2_with fail
              refine NR.out.mono ?_
              rintro e w9 ⟨rfl, rfl⟩
              go_wp2_with fail
              refine (lives_any HS.out _).mono ?_
              rintro e w6 ⟨rfl, b_w6⟩
              have z_w6 := b_w6.below.size
              have a_w6 := a_w5.trans b_w6
              go_wp2_with fail
              go_ret
              exact ⟨rfl, a_w6⟩
            · go_wp2_with fail
              refine NR.out.mono ?_
              rintro e w9 ⟨rfl, rfl⟩
              go_wp2_with fail
              go_loopg [8, 9] 400 (fun k p i wr => ∃ j : Nat, k = 400 - j ∧ j ≤ 400 ∧ i = .int .i64 ((j : Int) - 100) ∧ AnyLater w5 wr ∧ Apart wr w5.heap.size 4 [(p, j, upB (movR a d t0 t1) j)])
              case atStart => exact ⟨0, by omega, by omega, rfl, (AnyLater.refl w5).alloc _, Apart.one⟩
              case round =>
                obtain ⟨j, hk, hj, rfl, ha, hp⟩ := hrel
                have HA := Lib.hid ha
                have HP := Lib.hid hp
                have s0_wr := any_own ha s0_w5
                have r0_wr := own_row s0_wr
                have l0_wr := own_lt s0_wr
                clear ha hp
                by_cases hlt : j < 400
                · have hdd : (j : Int) - 100 < 300 := by omega
                  have CI := I1.out wr ((j : Int) - 100 - d) HA.out
                  cases hx : inB a ((j : Int) - 100 - d) with
                  | false =>
                    have hm : movR a d t0 t1 j = false := by show movF a d t0 t1 ((j : Int) - 100) = false; unfold movF; rw [hx, Bool.false_and]
                    have U : Hid (upB (movR a d t0 t1) (j + 1) = upB (movR a d t0 t1) j ++ [.bool false]) := Lib.hid (by rw [upB_succ, hm])
                    rw [hx] at CI
                    have HCI := Lib.hid CI
                    clear hx CI hm
                    (try clear hm0)
                    go_wp2_with fail
                    refine HCI.out.mono ?_
                    rintro e w9 ⟨rfl, rfl⟩
                    go_wp2_with (at_builtin; refine wpList_append_lies _ rfl (.tmp 50) (.tmp 68) 26 rfl w5.heap.size 4 i0 (.bool false) 1 1 Try.underlying26 hi0 hz0 hz1 hz2 rfl (by decide) u8 j (upB (movR a d t0 t1) j) rfl (owns_later ((AnyLater.refl wr).alloc (.cells #[.bool false] 4)) (HP.out.1 (u8, j, upB (movR a d t0 t1) j) (by simp)).1) ⟨wr.heap.size, 0, none⟩ 1 1 [.bool false] rfl rfl (World.news_of_block (w := wr.alloc (.cells #[.bool false] 4)) (cs := #[.bool false]) (t := 4) (fr := (0, 0)) (heap_new rfl)) (by simp [Value.oneCell']) (by omega) (by unfold maxLen; omega) (by omega) ((HA.out.alloc _).below.size) (wr.heap.size + 1) (by simp) ?_; intro g1 c1 x1 o1 gr1 at1 lt1; have P1 := Lib.hid (Apart.step (pre := []) HP.out (.cells #[.bool false] 4) o1 gr1 at1); have A1 := Lib.hid (grown_later (HA.out.alloc _) gr1 (HP.out.base (r := (u8, j, upB (movR a d t0 t1) j)) (by simp))); clear o1 gr1 at1 lt1)
                    go_roundg (400 - (j + 1))
                    case measure => omega
                    case rel => exact ⟨j + 1, rfl, hlt, by congr 1; omega, A1.out, by rw [U.out]; exact P1.out⟩
                  | true =>
                    have hm0 : movR a d t0 t1 j = decide (t0 ≤ (j : Int) - 100 ∧ (j : Int) - 100 < t1) := by show movF a d t0 t1 ((j : Int) - 100) = _; unfold movF; rw [hx, Bool.true_and]
                    by_cases g0 : t0 ≤ (j : Int) - 100
                    · by_cases g1' : (j : Int) - 100 < t1
                      · have hm : movR a d t0 t1 j = true := by rw [hm0]; exact decide_eq_true ⟨g0, g1'⟩
                        have U : Hid (upB (movR a d t0 t1) (j + 1) = upB (movR a d t0 t1) j ++ [.bool true]) := Lib.hid (by rw [upB_succ, hm])
                        rw [hx] at CI
                        have HCI := Lib.hid CI
                        clear hx CI hm
                        (try clear hm0)
                        go_wp2_with fail
                        refine HCI.out.mono ?_
                        rintro e w9 ⟨rfl, rfl⟩
                        go_wp2_with (at_builtin; refine wpList_append_lies _ rfl (.tmp 50) (.tmp 68) 26 rfl w5.heap.size 4 i0 (.bool false) 1 1 Try.underlying26 hi0 hz0 hz1 hz2 rfl (by decide) u8 j (upB (movR a d t0 t1) j) rfl (owns_later ((AnyLater.refl wr).alloc (.cells #[.bool true] 4)) (HP.out.1 (u8, j, upB (movR a d t0 t1) j) (by simp)).1) ⟨wr.heap.size, 0, none⟩ 1 1 [.bool true] rfl rfl (World.news_of_block (w := wr.alloc (.cells #[.bool true] 4)) (cs := #[.bool true]) (t := 4) (fr := (0, 0)) (heap_new rfl)) (by simp [Value.oneCell']) (by omega) (by unfold maxLen; omega) (by omega) ((HA.out.alloc _).below.size) (wr.heap.size + 1) (by simp) ?_; intro g1 c1 x1 o1 gr1 at1 lt1; have P1 := Lib.hid (Apart.step (pre := []) HP.out (.cells #[.bool true] 4) o1 gr1 at1); have A1 := Lib.hid (grown_later (HA.out.alloc _) gr1 (HP.out.base (r := (u8, j, upB (movR a d t0 t1) j)) (by simp))); clear o1 gr1 at1 lt1)
                        go_roundg (400 - (j + 1))
                        case measure => omega
                        case rel => exact ⟨j + 1, rfl, hlt, by congr 1; omega, A1.out, by rw [U.out]; exact P1.out⟩
                      · have hm : movR a d t0 t1 j = false := by rw [hm0]; exact decide_eq_false (fun h => g1' h.2)
                        have hbF : decide ((j : Int) - 100 < t1) = false := decide_eq_false g1'
                        have U : Hid (upB (movR a d t0 t1) (j + 1) = upB (movR a d t0 t1) j ++ [.bool false]) := Lib.hid (by rw [upB_succ, hm])
                        rw [hx] at CI
                        have HCI := Lib.hid CI
                        clear hx CI hm
                        (try clear hm0)
                        go_wp2_with fail
                        refine HCI.out.mono ?_
                        rintro e w9 ⟨rfl, rfl⟩
                        go_wp2_with (at_builtin; refine wpList_append_lies _ rfl (.tmp 50) (.tmp 68) 26 rfl w5.heap.size 4 i0 (.bool false) 1 1 Try.underlying26 hi0 hz0 hz1 hz2 rfl (by decide) u8 j (upB (movR a d t0 t1) j) rfl (owns_later ((AnyLater.refl wr).alloc (.cells #[.bool false] 4)) (HP.out.1 (u8, j, upB (movR a d t0 t1) j) (by simp)).1) ⟨wr.heap.size, 0, none⟩ 1 1 [.bool false] rfl rfl (World.news_of_block (w := wr.alloc (.cells #[.bool false] 4)) (cs := #[.bool false]) (t := 4) (fr := (0, 0)) (heap_new rfl)) (by simp [Value.oneCell']) (by omega) (by unfold maxLen; omega) (by omega) ((HA.out.alloc _).below.size) (wr.heap.size + 1) (by simp) ?_; intro g1 c1 x1 o1 gr1 at1 lt1; have P1 := Lib.hid (Apart.step (pre := []) HP.out (.cells #[.bool false] 4) o1 gr1 at1); have A1 := Lib.hid (grown_later (HA.out.alloc _) gr1 (HP.out.base (r := (u8, j, upB (movR a d t0 t1) j)) (by simp))); clear o1 gr1 at1 lt1)
                        go_roundg (400 - (j + 1))
                        case measure => omega
                        case rel => exact ⟨j + 1, rfl, hlt, by congr 1; omega, A1.out, by rw [U.out]; exact P1.out⟩
                    · have hm : movR a d t0 t1 j = false := by rw [hm0]; exact decide_eq_false (fun h => g0 h.1)
                      have hbG : decide (t0 ≤ (j : Int) - 100) = false := decide_eq_false g0
                      have U : Hid (upB (movR a d t0 t1) (j + 1) = upB (movR a d t0 t1) j ++ [.bool false]) := Lib.hid (by rw [upB_succ, hm])
                      rw [hx] at CI
                      have HCI := Lib.hid CI
                      clear hx CI hm
                      (try clear hm0)
                      go_wp2_with fail
                      refine HCI.out.mono ?_
                      rintro e w9 ⟨rfl, rfl⟩
                      go_wp2_with (at_builtin; refine wpList_append_lies _ rfl (.tmp 50) (.tmp 68) 26 rfl w5.heap.size 4 i0 (.bool false) 1 1 Try.underlying26 hi0 hz0 hz1 hz2 rfl (by decide) u8 j (upB (movR a d t0 t1) j) rfl (owns_later ((AnyLater.refl wr).alloc (.cells #[.bool false] 4)) (HP.out.1 (u8, j, upB (movR a d t0 t1) j) (by simp)).1) ⟨wr.heap.size, 0, none⟩ 1 1 [.bool false] rfl rfl (World.news_of_block (w := wr.alloc (.cells #[.bool false] 4)) (cs := #[.bool false]) (t := 4) (fr := (0, 0)) (heap_new rfl)) (by simp [Value.oneCell']) (by omega) (by unfold maxLen; omega) (by omega) ((HA.out.alloc _).below.size) (wr.heap.size + 1) (by simp) ?_; intro g1 c1 x1 o1 gr1 at1 lt1; have P1 := Lib.hid (Apart.step (pre := []) HP.out (.cells #[.bool false] 4) o1 gr1 at1); have A1 := Lib.hid (grown_later (HA.out.alloc _) gr1 (HP.out.base (r := (u8, j, upB (movR a d t0 t1) j)) (by simp))); clear o1 gr1 at1 lt1)
                      go_roundg (400 - (j + 1))
                      case measure => omega
                      case rel => exact ⟨j + 1, rfl, hlt, by congr 1; omega, A1.out, by rw [U.out]; exact P1.out⟩
                · obtain rfl : j = 400 := by omega
                  obtain ⟨gg, cc, rfl, ltg, clg⟩ := HP.out.bools (v := u8) (n := 400) (f := movR a d t0 t1) (by simp)
                  have OF := Lib.hid (of_some gg 400 cc (movR a d t0 t1) wr (by decide) ltg clg)
                  have E1 : Hid (T4 = ofL (movR a d t0 t1) 400) := Lib.hid (good_unique G4.out (ofL_good _ _ (by decide)) (fun y => (Q4.out y).trans (mov_told ⟨by omega, by omega⟩ (by omega) (by omega) y)))
                  clear clg
                  go_wp2_with fail
                  refine OF.out.mono ?_
                  rintro e w6 ⟨v6, rfl, b_w6, o6⟩
                  have a_w6 := (a_w5.trans HA.out).trans b_w6
                  have R6 := Lib.hid o6.reads
                  have B46 := Lib.hid ((B45.out.trans HA.out).trans b_w6)
                  clear o6 b_w6
                  go_wp2_with fail
                  refine (same_any v4 v6 T4 (ofL (movR a d t0 t1) 400) w6 true (decide_eq_true E1.out) (R4.out.later B46.out) R6.out (by have := HLEN.out; omega)).mono ?_
                  rintro e w7 ⟨rfl, b_w7⟩
                  have z_w7 := b_w7.below.size
                  have a_w7 := a_w6.trans b_w7
                  go_wp2_with fail
                  refine (lives_any HS.out _).mono ?_
                  rintro e w8 ⟨rfl, b_w8⟩
                  have z_w8 := b_w8.below.size
                  have a_w8 := a_w7.trans b_w8
                  go_wp2_with fail
                  go_ret
                  exact ⟨rfl, a_w8⟩
end Go.Proofs.Ytcgbfdjdpjdncaa
