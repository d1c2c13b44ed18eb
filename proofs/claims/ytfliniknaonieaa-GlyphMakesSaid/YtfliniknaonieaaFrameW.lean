/- frame: the program's Fill, by contract. -/
import Derived.Test.YtfliniknaonieaaFrameV
namespace Go.Proofs.Ytfliniknaonieaa
set_option linter.unusedSimpArgs false
set_option linter.unusedVariables false
set_option linter.unusedSectionVars false
open Go.RowKit

theorem cut_run (A : Option Addr) (n cap l h : Nat) (w : World) (h1 : l ≤ h) (h2 : h ≤ cap) :
    (Instr.sliceAt 34 (.slice A n cap) (some (.int .i64 (l : Int))) (some (.int .i64 (h : Int))) none).run Try.prog w = .ok (.slice (if cap = l then A else A.map (fun x => x.add l)) (h - l) (cap - l)) w := by
  rw [run_sliceAt_slice w _ _ _ _ _ Try.underlying34, run_slice_lh w _ A n cap Try.underlying34 .i64 .i64 (l : Int) (h : Int) (by omega) (by omega) (by omega)]
  have hz : ∀ w, (Go.sizeOf (Try.prog.elem 34)).run Try.prog w = .ok 1 w := fun w => by simp [go_sem]
  rw [hz]
  simp [Result.andThen, sliced]
set_option maxRecDepth 100000 in
set_option maxHeartbeats 6400000 in
theorem fill_any {w : World} {a : Nat} {m : FM} {S : Nat → Prop} (r : Rt) (c n : Int) (hn : cntA r m.w m.rows.length = n) (h : Fr w a m S) (s2 : m.w ≤ 4096) (s3 : m.rows.length ≤ 4096) (s4 : 0 ≤ m.n) (s5 : m.n ≤ 4000000000000) (hr : r.I64) : Calls Try.prog 37 #[ptr a, rtV r, .int .u32 c] w fun e w' => e = .returned (.int .i64 n) ∧ Keeps S w w' ∧ Fr w' a (fillM r c m) S := by
  obtain ⟨A, cap, h⟩ := h
  have s1 := h.ok
  obtain ⟨W, rows, n0⟩ := m
  simp only at h s1 s2 s3 s4 s5 hn
  have HA := Lib.hid h
  have s0_w := h.top
  have r0_w := own_row s0_w
  have l0_w := own_lt s0_w
  simp only at s0_w r0_w
  obtain ⟨mx, my, ma, mb, hM, hx1, hy1, hin, har, hpos⟩ := meet_in r W rows.length s2 s3
  have hnn : n = (ma : Int) * mb := by rw [← hn, cntA_area hin hx1 hy1]
  have hnb : 0 ≤ (ma : Int) * mb ∧ (ma : Int) * mb ≤ 4096 * 4096 := ⟨Int.mul_nonneg (by omega) (by omega), Int.mul_le_mul (by omega) (by omega) (by omega) (by omega)⟩
  rw [← hnn] at hnb har
  have HFM : Hid (fillM r c ⟨W, rows, n0⟩ = ⟨W, fillP r c rows rows.length 0, n0 + n⟩) := Lib.hid (by unfold fillM; simp only [hn]; rw [fillP_all])
  have HOk := Lib.hid s1
  have HIn := Lib.hid hin
  have HAr := Lib.hid har
  have HBe := Lib.hid h.below
  obtain ⟨H, hH⟩ : ∃ H, rows.length = H := ⟨_, rfl⟩
  have HAll : Hid (∀ w', AnyLater w w' → Calls Try.prog 58 #[ptr a] w' fun e w'' => e = .returned (.agg #[.int .i64 0, .int .i64 0, .int .i64 (W : Int), .int .i64 (H : Int)]) ∧ AnyLater w' w'') := Lib.hid (fun w' ha => by
    have := all_any (HA.out.any ha)
    simp only [hH] at this
    exact this)
  have HMeet : Hid (∀ w', Calls Try.prog 57 #[.agg #[.int .i64 r.x, .int .i64 r.y, .int .i64 r.a, .int .i64 r.b], .agg #[.int .i64 0, .int .i64 0, .int .i64 (W : Int), .int .i64 (H : Int)]] w' fun e w'' => e = .returned (.agg #[.int .i64 (mx : Int), .int .i64 (my : Int), .int .i64 (ma : Int), .int .i64 (mb : Int)]) ∧ AnyLater w' w'') := Lib.hid (fun w' => by
    rw [hH] at hM
    exact meet_at r ⟨0, 0, W, H⟩ ⟨mx, my, ma, mb⟩ w' hr ⟨by show I64 0; unfold I64; omega, by show I64 0; unfold I64; omega, by show I64 (W : Int); unfold I64; omega, by show I64 (H : Int); unfold I64; omega⟩ hM)
  have HArea : Hid (∀ w', Calls Try.prog 59 #[.agg #[.int .i64 (mx : Int), .int .i64 (my : Int), .int .i64 (ma : Int), .int .i64 (mb : Int)]] w' fun e w'' => e = .returned (.int .i64 n) ∧ AnyLater w' w'') := Lib.hid (fun w' => area_any mx my ma mb w' n HAr.out (by unfold I64; omega) (by unfold I64; omega) (by unfold I64; omega) (by unfold I64; omega))
  obtain ⟨N, hN⟩ : ∃ N, W * H = N := ⟨_, rfl⟩
  have HH : Hid (rows.length = H ∧ W * H = N) := Lib.hid ⟨hH, hN⟩
  rw [hH] at s0_w r0_w hy1
  rw [hN] at s0_w r0_w
  have hH4 : H ≤ 4096 := by omega
  clear h hn hnn hM hin har hH hN
  unfold rtV ptr
  unfold ptr at HAll
  go_enter Try.func37, Try.ntmps37
  go_wp2_with fail
  first | refine settle_wp (fun wS => AnyLater w wS ∧ wS.heap[w.heap.size]? = some (.cells #[.int .i64 r.x, .int .i64 r.y, .int .i64 r.a, .int .i64 r.b] 32)) ?_ ?_ | refine settle_calls (fun wS => AnyLater w wS ∧ wS.heap[w.heap.size]? = some (.cells #[.int .i64 r.x, .int .i64 r.y, .int .i64 r.a, .int .i64 r.b] 32)) ?_ ?_
  · refine ⟨?_, ?_⟩
    · repeat' (first | with_reducible assumption | with_reducible exact AnyLater.refl _ | with_reducible apply AnyLater.setCell | with_reducible apply AnyLater.later | with_reducible apply AnyLater.drewN | with_reducible apply AnyLater.drew | with_reducible apply AnyLater.alloc | ((try simp only [World.size_alloc, World.size_setCell, World.size_drew]); (try dsimp only); omega))
    · ((repeat (first | with_reducible assumption | ((with_reducible apply heap_new); (try simp only [World.size_alloc, World.size_setCell, World.size_drew, World.heap_drewN]); done) | ((with_reducible apply heap_new); (try simp only [World.size_alloc, World.size_setCell, World.size_drew, World.heap_drewN]); omega) | (with_reducible refine heap_old (by (try simp only [World.size_alloc, World.size_setCell, World.size_drew, World.heap_drewN]); omega) ?_) | (with_reducible refine heap_drew ?_) | (with_reducible refine heap_far (by omega) ?_) | (with_reducible apply heap_at))); all_goals rfl)
  rintro w0 ⟨b_w0, s1_w0⟩
  have a_w0 := b_w0
  have s0_w0 := any_own b_w0 s0_w
  have r0_w0 := own_row s0_w0
  have f0_w0 := own_free s0_w0
  have l0_w0 := own_lt s0_w0
  (try clear r0_w); (try clear f0_w)
  have r1_w0 := own_row s1_w0
  have f1_w0 := own_free s1_w0
  have l1_w0 := own_lt s1_w0
  have z_w0 := b_w0.below.size
  apply wp_region_mem (5) [⟨4, 7, isVar (.cells #[.int .i64 0, .int .i64 0, .int .i64 0, .int .i64 0] 32)⟩] (by kernel_rfl) (by kernel_rfl) (by simp)
  case hstab =>
    intro e he v x y hxy hv
    simp only [List.mem_cons, List.not_mem_nil, or_false] at he
    rcases he with rfl
    · exact isVar_stays hxy hv
  case hlex =>
    intro U
    have q0 := fun (v : Later (later U)) => own_row (any_own ⟨v, rfl⟩ (any_own ⟨U, rfl⟩ s0_w0))
    have q1 := fun (v : Later (later U)) => own_row (any_own ⟨v, rfl⟩ (any_own ⟨U, rfl⟩ s1_w0))
    simp only [absFrom, absOp, idx, List.map_cons, List.map_nil, List.contains_cons, List.contains_nil, Nat.reduceBEq, Bool.or_false, Bool.false_or, Bool.true_or, Bool.or_true, Bool.false_eq_true, Nat.reduceLeDiff, Nat.reduceAdd, if_false, if_true]
    repeat (go_big_quiet_step (first | (go_at_call 58; exact in_later (HAll.out _ (b_w0.trans (AnyLater.trans ⟨U, rfl⟩ ⟨_, rfl⟩)))) | (go_at_call 57; exact in_later (HMeet.out _))))
    exact wpQuiet_nil rfl
  case hown =>
    intro e he o ho
    simp only [List.mem_cons, List.not_mem_nil, or_false] at he
    rcases he with rfl
    · cases ho; exact step_var (fun r x => by simp [go_sem, execOp])
  case htail =>
    intro g u hst hne
    have b_w1 : AnyLater w0 (later u) := ⟨u, rfl⟩
    generalize later u = w1 at *
    clear u
    obtain ⟨⟨b7, e7, s2_w1⟩, o7_w1⟩ := hst _ (List.mem_of_getElem? (i := 0) rfl)
    dsimp only at e7 o7_w1
    have o7_w1 := o7_w1 b7 (by rw [e7]; rfl)
    clear hst hne
    simp only [fillAll, Act.put, List.setIfInBounds_toArray, List.set_cons_zero, List.set_cons_succ, List.drop_succ_cons, List.drop_zero]
    rw [e7]
    clear e7
    have z_w1 := b_w1.below.size
    have a_w1 := a_w0.trans b_w1
    have s0_w1 := any_own b_w1 s0_w0
    have s1_w1 := any_own b_w1 s1_w0
    have r0_w1 := own_row s0_w1
    have f0_w1 := own_free s0_w1
    have l0_w1 := own_lt s0_w1
    have r1_w1 := own_row s1_w1
    have f1_w1 := own_free s1_w1
    have l1_w1 := own_lt s1_w1
    (try clear r0_w0); (try clear f0_w0)
    (try clear r1_w0); (try clear f1_w0)
    have r2_w1 := own_row s2_w1
    have f2_w1 := own_free s2_w1
    have l2_w1 := own_lt s2_w1
    have l7 := own_lt s2_w1
    go_wp2_with fail
    first | refine settle_wp (fun wS => AnyLater w wS ∧ wS.heap[b7]? = some (.cells #[.int .i64 (mx : Int), .int .i64 (my : Int), .int .i64 (ma : Int), .int .i64 (mb : Int)] 32)) ?_ ?_ | refine settle_calls (fun wS => AnyLater w wS ∧ wS.heap[b7]? = some (.cells #[.int .i64 (mx : Int), .int .i64 (my : Int), .int .i64 (ma : Int), .int .i64 (mb : Int)] 32)) ?_ ?_
    · refine ⟨?_, ?_⟩
      · repeat' (first | with_reducible assumption | with_reducible exact AnyLater.refl _ | with_reducible apply AnyLater.setCell | with_reducible apply AnyLater.later | with_reducible apply AnyLater.drewN | with_reducible apply AnyLater.drew | with_reducible apply AnyLater.alloc | ((try simp only [World.size_alloc, World.size_setCell, World.size_drew]); (try dsimp only); omega))
      · ((repeat (first | with_reducible assumption | ((with_reducible apply heap_new); (try simp only [World.size_alloc, World.size_setCell, World.size_drew, World.heap_drewN]); done) | ((with_reducible apply heap_new); (try simp only [World.size_alloc, World.size_setCell, World.size_drew, World.heap_drewN]); omega) | (with_reducible refine heap_old (by (try simp only [World.size_alloc, World.size_setCell, World.size_drew, World.heap_drewN]); omega) ?_) | (with_reducible refine heap_drew ?_) | (with_reducible refine heap_far (by omega) ?_) | (with_reducible apply heap_at))); all_goals rfl)
    rintro w2 ⟨b_w2, s1_w2⟩
    have a_w2 := b_w2
    have s0_w2 := any_own b_w2 s0_w
    have r0_w2 := own_row s0_w2
    have f0_w2 := own_free s0_w2
    have l0_w2 := own_lt s0_w2
    (try clear r0_w); (try clear f0_w)
    have r1_w2 := own_row s1_w2
    have f1_w2 := own_free s1_w2
    have l1_w2 := own_lt s1_w2
    have z_w2 := b_w2.below.size
    have HB7 : Hid (w.heap.size ≤ b7 ∧ ¬ S b7) := Lib.hid ⟨by omega, fun hs => by have := HBe.out _ hs; omega⟩
    have X2 := Lib.hid (HA.out.any a_w2)
    have A2 := Lib.hid a_w2
    have SM := Lib.hid s1_w2
    clear s0_w1 s1_w1 s2_w1 r0_w1 r1_w1 r2_w1 f0_w1 f1_w1 f2_w1 l0_w1 l1_w1 l2_w1 l7 s0_w0 s1_w0 a_w0 a_w1 b_w0 b_w1 z_w0 z_w1 o7_w1 s0_w2 f0_w2 l0_w2 b_w2 z_w2 a_w2 s1_w2
    go_loopg [8] mb (fun k yv wr => ∃ y : Nat, k = my + mb - y ∧ my ≤ y ∧ y ≤ my + mb ∧ yv = .int .i64 y ∧ Keeps S w wr ∧ wr.heap[b7]? = some (.cells #[.int .i64 (mx : Int), .int .i64 (my : Int), .int .i64 (ma : Int), .int .i64 (mb : Int)] 32) ∧ FrA wr a ⟨W, fillP r c rows y 0, n0⟩ S A cap)
    case atStart =>
      refine ⟨my, by omega, by omega, by omega, rfl, Keeps.of A2.out, SM.out, ?_⟩
      have e : fillP r c rows my 0 = rows := by
        have e1 : fillP r c rows my 0 = fillP r c rows 0 0 := fillP_same HOk.out.wide (fun i j hi hj hh => by have := (HIn.out j i hj hi).1 hh; omega)
        rw [e1, fillP_zero]
      rw [e]
      exact X2.out
    case round =>
      obtain ⟨y, hk, hy2, hy3, rfl, hKe, sM, hX⟩ := hrel
      have HK := Lib.hid hKe
      have HX := Lib.hid hX
      by_cases hlt : y < my + mb
      · have hyH : y < H := by omega
        have hyR : y < rows.length := by rw [HH.out.1]; exact hyH
        have hW0 : 0 < W := by have := hpos (by omega); omega
        have hm0 : 0 < ma := hpos (by omega)
        have hlen : (fillP r c rows y 0).length = H := by rw [fillP_len]; exact HH.out.1
        obtain ⟨q, cells, rfl, sq, hq, hp⟩ := hX.pix (Nat.mul_pos hW0 (by show 0 < (fillP r c rows y 0).length; omega))
        have hroom : N ≤ cap := by
          have := hX.room
          simp only [hlen, HH.out.2] at this
          exact this
        have hrow := idx_row (W := W) hyH
        rw [HH.out.2] at hrow
        have eR : rowS (some ⟨q, 0, none⟩) cap W y = .slice (some ⟨q, y * W, none⟩) W (cap - y * W) := rowS_some (by omega)
        have HRow : Hid (∀ w', AnyLater wr w' → Calls Try.prog 45 #[.pointer (some ⟨a, 0, none⟩), .int .i64 y] w' fun e w'' => e = .returned (.slice (some ⟨q, y * W, none⟩) W (cap - y * W)) ∧ AnyLater w' w'') := Lib.hid (fun w' ha => by
          rw [← eR]
          exact row_any (HX.out.any ha) y (by show y < (fillP r c rows y 0).length; omega) s2 (by show (fillP r c rows y 0).length ≤ 4096; omega))
        have hcut := fun w => cut_run (some ⟨q, y * W, none⟩) W (cap - y * W) mx (mx + ma) w (by omega) (by omega)
        simp only [if_neg (show ¬ cap - y * W = mx by omega), Option.map_some, add_off, show mx + ma - mx = ma by omega, Int.natCast_add] at hcut
        have HL : Hid (∀ x, y * W + x = y * W + x) := Lib.hid (fun _ => rfl)
        have s0_wr := sM
        have r0_wr := own_row sM
        have f0_wr := own_free sM
        have l0_wr := own_lt sM
        have z_wr := Nat.le_refl wr.heap.size
        have a_wr := AnyLater.refl wr
        have HQ := Lib.hid (And.intro hq hp)
        obtain ⟨l, hl⟩ : ∃ l, y * W = l := ⟨_, rfl⟩
        obtain ⟨C, hC⟩ : ∃ C, cap - l = C := ⟨_, rfl⟩
        rw [hl] at hcut HRow hrow
        rw [hC] at hcut HRow
        have HLe := Lib.hid hl
        clear hX hKe hq hp eR hlen sM HL hl hC hroom
        go_wp2_with fail
        apply wp_region_mem (11) [] (by kernel_rfl) (by kernel_rfl) (by simp)
        case hstab =>
          intro e he v x y hxy hv
          simp only [List.mem_cons, List.not_mem_nil, or_false] at he
        case hlex =>
          intro U
          have q0 := fun (v : Later (later U)) => own_row (any_own ⟨v, rfl⟩ (any_own ⟨U, rfl⟩ s0_wr))
          simp only [absFrom, absOp, idx, List.map_cons, List.map_nil, List.contains_cons, List.contains_nil, Nat.reduceBEq, Bool.or_false, Bool.false_or, Bool.true_or, Bool.or_true, Bool.false_eq_true, Nat.reduceLeDiff, Nat.reduceAdd, if_false, if_true]
          repeat (go_big_quiet_step (first | (go_at_call 45; exact in_later (HRow.out _ (AnyLater.trans ⟨U, rfl⟩ ⟨_, rfl⟩)))))
          exact wpQuiet_nil rfl
        case hown =>
          intro e he o ho
          simp only [List.mem_cons, List.not_mem_nil, or_false] at he
        case htail =>
          intro g u hst hne
          have b_w3 : AnyLater wr (later u) := ⟨u, rfl⟩
          generalize later u = w3 at *
          clear u
          clear hst hne
          simp only [fillAll, Act.put, List.setIfInBounds_toArray, List.set_cons_zero, List.set_cons_succ, List.drop_succ_cons, List.drop_zero]
          have z_w3 := b_w3.below.size
          have a_w3 := a_wr.trans b_w3
          have s0_w3 := any_own b_w3 s0_wr
          have r0_w3 := own_row s0_w3
          have f0_w3 := own_free s0_w3
          have l0_w3 := own_lt s0_w3
          (try clear r0_wr); (try clear f0_wr)
          have X3 := Lib.hid (HX.out.any a_w3)
          have K3 := Lib.hid (HK.out.trans (Keeps.of a_w3))
          have M3 := Lib.hid s0_w3
          have HX3 : Hid (fillP r c rows y 0 = fillP r c rows y mx) := Lib.hid (fillP_same HOk.out.wide (fun i j hi hj hh => by have := (HIn.out j i hj hi).1 hh; omega))
          have HE3 : Hid (fillP r c rows y (mx + ma) = fillP r c rows (y + 1) 0) := Lib.hid (fillP_same HOk.out.wide (fun i j hi hj hh => by have := (HIn.out j i hj hi).1 hh; omega))
          clear s0_wr a_w3 b_w3 z_w3 a_wr z_wr l0_wr s0_w3 r0_w3 f0_w3 l0_w3 hcut
          go_wp2_with fail
          go_loopg [42] ma (fun k iv wr2 => ∃ s : Nat, k = ma - s ∧ s ≤ ma ∧ iv = .int .i64 s ∧ Keeps S w wr2 ∧ wr2.heap[b7]? = some (.cells #[.int .i64 (mx : Int), .int .i64 (my : Int), .int .i64 (ma : Int), .int .i64 (mb : Int)] 32) ∧ FrA wr2 a ⟨W, fillP r c rows y (mx + s), n0⟩ S (some ⟨q, 0, none⟩) cap)
          case atStart =>
            refine ⟨0, by omega, by omega, rfl, K3.out, M3.out, ?_⟩
            rw [Nat.add_zero, ← HX3.out]
            exact X3.out
          case round =>
            obtain ⟨s, hk2, hs2, rfl, hKe, sM, hX⟩ := hrel
            have HK2 := Lib.hid (And.intro hKe sM)
            have HX2 := Lib.hid hX
            by_cases hls : s < ma
            · have hlen2 : (fillP r c rows y (mx + s)).length = H := by rw [fillP_len]; exact HH.out.1
              obtain ⟨q', cells2, he, _, hq2, hp2⟩ := hX.pix (Nat.mul_pos hW0 (by show 0 < (fillP r c rows y (mx + s)).length; omega))
              cases he
              have hcell := hp2 y (mx + s) (by show y < (fillP r c rows y (mx + s)).length; omega) (by show mx + s < W; omega)
              have hcell2 : ∃ z, cells2[l + mx + s]? = some (Value.int .u32 z) := ⟨_, by
                have e : y * W + (mx + s) = l + mx + s := by rw [HLe.out]; omega
                have := hcell
                simp only [e] at this
                exact this⟩
              obtain ⟨z, hz⟩ := hcell2
              have r_q := own_row hq2
              have f_q := own_free hq2
              have hqb : b7 ≠ q := by
                rintro rfl
                rw [HK2.out.2] at hq2
                cases hq2
              have HSt : Hid (FrA (wr.setCell ⟨q, l + mx + s, none⟩ (.int .u32 c)) a ⟨W, fillP r c rows y (mx + (s + 1)), n0⟩ S (some ⟨q, 0, none⟩) cap) := Lib.hid (by
                have e : l + mx + s = y * W + (mx + s) := by rw [HLe.out]; omega
                rw [e]
                refine HX2.out.store sq hq2 hp2 (y := y) (x := mx + s) (by show y < (fillP r c rows y (mx + s)).length; omega) (by show mx + s < W; omega) c (by rw [fillP_len, fillP_len]) (fillP_ok HOk.out.wide) (fun i j hi hj => ?_)
                have hi2 : i < rows.length := by have : i < (fillP r c rows y (mx + s)).length := hi; rwa [fillP_len] at this
                have hj2 : j < W := hj
                show px (fillP r c rows y (mx + (s + 1))) i j = if i = y ∧ j = mx + s then c else px (fillP r c rows y (mx + s)) i j
                rw [px_fillP HOk.out.wide hi2 hj2, px_fillP HOk.out.wide hi2 hj2]
                have hh := HIn.out j i hj2 hi2
                by_cases e1 : i = y ∧ j = mx + s
                · rw [if_pos e1, if_pos ⟨by omega, hh.2 (by omega)⟩]
                · rw [if_neg e1]
                  have e2 : (i < y ∨ (i = y ∧ j < mx + (s + 1))) ↔ (i < y ∨ (i = y ∧ j < mx + s)) := by omega
                  simp only [e2])
              have HSq := Lib.hid sq
              have HNb := Lib.hid hqb
              clear hX hKe sM hq2 hp2 hcell hlen2 hqb
              go_wp2_with fail
              go_roundg (ma - (s + 1))
              case measure => omega
              case rel => exact ⟨s + 1, rfl, by omega, by go_num, HK2.out.1.setCell HSq.out _, heap_far HNb.out HK2.out.2, HSt.out⟩
            · obtain rfl : s = ma := by omega
              clear hX hKe sM
              go_wp2_with fail
              go_roundg (my + mb - (y + 1))
              case measure => omega
              case rel =>
                refine ⟨y + 1, rfl, by omega, by omega, by go_num, HK2.out.1, HK2.out.2, ?_⟩
                rw [← HE3.out]
                exact HX2.out
      · obtain rfl : y = my + mb := by omega
        have e : Hid (fillP r c rows rows.length 0 = fillP r c rows (my + mb) 0) := Lib.hid (fillP_same HOk.out.wide (fun i j hi hj hh => by have := (HIn.out j i hj hi).1 hh; omega))
        have r_m := own_row sM
        have f_m := own_free sM
        clear hX hKe
        go_wp2_with fail
        refine (HArea.out wr).mono ?_
        rintro e w4 ⟨rfl, b4⟩
        have HX4 := Lib.hid (HX.out.any b4)
        have r_a := own_row HX4.out.top
        have f_a := own_free HX4.out.top
        have HK4 := Lib.hid (HK.out.trans (Keeps.of b4))
        clear b4 r_m f_m sM
        go_wp2_with fail
        go_ret
        refine ⟨rfl, HK4.out.setCell HX.out.here _, A, cap, ?_⟩
        rw [HFM.out, e.out]
        exact HX4.out.setN _

/-! ### Dots -/
theorem dotsM_cons (r : Rt) (l : List Rt) (c : Int) (m : FM) : dotsM (r :: l) c m = dotsM l c (fillM r c m) := rfl
theorem dotsN_fill (l : List Rt) (r : Rt) (c : Int) (m : FM) : dotsN l (fillM r c m) = dotsN l m := by
  unfold dotsN fillM
  simp only [fillA_len]
theorem dotsN_take {l : List Rt} {j : Nat} (hj : j < l.length) (m : FM) : dotsN (l.take (j + 1)) m = dotsN (l.take j) m + cntA l[j] m.w m.rows.length := by
  unfold dotsN
  rw [List.take_succ_eq_append_getElem hj, List.map_append, List.sum_append]
  simp only [List.map_cons, List.map_nil, List.sum_cons, List.sum_nil, Int.add_zero]
theorem dotsM_take {l : List Rt} {j : Nat} (hj : j < l.length) (c : Int) (m : FM) : dotsM (l.take (j + 1)) c m = fillM l[j] c (dotsM (l.take j) c m) := by
  unfold dotsM
  rw [List.take_succ_eq_append_getElem hj, List.foldl_append]
  rfl
theorem dotsM_w (l : List Rt) (c : Int) (m : FM) : (dotsM l c m).w = m.w ∧ (dotsM l c m).rows.length = m.rows.length ∧ (m.Ok → (dotsM l c m).Ok) ∧ (dotsM l c m).n = m.n + dotsN l m := by
  induction l generalizing m with
  | nil => exact ⟨rfl, rfl, fun h => h, by simp [dotsM, dotsN]⟩
  | cons r l ih =>
    obtain ⟨h1, h2, h3, h4⟩ := ih (fillM r c m)
    rw [dotsM_cons]
    refine ⟨h1, h2.trans (fillA_len _ _ _), fun h => h3 (fillM_ok h), ?_⟩
    rw [h4, dotsN_fill]
    unfold dotsN fillM
    simp
    omega
theorem dotsN_in (l : List Rt) (m : FM) (hw : m.w ≤ 4096) (hh : m.rows.length ≤ 4096) : 0 ≤ dotsN l m ∧ dotsN l m ≤ l.length * 25000000 := by
  induction l with
  | nil => simp [dotsN]
  | cons r l ih =>
    have h := cntA_max (r := r) (w := m.w) (y := m.rows.length) (by omega) (by omega)
    unfold dotsN at ih ⊢
    simp only [List.map_cons, List.sum_cons, List.length_cons]
    push_cast
    omega
theorem cell_block {w w' : World} {b : Nat} (h : w'.heap[b]? = w.heap[b]?) (i : Nat) : w'.cell? ⟨b, i, none⟩ = w.cell? ⟨b, i, none⟩ := by simp [World.cell?, h]
set_option maxRecDepth 100000 in
set_option maxHeartbeats 6400000 in
theorem dots_any {w : World} {a : Nat} {m : FM} {S : Nat → Prop} (v : Value) (l : List Rt) (c n : Int) (hn : dotsN l m = n) (h : Fr w a m S) (hs : Small m) (hv : RRt w v l) (ho : Off v S) (hl : ∀ r ∈ l, r.I64) (hll : l.length ≤ 100) : Calls Try.prog 41 #[ptr a, v, .int .u32 c] w fun e w' => e = .returned (.int .i64 n) ∧ Keeps S w w' ∧ Fr w' a (dotsM l c m) S := by
  obtain ⟨s1, s2, s3, s4, s5⟩ := hs
  obtain ⟨b, cap, rfl, hb, hc⟩ := hv
  have hbS : ¬ S b := ho b 0 l.length cap rfl
  have HN := Lib.hid hn
  have HF := Lib.hid h
  have HV := Lib.hid hc
  have HI := Lib.hid hl
  have HB : Hid (∀ j, 0 ≤ dotsN (l.take j) m ∧ dotsN (l.take j) m ≤ 100 * 25000000) := Lib.hid (fun j => by
    have h1 := dotsN_in (l.take j) m s2 s3
    have h2 : (l.take j).length ≤ 100 := by rw [List.length_take]; omega
    omega)
  have HO := Lib.hid s1
  obtain ⟨L, hL⟩ : ∃ L, l.length = L := ⟨_, rfl⟩
  have HL := Lib.hid hL
  rw [hL] at hll ⊢
  clear hn h hc hl ho hL s1
  unfold ptr
  go_enter Try.func41, Try.ntmps41
  go_wp2_with fail
  go_loopg [7, 12] L (fun k nv iv wr => ∃ j : Nat, k = L - j ∧ j ≤ L ∧ iv = .int .i64 j ∧ nv = .int .i64 (dotsN (l.take j) m) ∧ Keeps S w wr ∧ Fr wr a (dotsM (l.take j) c m) S)
  case atStart => exact ⟨0, by omega, by omega, rfl, rfl, Keeps.refl _ _, HF.out⟩
  case round =>
    obtain ⟨j, hk, hj, rfl, rfl, hKe, hX⟩ := hrel
    have HX := Lib.hid hX
    have HK := Lib.hid hKe
    obtain ⟨bb1, bb2⟩ := HB.out j
    by_cases hlt : j < L
    · have lj : j < l.length := by rw [HL.out]; exact hlt
      have hblk := hKe.block b hb hbS
      obtain ⟨v0, v1, v2, v3⟩ := HV.out j lj
      rw [← cell_block hblk] at v0 v1 v2 v3
      have lb : b < wr.heap.size := Nat.lt_of_lt_of_le hb hKe.size
      have hrI := HI.out l[j] (List.getElem_mem lj)
      obtain ⟨nj, hnj⟩ : ∃ nj, cntA l[j] m.w m.rows.length = nj := ⟨_, rfl⟩
      have hT := dotsN_take lj m
      rw [hnj] at hT
      have HT := Lib.hid hT
      obtain ⟨e1, e2, e3, e4⟩ := dotsM_w (l.take j) c m
      have hM := dotsM_take lj c m
      have hnb := cntA_max (r := l[j]) (w := m.w) (y := m.rows.length) (by omega) (by omega)
      rw [hnj] at hnb
      have HFi : Hid (∀ w', AnyLater wr w' → Calls Try.prog 37 #[.pointer (some ⟨a, 0, none⟩), .agg #[.int .i64 l[j].x, .int .i64 l[j].y, .int .i64 l[j].a, .int .i64 l[j].b], .int .u32 c] w' fun e w'' => e = .returned (.int .i64 nj) ∧ Keeps S wr w'' ∧ Fr w'' a (dotsM (l.take (j + 1)) c m) S) := Lib.hid (fun w' ha => by
        refine (fill_any l[j] c nj (by rw [e1, e2]; exact hnj) (HX.out.any ha) (by rw [e1]; exact s2) (by rw [e2]; exact s3) (by rw [e4]; omega) (by rw [e4]; omega) hrI).mono ?_
        rintro e w'' ⟨rfl, k, f⟩
        exact ⟨rfl, (Keeps.of ha).trans k, by rw [hM]; exact f⟩)
      clear hX hKe hblk hT hM e1 e2 e3 e4 hrI hnj
      generalize l[j] = r at *
      obtain ⟨rx, ry, ra, rb⟩ := r
      simp only at v0 v1 v2 v3 HFi
      go_wp2_with fail
      refine (HFi.out _ (by repeat' (first | with_reducible assumption | with_reducible exact AnyLater.refl _ | with_reducible apply AnyLater.setCell | with_reducible apply AnyLater.later | with_reducible apply AnyLater.drewN | with_reducible apply AnyLater.drew | with_reducible apply AnyLater.alloc | ((try simp only [World.size_alloc, World.size_setCell, World.size_drew]); (try dsimp only); omega)))).mono ?_
      rintro e w3 ⟨rfl, k3, f3⟩
      have HK3 := Lib.hid (HK.out.trans k3)
      have HF3 := Lib.hid f3
      clear k3 f3 v0 v1 v2 v3
      go_wp2_with fail
      go_roundg (L - (j + 1))
      case measure => omega
      case rel => exact ⟨j + 1, rfl, by omega, by go_num, by rw [HT.out], HK3.out, HF3.out⟩
    · obtain rfl : j = L := by omega
      have e : Hid (l.take j = l) := Lib.hid (List.take_of_length_le (Nat.le_of_eq HL.out))
      clear hX hKe
      go_wp2_with fail
      go_ret
      refine ⟨ret_int (by rw [e.out]; exact HN.out), HK.out, ?_⟩
      rw [← e.out]
      exact HX.out
end Go.Proofs.Ytfliniknaonieaa
