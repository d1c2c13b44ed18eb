/- face: Columns and Glyph of the program, by contract; all that the program's functions tell. -/
import Derived.Test.YtbgpjfiabefajaaFaceR
import Derived.Test.YtbgpjfiabefajaaGlyX
namespace Go.Proofs.Ytbgpjfiabefajaa
set_option linter.unusedSimpArgs false
set_option linter.unusedVariables false
set_option linter.unusedSectionVars false
open Go.RowKit

/-! ### Columns -/
theorem cols_ascii {r : Int} (h : 32 ≤ r ∧ r ≤ 126) : letL r 5 = colsZ r := by
  unfold letL colsZ colZ
  simp only [if_pos h]
  rfl
theorem cols_line {r : Int} (h : 9472 ≤ r ∧ r ≤ 9599) : [boxZ (r - 9472) 0, boxZ (r - 9472) 1, boxZ (r - 9472) 2, boxZ (r - 9472) 3, boxZ (r - 9472) 4] = colsZ r := by
  have n1 : ¬ (32 ≤ r ∧ r ≤ 126) := by omega
  have n2 : ¬ (160 ≤ r ∧ r ≤ 255) := by omega
  unfold colsZ colZ
  simp only [if_neg n1, if_neg n2, if_pos h]
theorem cols_none {r : Int} (h : knownZ r = false) : [127, 65, 65, 65, 127] = colsZ r := by
  unfold colsZ
  simp only [colZ_none h]
  rfl
set_option maxRecDepth 100000 in
set_option maxHeartbeats 3200000 in
theorem fcCols_any (r : Int) (w : World) (hb : -2147483648 ≤ r ∧ r ≤ 2147483647) : Shows 39 #[.int .i32 r] w fun u w' => RY w' u (colsZ r) := by
  have HB := Lib.hid hb
  by_cases q1 : 32 ≤ r ∧ r ≤ 126
  · have HP := Lib.hid (fun w => fcPart_any r w 1 (by unfold partZ; rw [if_pos q1]))
    have HL := Lib.hid (fun w => letter_any r w q1)
    have HZ := Lib.hid (cols_ascii q1)
    clear q1 hb
    go_enter Try.func39, Try.ntmps39
    go_wp2_with fail
    refine (HP.out _).mono ?_
    rintro e w' ⟨rfl, rfl⟩
    go_wp2_with fail
    refine (HL.out _).mono ?_
    rintro e w1 ⟨q, rfl, b1, -, s1⟩
    have HF := Lib.hid (And.intro b1 s1)
    clear b1 s1
    go_wp2_with fail
    go_ret
    exact ⟨_, rfl, HF.out.1, by rw [← HZ.out]; exact B8_RY HF.out.2⟩
  · by_cases q2 : 160 ≤ r ∧ r ≤ 255
    · have HP := Lib.hid (fun w => fcPart_any r w 2 (by unfold partZ; rw [if_neg q1, if_pos q2]))
      have HL := Lib.hid (fun w => accented_any r w q2)
      clear q1 q2 hb
      go_enter Try.func39, Try.ntmps39
      go_wp2_with fail
      refine (HP.out _).mono ?_
      rintro e w' ⟨rfl, rfl⟩
      go_wp2_with fail
      refine (HL.out _).mono ?_
      rintro e w1 ⟨q, rfl, b1, s1⟩
      have HF := Lib.hid (And.intro b1 s1)
      clear b1 s1
      go_wp2_with fail
      go_ret
      exact ⟨_, rfl, HF.out.1, B8_RY HF.out.2⟩
    · by_cases q3 : 9472 ≤ r ∧ r ≤ 9599
      · have HP := Lib.hid (fun w => fcPart_any r w 3 (by unfold partZ; rw [if_neg q1, if_neg q2, if_pos q3]))
        have HL := Lib.hid (fun w => line_any (r - 9472) w (by omega) (by omega))
        have HZ := Lib.hid (cols_line q3)
        obtain ⟨r1, r2⟩ := q3
        clear q1 q2 hb
        go_enter Try.func39, Try.ntmps39
        go_wp2_with fail
        refine (HP.out _).mono ?_
        rintro e w' ⟨rfl, rfl⟩
        go_wp2_with fail
        refine (HL.out _).mono ?_
        rintro e w1 ⟨q, rfl, b1, s1⟩
        have HF := Lib.hid (And.intro b1 s1)
        clear b1 s1
        go_wp2_with fail
        go_ret
        exact ⟨_, rfl, HF.out.1, by rw [← HZ.out]; exact B8_RY HF.out.2⟩
      · have HP := Lib.hid (fun w => fcPart_any r w 0 (by unfold partZ; rw [if_neg q1, if_neg q2, if_neg q3]))
        have HZ := Lib.hid (cols_none (r := r) (by unfold knownZ; rw [decide_eq_false q1, decide_eq_false q2, decide_eq_false q3]; rfl))
        clear q1 q2 q3 hb
        go_enter Try.func39, Try.ntmps39
        go_wp2_with fail
        refine (HP.out _).mono ?_
        rintro e w' ⟨rfl, rfl⟩
        go_wp2_with fail
        go_ret
        refine ⟨.slice (some ⟨w.heap.size, 0, none⟩) 5 5, rfl, (AnyLater.refl w).alloc _, ?_⟩
        rw [← HZ.out]
        exact B8_RY (l := [127, 65, 65, 65, 127]) (q := w.heap.size) (heap_new rfl)
set_option maxRecDepth 100000 in
theorem box_fin : ∀ k : Fin 128, ∀ c ∈ [boxZ k.1 0, boxZ k.1 1, boxZ k.1 2, boxZ k.1 3, boxZ k.1 4], 0 ≤ c ∧ c ≤ 255 := by decide +kernel
theorem colsZ_le (r : Int) : ∀ c ∈ colsZ r, 0 ≤ c ∧ c ≤ 255 := by
  by_cases q1 : 32 ≤ r ∧ r ≤ 126
  · have h := fun i hi => fcolZ_in (n := r) (i := i) q1 hi
    rw [← cols_ascii q1]
    intro c hc
    simp only [letL, List.mem_cons, List.not_mem_nil, or_false] at hc
    rcases hc with rfl | rfl | rfl | rfl | rfl
    · exact h 0 (by omega)
    · exact h 1 (by omega)
    · exact h 2 (by omega)
    · exact h 3 (by omega)
    · exact h 4 (by omega)
  · by_cases q2 : 160 ≤ r ∧ r ≤ 255
    · have hy := latin_in (i := r - 160) (by omega) (by omega)
      have h : ∀ i, 0 ≤ i ∧ i ≤ 4 → 0 ≤ colZ r i ∧ colZ r i ≤ 255 := fun i hi => by
        have := fcolZ_in (n := latZ (r - 160)) (i := i) hy hi
        unfold colZ
        rw [if_neg q1, if_pos q2]
        split
        · split <;> omega
        · omega
      intro c hc
      simp only [colsZ, List.mem_cons, List.not_mem_nil, or_false] at hc
      rcases hc with rfl | rfl | rfl | rfl | rfl
      · exact h 0 (by omega)
      · exact h 1 (by omega)
      · exact h 2 (by omega)
      · exact h 3 (by omega)
      · exact h 4 (by omega)
    · by_cases q3 : 9472 ≤ r ∧ r ≤ 9599
      · rw [← cols_line q3]
        obtain ⟨n, hn⟩ := Int.eq_ofNat_of_zero_le (show 0 ≤ r - 9472 by omega)
        rw [hn]
        exact box_fin ⟨n, by omega⟩
      · rw [← cols_none (r := r) (by unfold knownZ; rw [decide_eq_false q1, decide_eq_false q2, decide_eq_false q3]; rfl)]
        decide
/-! ### Glyph -/
structure RegP (r : Int) (g : GM) : Prop where
  ok : g.Ok
  w : g.w = 6
  h : g.h = 8
  good : goodG g = true
  bit : ∀ x y : Int, hasB g x y = dot0 r x y
theorem regP_of {r : Int} {o b : GM} (ho : OfP (colsZ r) o) (hb : WideP o 6 8 b) : RegP r b := by
  have h5 : min (colsZ r).length 32 = 5 := rfl
  have hw := ho.w
  rw [h5] at hw
  have hh := ho.h
  have hbit := ho.bit
  rw [h5] at hbit
  obtain ⟨e1, e2, e3, e4⟩ := hb.yes ho.good (by omega) (by omega) (by omega) (by omega)
  obtain ⟨-, -, -, -, hl, -⟩ := goodG_in ho.good
  refine ⟨hb.ok, e1, e2, e3, fun x y => ?_⟩
  rw [e4]
  by_cases q : 0 ≤ x ∧ x < 5 ∧ 0 ≤ y ∧ y < 8
  · obtain ⟨i, rfl⟩ := Int.eq_ofNat_of_zero_le q.1
    obtain ⟨j, rfl⟩ := Int.eq_ofNat_of_zero_le q.2.2.1
    rw [decide_eq_true (by omega), Bool.true_and]
    have hij := hbit i j (by omega) (by omega)
    refine hij.trans ?_
    unfold dot0
    rw [decide_eq_true q, Bool.true_and]
    have hi : i = 0 ∨ i = 1 ∨ i = 2 ∨ i = 3 ∨ i = 4 := by omega
    rcases hi with rfl | rfl | rfl | rfl | rfl <;> rfl
  · rw [dot0_out q, hasB_out (g := o) (by omega), Bool.and_false]
theorem faceP_reg {r : Int} {b : GM} (h : RegP r b) : FaceP 0 r b where
  ok := h.ok
  yes := fun _ _ => ⟨h.w, h.h, h.good, fun x y => by
    rw [h.bit]
    unfold dotZ
    rw [if_neg (by decide), if_neg (by decide)]
    by_cases q : 0 ≤ x ∧ 0 ≤ y
    · rw [decide_eq_true q, Bool.true_and]
    · rw [decide_eq_false q, Bool.false_and, dot0_out (by omega)]⟩
  no := fun hn => absurd ⟨by omega, by omega⟩ hn
theorem faceP_bold {r : Int} {g b : GM} (h : RegP r g) (hb : BoldP g b) : FaceP 1 r b := by
  have hw := h.w
  obtain ⟨e1, e2, e3, e4⟩ := hb.yes h.good (by omega)
  refine ⟨hb.ok, fun _ _ => ⟨by rw [e1, hw]; rfl, by rw [e2, h.h]; rfl, e3, fun x y => ?_⟩, fun hn => absurd ⟨by omega, by omega⟩ hn⟩
  rw [e4, h.bit, h.bit]
  unfold dotZ
  rw [if_neg (by decide), if_pos rfl]
  by_cases q : 0 ≤ x ∧ 0 ≤ y
  · rw [decide_eq_true q, Bool.true_and]
  · rw [decide_eq_false q, Bool.false_and, dot0_out (x := x) (y := y) (by omega), Bool.false_or]
    by_cases q0 : 0 < x
    · rw [dot0_out (x := x - 1) (by omega), Bool.and_false]
    · rw [decide_eq_false q0, Bool.false_and]
theorem faceP_large {r : Int} {g b : GM} (h : RegP r g) (hb : LargeP g b) : FaceP 2 r b := by
  have hw := h.w
  have hh := h.h
  obtain ⟨e1, e2, e3, e4⟩ := hb.yes h.good (by omega) (by omega)
  refine ⟨hb.ok, fun _ _ => ⟨by rw [e1, hw]; rfl, by rw [e2, hh]; rfl, e3, fun x y => ?_⟩, fun hn => absurd ⟨by omega, by omega⟩ hn⟩
  rw [e4, h.bit]
  unfold dotZ
  rw [if_pos rfl]
theorem faceP_none {f r : Int} (h : ¬ (0 ≤ f ∧ f ≤ 2)) : FaceP f r ⟨0, 0, []⟩ := ⟨⟨by unfold I64; simp, by unfold I64; simp, (fun r hr => by cases hr)⟩, (fun a b => absurd ⟨a, b⟩ h), fun _ => ⟨rfl, rfl, rfl⟩⟩
theorem reg_rows {r : Int} {g : GM} (h : RegP r g) : g.rows.length ≤ 40 := by
  obtain ⟨g1, g2, g3, g4, g5, -⟩ := goodG_in h.good
  have := h.h
  omega
theorem of_rows {l : List Int} {o : GM} (h : OfP l o) : o.rows.length ≤ 40 := by
  obtain ⟨g1, g2, g3, g4, g5, -⟩ := goodG_in h.good
  have := h.h
  omega
set_option maxRecDepth 100000 in
set_option maxHeartbeats 3200000 in
theorem regular_any (r : Int) (w : World) (hb : -2147483648 ≤ r ∧ r ≤ 2147483647) : Shows 77 #[.int .i32 r] w (IsP (RegP r)) := by
  have HC := Lib.hid (fun w => fcCols_any r w hb)
  have HO := Lib.hid (fun (v : Value) (w : World) (h : RY w v (colsZ r)) => gsays.of h (colsZ_le r) (show 5 ≤ 40 by decide))
  have HWd := Lib.hid (fun (g : GM) (v : Value) (w : World) (h : IsG g v w) (hok : g.Ok) (hl : g.rows.length ≤ 40) => gsays.wide 6 8 h hok hl (by unfold I64; omega) (by unfold I64; omega))
  have HP := Lib.hid (fun (o b : GM) => @regP_of r o b)
  clear hb
  go_enter Try.func77, Try.ntmps77
  go_wp2_with fail
  first | refine settle_wp (fun wS => AnyLater w wS ∧ wS.heap[w.heap.size]? = some (.cells #[.int .i64 0, .int .i64 0, .slice none 0 0] 51)) ?_ ?_ | refine settle_calls (fun wS => AnyLater w wS ∧ wS.heap[w.heap.size]? = some (.cells #[.int .i64 0, .int .i64 0, .slice none 0 0] 51)) ?_ ?_
  · refine ⟨?_, ?_⟩
    · repeat' (first | with_reducible assumption | with_reducible exact AnyLater.refl _ | with_reducible apply AnyLater.setCell | with_reducible apply AnyLater.later | with_reducible apply AnyLater.drewN | with_reducible apply AnyLater.drew | with_reducible apply AnyLater.alloc | ((try simp only [World.size_alloc, World.size_setCell, World.size_drew]); (try dsimp only); omega))
    · ((repeat (first | with_reducible assumption | ((with_reducible apply heap_new); (try simp only [World.size_alloc, World.size_setCell, World.size_drew, World.heap_drewN]); done) | ((with_reducible apply heap_new); (try simp only [World.size_alloc, World.size_setCell, World.size_drew, World.heap_drewN]); omega) | (with_reducible refine heap_old (by (try simp only [World.size_alloc, World.size_setCell, World.size_drew, World.heap_drewN]); omega) ?_) | (with_reducible refine heap_drew ?_) | (with_reducible refine heap_far (by omega) ?_) | (with_reducible apply heap_at))); all_goals rfl)
  rintro w1 ⟨b_w1, s0_w1⟩
  have a_w1 := b_w1
  have r0_w1 := own_row s0_w1
  have f0_w1 := own_free s0_w1
  have l0_w1 := own_lt s0_w1
  have z_w1 := b_w1.below.size
  refine (HC.out _).mono ?_
  rintro e w2 ⟨u, rfl, b2, hr⟩
  have HR := Lib.hid hr
  obtain ⟨A, cap, rfl, -⟩ := hr
  have s0_w2 := any_own b2 s0_w1
  have HS := Lib.hid s0_w2
  have HA := Lib.hid (a_w1.trans b2)
  clear b2 s0_w2 s0_w1 r0_w1 f0_w1 l0_w1 a_w1 b_w1 z_w1
  go_wp2_with fail
  refine (HO.out _ _ HR.out).mono ?_
  rintro e w3 ⟨u3, rfl, b3, o, ho, hp⟩
  have HG := Lib.hid ho
  have HOP := Lib.hid hp
  obtain ⟨A3, n3, c3, rfl, -⟩ := ho.form
  have HS3 := Lib.hid (any_own b3 HS.out)
  have HA3 := Lib.hid (HA.out.trans b3)
  have HW := Lib.hid (HWd.out o _ w3 ho hp.ok (of_rows hp))
  generalize o.w = ow at *
  generalize o.h = oh at *
  clear b3 ho hp
  go_wp2_with fail
  refine HW.out.mono ?_
  rintro e w4 ⟨u4, rfl, b4, b, hb, hp4⟩
  have HBG := Lib.hid hb
  have HRP := Lib.hid (HP.out _ _ HOP.out hp4)
  obtain ⟨A4, n4, c4, rfl, -⟩ := hb.form
  have s0_w4 := any_own b4 HS3.out
  have HS4 := Lib.hid s0_w4
  have HA4 := Lib.hid (HA3.out.trans b4)
  have r0_w4 := own_row s0_w4
  have f0_w4 := own_free s0_w4
  clear b4 hb hp4 s0_w4
  generalize hbw : b.w = bw at *
  generalize hbh : b.h = bh at *
  have HE := Lib.hid (And.intro hbw hbh)
  clear hbw hbh
  go_wp2_with fail
  refine bodyPost_ret (v := .agg #[.int .i64 bw, .int .i64 bh, .slice A4 n4 c4]) (by simp [results, Try.results77, go_sem, *]) rfl ?_
  refine ⟨_, rfl, ?_, b, HBG.out.keeps (S := fun q => q = w.heap.size) ?_ (fun q hq => by subst hq; exact box_no32 HS4.out), HRP.out⟩
  · exact ((HA4.out.setCell (by simp) _).setCell (by simp) _).setCell (by simp) _
  · refine Keeps.setCell (Keeps.setCell (Keeps.setCell (Keeps.refl _ _) ?_ _) ?_ _) ?_ _ <;> rfl
end Go.Proofs.Ytbgpjfiabefajaa
