/- rect: what two rectangles share, by the program's own function. -/
import Derived.Test.YtddmhonhajfehaaRectD
namespace Go.Proofs.Ytddmhonhajfehaa
set_option linter.unusedSimpArgs false
set_option linter.unusedVariables false
set_option linter.unusedSectionVars false
open Go.RowKit

set_option maxHeartbeats 4000000 in
theorem meet_any (x y a b x2 y2 a2 b2 : Int) (w : World) (hx : I64 x) (hy : I64 y) (ha : I64 a) (hb : I64 b) (hx2 : I64 x2) (hy2 : I64 y2) (ha2 : I64 a2) (hb2 : I64 b2) :
    Calls Try.prog 15 #[.agg #[.int .i64 x, .int .i64 y, .int .i64 a, .int .i64 b], .agg #[.int .i64 x2, .int .i64 y2, .int .i64 a2, .int .i64 b2]] w fun e w' => e = .returned (meetR ⟨x, y, a, b⟩ ⟨x2, y2, a2, b2⟩).val ∧ AnyLater w w' := by
  rcases g1 : anyB x y a b
  · have e1 : (!anyB x y a b) = true := by rw [g1]; rfl
    go_enter Try.func15, Try.ntmps15
    go_wp2_with (go_at_call 10; refine (empty_any _ _ _ _ _ _ (by assumption) (by assumption) (by assumption) (by assumption) (by assumption)).mono ?_; rintro e w' ⟨rfl, u, rfl⟩; have hs := later_size u; (try simp only [World.size_alloc, World.size_setCell, World.size_drew] at hs); have c0 := later_row u w.heap.size (by (try simp only [World.size_alloc, World.size_setCell, World.size_drew]); omega); have z0 := later_free u w.heap.size (by (try simp only [World.size_alloc, World.size_setCell, World.size_drew]); omega); have c1 := later_row u (w.heap.size + 1) (by (try simp only [World.size_alloc, World.size_setCell, World.size_drew]); omega); have z1 := later_free u (w.heap.size + 1) (by (try simp only [World.size_alloc, World.size_setCell, World.size_drew]); omega); have c2 := later_row u (w.heap.size + 1 + 1) (by (try simp only [World.size_alloc, World.size_setCell, World.size_drew]); omega); have z2 := later_free u (w.heap.size + 1 + 1) (by (try simp only [World.size_alloc, World.size_setCell, World.size_drew]); omega))
    refine bodyPost_ret (v := Rc.zero.val) (by simp [results, Try.results15, go_sem, *, Rc.val, Rc.zero]) rfl ⟨by unfold meetR Rc.any; simp [g1], ?_⟩
    repeat' (first | with_reducible assumption | with_reducible exact AnyLater.refl _ | with_reducible apply AnyLater.setCell | with_reducible apply AnyLater.later | with_reducible apply AnyLater.drewN | with_reducible apply AnyLater.drew | with_reducible apply AnyLater.alloc | ((try simp only [World.size_alloc, World.size_setCell, World.size_drew]); (try dsimp only); omega))
  · have e1 : (!anyB x y a b) = false := by rw [g1]; rfl
    rcases g2 : anyB x2 y2 a2 b2
    · have e2 : (!anyB x2 y2 a2 b2) = true := by rw [g2]; rfl
      go_enter Try.func15, Try.ntmps15
      go_wp2_with (go_at_call 10; refine (empty_any _ _ _ _ _ _ (by assumption) (by assumption) (by assumption) (by assumption) (by assumption)).mono ?_; rintro e w' ⟨rfl, u, rfl⟩; have hs := later_size u; (try simp only [World.size_alloc, World.size_setCell, World.size_drew] at hs); have c0 := later_row u w.heap.size (by (try simp only [World.size_alloc, World.size_setCell, World.size_drew]); omega); have z0 := later_free u w.heap.size (by (try simp only [World.size_alloc, World.size_setCell, World.size_drew]); omega); have c1 := later_row u (w.heap.size + 1) (by (try simp only [World.size_alloc, World.size_setCell, World.size_drew]); omega); have z1 := later_free u (w.heap.size + 1) (by (try simp only [World.size_alloc, World.size_setCell, World.size_drew]); omega); have c2 := later_row u (w.heap.size + 1 + 1) (by (try simp only [World.size_alloc, World.size_setCell, World.size_drew]); omega); have z2 := later_free u (w.heap.size + 1 + 1) (by (try simp only [World.size_alloc, World.size_setCell, World.size_drew]); omega))
      refine bodyPost_ret (v := Rc.zero.val) (by simp [results, Try.results15, go_sem, *, Rc.val, Rc.zero]) rfl ⟨by unfold meetR Rc.any; simp [g1, g2], ?_⟩
      repeat' (first | with_reducible assumption | with_reducible exact AnyLater.refl _ | with_reducible apply AnyLater.setCell | with_reducible apply AnyLater.later | with_reducible apply AnyLater.drewN | with_reducible apply AnyLater.drew | with_reducible apply AnyLater.alloc | ((try simp only [World.size_alloc, World.size_setCell, World.size_drew]); (try dsimp only); omega))
    · have e2 : (!anyB x2 y2 a2 b2) = false := by rw [g2]; rfl
      obtain ⟨i1, i2, i3, i4, i5, i6, i7, i8⟩ := anyB_in g1
      obtain ⟨j1, j2, j3, j4, j5, j6, j7, j8⟩ := anyB_in g2
      obtain ⟨cx, e1⟩ : ∃ c, hiZ x x2 = c := ⟨_, rfl⟩
      obtain ⟨cy, e2⟩ : ∃ c, hiZ y y2 = c := ⟨_, rfl⟩
      obtain ⟨lx, e3⟩ : ∃ c, loZ (x + a) (x2 + a2) = c := ⟨_, rfl⟩
      obtain ⟨ly, e4⟩ : ∃ c, loZ (y + b) (y2 + b2) = c := ⟨_, rfl⟩
      have k1 := hiZ_in x x2
      have k2 := hiZ_in y y2
      have k3 := loZ_in (x + a) (x2 + a2)
      have k4 := loZ_in (y + b) (y2 + b2)
      have hm : meetR ⟨x, y, a, b⟩ ⟨x2, y2, a2, b2⟩ = if 0 < lx - cx ∧ 0 < ly - cy then ⟨cx, cy, lx - cx, ly - cy⟩ else Rc.zero := by
        unfold meetR Rc.any crossR; simp only [g1, g2, e1, e2, e3, e4, Bool.and_self, if_true]
      rw [e1] at k1; rw [e2] at k2; rw [e3] at k3; rw [e4] at k4
      have HM := Lib.hid hm
      clear hm
      have hE : 0 < lx - cx ∧ 0 < ly - cy → (!anyB cx cy (lx - cx) (ly - cy)) = false := by
        intro h; unfold anyB goodB sideB; simp; omega
      have hF : ¬ (0 < lx - cx ∧ 0 < ly - cy) → (!anyB cx cy (lx - cx) (ly - cy)) = true := by
        intro h; unfold anyB goodB sideB; simp; omega
      by_cases h : 0 < lx - cx ∧ 0 < ly - cy
      · have hE := hE h
        clear hF
        have hmx := run_maxZ (P := Try.prog)
        have hmn := run_minZ (P := Try.prog)
        go_enter Try.func15, Try.ntmps15
        go_wp2_with fail
        refine (empty_any _ _ _ _ _ _ (by assumption) (by omega) (by omega) (by omega) (by omega)).mono ?_
        rintro e w' ⟨rfl, u1, rfl⟩
        have h_u1 := later_size u1
        (try simp only [World.size_alloc, World.size_setCell, World.size_drew] at h_u1)
        have c0_u1 := later_row u1 (w.heap.size) (by (try simp only [World.size_alloc, World.size_setCell, World.size_drew]); omega)
        have z0_u1 := later_free u1 (w.heap.size) (by (try simp only [World.size_alloc, World.size_setCell, World.size_drew]); omega)
        have l0_u1 : w.heap.size < (later u1).heap.size := by omega
        have c1_u1 := later_row u1 (w.heap.size + 1) (by (try simp only [World.size_alloc, World.size_setCell, World.size_drew]); omega)
        have z1_u1 := later_free u1 (w.heap.size + 1) (by (try simp only [World.size_alloc, World.size_setCell, World.size_drew]); omega)
        have l1_u1 : w.heap.size + 1 < (later u1).heap.size := by omega
        have c2_u1 := later_row u1 (w.heap.size + 1 + 1) (by (try simp only [World.size_alloc, World.size_setCell, World.size_drew]); omega)
        have z2_u1 := later_free u1 (w.heap.size + 1 + 1) (by (try simp only [World.size_alloc, World.size_setCell, World.size_drew]); omega)
        have l2_u1 : w.heap.size + 1 + 1 < (later u1).heap.size := by omega
        go_wp2_with fail
        refine (empty_any _ _ _ _ _ _ (by assumption) (by omega) (by omega) (by omega) (by omega)).mono ?_
        rintro e w' ⟨rfl, u2, rfl⟩
        have h_u2 := later_size u2
        (try simp only [World.size_alloc, World.size_setCell, World.size_drew] at h_u2)
        have c0_u2 := later_row u2 (w.heap.size) (by (try simp only [World.size_alloc, World.size_setCell, World.size_drew]); omega)
        have z0_u2 := later_free u2 (w.heap.size) (by (try simp only [World.size_alloc, World.size_setCell, World.size_drew]); omega)
        have l0_u2 : w.heap.size < (later u2).heap.size := by omega
        have c1_u2 := later_row u2 (w.heap.size + 1) (by (try simp only [World.size_alloc, World.size_setCell, World.size_drew]); omega)
        have z1_u2 := later_free u2 (w.heap.size + 1) (by (try simp only [World.size_alloc, World.size_setCell, World.size_drew]); omega)
        have l1_u2 : w.heap.size + 1 < (later u2).heap.size := by omega
        have c2_u2 := later_row u2 (w.heap.size + 1 + 1) (by (try simp only [World.size_alloc, World.size_setCell, World.size_drew]); omega)
        have z2_u2 := later_free u2 (w.heap.size + 1 + 1) (by (try simp only [World.size_alloc, World.size_setCell, World.size_drew]); omega)
        have l2_u2 : w.heap.size + 1 + 1 < (later u2).heap.size := by omega
        go_wp2_with fail
        refine (between_any _ _ _ _ _ (by omega) (by omega) cx cy (lx - cx) (ly - cy) (by omega) (by omega) (by omega) (by omega)).mono ?_
        rintro e w' ⟨rfl, u3, rfl⟩
        have h_u3 := later_size u3
        (try simp only [World.size_alloc, World.size_setCell, World.size_drew] at h_u3)
        have c0_u3 := later_row u3 (w.heap.size) (by (try simp only [World.size_alloc, World.size_setCell, World.size_drew]); omega)
        have z0_u3 := later_free u3 (w.heap.size) (by (try simp only [World.size_alloc, World.size_setCell, World.size_drew]); omega)
        have l0_u3 : w.heap.size < (later u3).heap.size := by omega
        have c1_u3 := later_row u3 (w.heap.size + 1) (by (try simp only [World.size_alloc, World.size_setCell, World.size_drew]); omega)
        have z1_u3 := later_free u3 (w.heap.size + 1) (by (try simp only [World.size_alloc, World.size_setCell, World.size_drew]); omega)
        have l1_u3 : w.heap.size + 1 < (later u3).heap.size := by omega
        have c2_u3 := later_row u3 (w.heap.size + 1 + 1) (by (try simp only [World.size_alloc, World.size_setCell, World.size_drew]); omega)
        have z2_u3 := later_free u3 (w.heap.size + 1 + 1) (by (try simp only [World.size_alloc, World.size_setCell, World.size_drew]); omega)
        have l2_u3 : w.heap.size + 1 + 1 < (later u3).heap.size := by omega
        go_wp2_with fail
        refine (empty_any _ _ _ _ _ _ (by assumption) (by omega) (by omega) (by omega) (by omega)).mono ?_
        rintro e w' ⟨rfl, u4, rfl⟩
        have h_u4 := later_size u4
        (try simp only [World.size_alloc, World.size_setCell, World.size_drew] at h_u4)
        have c0_u4 := later_row u4 (w.heap.size) (by (try simp only [World.size_alloc, World.size_setCell, World.size_drew]); omega)
        have z0_u4 := later_free u4 (w.heap.size) (by (try simp only [World.size_alloc, World.size_setCell, World.size_drew]); omega)
        have l0_u4 : w.heap.size < (later u4).heap.size := by omega
        have c1_u4 := later_row u4 (w.heap.size + 1) (by (try simp only [World.size_alloc, World.size_setCell, World.size_drew]); omega)
        have z1_u4 := later_free u4 (w.heap.size + 1) (by (try simp only [World.size_alloc, World.size_setCell, World.size_drew]); omega)
        have l1_u4 : w.heap.size + 1 < (later u4).heap.size := by omega
        have c2_u4 := later_row u4 (w.heap.size + 1 + 1) (by (try simp only [World.size_alloc, World.size_setCell, World.size_drew]); omega)
        have z2_u4 := later_free u4 (w.heap.size + 1 + 1) (by (try simp only [World.size_alloc, World.size_setCell, World.size_drew]); omega)
        have l2_u4 : w.heap.size + 1 + 1 < (later u4).heap.size := by omega
        have c3_u4 := later_row u4 ((later u3).heap.size) (by (try simp only [World.size_alloc, World.size_setCell, World.size_drew]); omega)
        have z3_u4 := later_free u4 ((later u3).heap.size) (by (try simp only [World.size_alloc, World.size_setCell, World.size_drew]); omega)
        have l3_u4 : (later u3).heap.size < (later u4).heap.size := by omega
        go_wp2
        refine bodyPost_ret (v := Rc.val ⟨cx, cy, lx - cx, ly - cy⟩) (by simp [results, Try.results15, go_sem, *, Rc.val, Rc.zero]) rfl ⟨by rw [HM.out, if_pos h], ?_⟩
        repeat' (first | with_reducible assumption | with_reducible exact AnyLater.refl _ | with_reducible apply AnyLater.setCell | with_reducible apply AnyLater.later | with_reducible apply AnyLater.drewN | with_reducible apply AnyLater.drew | with_reducible apply AnyLater.alloc | ((try simp only [World.size_alloc, World.size_setCell, World.size_drew]); (try dsimp only); omega))
      · have hF := hF h
        clear hE
        have hmx := run_maxZ (P := Try.prog)
        have hmn := run_minZ (P := Try.prog)
        go_enter Try.func15, Try.ntmps15
        go_wp2_with fail
        refine (empty_any _ _ _ _ _ _ (by assumption) (by omega) (by omega) (by omega) (by omega)).mono ?_
        rintro e w' ⟨rfl, u1, rfl⟩
        have h_u1 := later_size u1
        (try simp only [World.size_alloc, World.size_setCell, World.size_drew] at h_u1)
        have c0_u1 := later_row u1 (w.heap.size) (by (try simp only [World.size_alloc, World.size_setCell, World.size_drew]); omega)
        have z0_u1 := later_free u1 (w.heap.size) (by (try simp only [World.size_alloc, World.size_setCell, World.size_drew]); omega)
        have l0_u1 : w.heap.size < (later u1).heap.size := by omega
        have c1_u1 := later_row u1 (w.heap.size + 1) (by (try simp only [World.size_alloc, World.size_setCell, World.size_drew]); omega)
        have z1_u1 := later_free u1 (w.heap.size + 1) (by (try simp only [World.size_alloc, World.size_setCell, World.size_drew]); omega)
        have l1_u1 : w.heap.size + 1 < (later u1).heap.size := by omega
        have c2_u1 := later_row u1 (w.heap.size + 1 + 1) (by (try simp only [World.size_alloc, World.size_setCell, World.size_drew]); omega)
        have z2_u1 := later_free u1 (w.heap.size + 1 + 1) (by (try simp only [World.size_alloc, World.size_setCell, World.size_drew]); omega)
        have l2_u1 : w.heap.size + 1 + 1 < (later u1).heap.size := by omega
        go_wp2_with fail
        refine (empty_any _ _ _ _ _ _ (by assumption) (by omega) (by omega) (by omega) (by omega)).mono ?_
        rintro e w' ⟨rfl, u2, rfl⟩
        have h_u2 := later_size u2
        (try simp only [World.size_alloc, World.size_setCell, World.size_drew] at h_u2)
        have c0_u2 := later_row u2 (w.heap.size) (by (try simp only [World.size_alloc, World.size_setCell, World.size_drew]); omega)
        have z0_u2 := later_free u2 (w.heap.size) (by (try simp only [World.size_alloc, World.size_setCell, World.size_drew]); omega)
        have l0_u2 : w.heap.size < (later u2).heap.size := by omega
        have c1_u2 := later_row u2 (w.heap.size + 1) (by (try simp only [World.size_alloc, World.size_setCell, World.size_drew]); omega)
        have z1_u2 := later_free u2 (w.heap.size + 1) (by (try simp only [World.size_alloc, World.size_setCell, World.size_drew]); omega)
        have l1_u2 : w.heap.size + 1 < (later u2).heap.size := by omega
        have c2_u2 := later_row u2 (w.heap.size + 1 + 1) (by (try simp only [World.size_alloc, World.size_setCell, World.size_drew]); omega)
        have z2_u2 := later_free u2 (w.heap.size + 1 + 1) (by (try simp only [World.size_alloc, World.size_setCell, World.size_drew]); omega)
        have l2_u2 : w.heap.size + 1 + 1 < (later u2).heap.size := by omega
        go_wp2_with fail
        refine (between_any _ _ _ _ _ (by omega) (by omega) cx cy (lx - cx) (ly - cy) (by omega) (by omega) (by omega) (by omega)).mono ?_
        rintro e w' ⟨rfl, u3, rfl⟩
        have h_u3 := later_size u3
        (try simp only [World.size_alloc, World.size_setCell, World.size_drew] at h_u3)
        have c0_u3 := later_row u3 (w.heap.size) (by (try simp only [World.size_alloc, World.size_setCell, World.size_drew]); omega)
        have z0_u3 := later_free u3 (w.heap.size) (by (try simp only [World.size_alloc, World.size_setCell, World.size_drew]); omega)
        have l0_u3 : w.heap.size < (later u3).heap.size := by omega
        have c1_u3 := later_row u3 (w.heap.size + 1) (by (try simp only [World.size_alloc, World.size_setCell, World.size_drew]); omega)
        have z1_u3 := later_free u3 (w.heap.size + 1) (by (try simp only [World.size_alloc, World.size_setCell, World.size_drew]); omega)
        have l1_u3 : w.heap.size + 1 < (later u3).heap.size := by omega
        have c2_u3 := later_row u3 (w.heap.size + 1 + 1) (by (try simp only [World.size_alloc, World.size_setCell, World.size_drew]); omega)
        have z2_u3 := later_free u3 (w.heap.size + 1 + 1) (by (try simp only [World.size_alloc, World.size_setCell, World.size_drew]); omega)
        have l2_u3 : w.heap.size + 1 + 1 < (later u3).heap.size := by omega
        go_wp2_with fail
        refine (empty_any _ _ _ _ _ _ (by assumption) (by omega) (by omega) (by omega) (by omega)).mono ?_
        rintro e w' ⟨rfl, u4, rfl⟩
        have h_u4 := later_size u4
        (try simp only [World.size_alloc, World.size_setCell, World.size_drew] at h_u4)
        have c0_u4 := later_row u4 (w.heap.size) (by (try simp only [World.size_alloc, World.size_setCell, World.size_drew]); omega)
        have z0_u4 := later_free u4 (w.heap.size) (by (try simp only [World.size_alloc, World.size_setCell, World.size_drew]); omega)
        have l0_u4 : w.heap.size < (later u4).heap.size := by omega
        have c1_u4 := later_row u4 (w.heap.size + 1) (by (try simp only [World.size_alloc, World.size_setCell, World.size_drew]); omega)
        have z1_u4 := later_free u4 (w.heap.size + 1) (by (try simp only [World.size_alloc, World.size_setCell, World.size_drew]); omega)
        have l1_u4 : w.heap.size + 1 < (later u4).heap.size := by omega
        have c2_u4 := later_row u4 (w.heap.size + 1 + 1) (by (try simp only [World.size_alloc, World.size_setCell, World.size_drew]); omega)
        have z2_u4 := later_free u4 (w.heap.size + 1 + 1) (by (try simp only [World.size_alloc, World.size_setCell, World.size_drew]); omega)
        have l2_u4 : w.heap.size + 1 + 1 < (later u4).heap.size := by omega
        have c3_u4 := later_row u4 ((later u3).heap.size) (by (try simp only [World.size_alloc, World.size_setCell, World.size_drew]); omega)
        have z3_u4 := later_free u4 ((later u3).heap.size) (by (try simp only [World.size_alloc, World.size_setCell, World.size_drew]); omega)
        have l3_u4 : (later u3).heap.size < (later u4).heap.size := by omega
        go_wp2
        refine bodyPost_ret (v := Rc.zero.val) (by simp [results, Try.results15, go_sem, *, Rc.val, Rc.zero]) rfl ⟨by rw [HM.out, if_neg h], ?_⟩
        repeat' (first | with_reducible assumption | with_reducible exact AnyLater.refl _ | with_reducible apply AnyLater.setCell | with_reducible apply AnyLater.later | with_reducible apply AnyLater.drewN | with_reducible apply AnyLater.drew | with_reducible apply AnyLater.alloc | ((try simp only [World.size_alloc, World.size_setCell, World.size_drew]); (try dsimp only); omega))
end Go.Proofs.Ytddmhonhajfehaa
