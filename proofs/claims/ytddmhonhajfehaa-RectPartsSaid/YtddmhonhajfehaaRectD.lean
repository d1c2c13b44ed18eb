/- rect: a trial -/
import Derived.Test.YtddmhonhajfehaaRectC
namespace Go.Proofs.Ytddmhonhajfehaa
set_option linter.unusedSimpArgs false
set_option linter.unusedVariables false
set_option linter.unusedSectionVars false
open Go.RowKit

theorem run_maxZ {P : Program} (w : World) (ts : Array TypeId) (t : TypeId) (p q : Int) : (Builtin.max_ ts t #[.int .i64 p, .int .i64 q]).run P w = .ok (.int .i64 (hiZ p q)) w := by
  rw [run_max_int2]; unfold hiZ; split <;> split <;> first | rfl | omega | (congr 2; omega)
theorem run_minZ {P : Program} (w : World) (ts : Array TypeId) (t : TypeId) (p q : Int) : (Builtin.min_ ts t #[.int .i64 p, .int .i64 q]).run P w = .ok (.int .i64 (loZ p q)) w := by
  rw [run_min_int2]; unfold loZ; split <;> split <;> first | rfl | omega | (congr 2; omega)
structure Rc where
  x : Int
  y : Int
  a : Int
  b : Int
def Rc.val (r : Rc) : Value := .agg #[.int .i64 r.x, .int .i64 r.y, .int .i64 r.a, .int .i64 r.b]
def Rc.zero : Rc := ⟨0, 0, 0, 0⟩
def Rc.any (r : Rc) : Bool := anyB r.x r.y r.a r.b
def crossR (r s : Rc) : Rc := ⟨hiZ r.x s.x, hiZ r.y s.y, loZ (r.x + r.a) (s.x + s.a) - hiZ r.x s.x, loZ (r.y + r.b) (s.y + s.b) - hiZ r.y s.y⟩
def meetR (r s : Rc) : Rc := if (r.any && s.any) = true then (if 0 < (crossR r s).a ∧ 0 < (crossR r s).b then crossR r s else Rc.zero) else Rc.zero
def Rc.has (r : Rc) (p q : Int) : Bool := inB r.x r.y r.a r.b p q
theorem anyB_in {x y a b : Int} (h : anyB x y a b = true) : -1073741824 ≤ x ∧ x ≤ 1073741824 ∧ -1073741824 ≤ y ∧ y ≤ 1073741824 ∧ 0 < a ∧ 0 < b ∧ x + a ≤ 1073741824 ∧ y + b ≤ 1073741824 := by
  unfold anyB goodB sideB at h; simp at h; omega

theorem refMeet_any (x y a b x2 y2 a2 b2 : Int) (w : World) (hx : I64 x) (hy : I64 y) (ha : I64 a) (hb : I64 b) (hx2 : I64 x2) (hy2 : I64 y2) (ha2 : I64 a2) (hb2 : I64 b2) :
    Calls Try.prog 17 #[.agg #[.int .i64 x, .int .i64 y, .int .i64 a, .int .i64 b], .agg #[.int .i64 x2, .int .i64 y2, .int .i64 a2, .int .i64 b2]] w fun e w' => e = .returned (meetR ⟨x, y, a, b⟩ ⟨x2, y2, a2, b2⟩).val ∧ AnyLater w w' := by
  rcases g1 : anyB x y a b
  · go_enter Try.func17, Try.ntmps17
    go_wp2_with (go_at_call 7; refine (any_any _ _ _ _ _ _ (by assumption) (by assumption) (by assumption) (by assumption) (by assumption)).mono ?_; rintro e w' ⟨rfl, u, rfl⟩; have hs := later_size u; (try simp only [World.size_alloc, World.size_setCell, World.size_drew] at hs); have c0 := later_row u w.heap.size (by (try simp only [World.size_alloc, World.size_setCell, World.size_drew]); omega); have z0 := later_free u w.heap.size (by (try simp only [World.size_alloc, World.size_setCell, World.size_drew]); omega); have c1 := later_row u (w.heap.size + 1) (by (try simp only [World.size_alloc, World.size_setCell, World.size_drew]); omega); have z1 := later_free u (w.heap.size + 1) (by (try simp only [World.size_alloc, World.size_setCell, World.size_drew]); omega); have c2 := later_row u (w.heap.size + 1 + 1) (by (try simp only [World.size_alloc, World.size_setCell, World.size_drew]); omega); have z2 := later_free u (w.heap.size + 1 + 1) (by (try simp only [World.size_alloc, World.size_setCell, World.size_drew]); omega))
    refine bodyPost_ret (v := Rc.zero.val) (by simp [results, Try.results17, go_sem, c2, z2, Rc.val, Rc.zero]) rfl ⟨by unfold meetR Rc.any; simp [g1], ?_⟩
    repeat' (first | with_reducible assumption | with_reducible exact AnyLater.refl _ | with_reducible apply AnyLater.setCell | with_reducible apply AnyLater.later | with_reducible apply AnyLater.drewN | with_reducible apply AnyLater.drew | with_reducible apply AnyLater.alloc | ((try simp only [World.size_alloc, World.size_setCell, World.size_drew]); (try dsimp only); omega))
  · rcases g2 : anyB x2 y2 a2 b2
    · go_enter Try.func17, Try.ntmps17
      go_wp2_with (go_at_call 7; refine (any_any _ _ _ _ _ _ (by assumption) (by assumption) (by assumption) (by assumption) (by assumption)).mono ?_; rintro e w' ⟨rfl, u, rfl⟩; have hs := later_size u; (try simp only [World.size_alloc, World.size_setCell, World.size_drew] at hs); have c0 := later_row u w.heap.size (by (try simp only [World.size_alloc, World.size_setCell, World.size_drew]); omega); have z0 := later_free u w.heap.size (by (try simp only [World.size_alloc, World.size_setCell, World.size_drew]); omega); have c1 := later_row u (w.heap.size + 1) (by (try simp only [World.size_alloc, World.size_setCell, World.size_drew]); omega); have z1 := later_free u (w.heap.size + 1) (by (try simp only [World.size_alloc, World.size_setCell, World.size_drew]); omega); have c2 := later_row u (w.heap.size + 1 + 1) (by (try simp only [World.size_alloc, World.size_setCell, World.size_drew]); omega); have z2 := later_free u (w.heap.size + 1 + 1) (by (try simp only [World.size_alloc, World.size_setCell, World.size_drew]); omega))
      refine bodyPost_ret (v := Rc.zero.val) (by simp [results, Try.results17, go_sem, *, Rc.val, Rc.zero]) rfl ⟨by unfold meetR Rc.any; simp [g1, g2], ?_⟩
      repeat' (first | with_reducible assumption | with_reducible exact AnyLater.refl _ | with_reducible apply AnyLater.setCell | with_reducible apply AnyLater.later | with_reducible apply AnyLater.drewN | with_reducible apply AnyLater.drew | with_reducible apply AnyLater.alloc | ((try simp only [World.size_alloc, World.size_setCell, World.size_drew]); (try dsimp only); omega))
    · obtain ⟨i1, i2, i3, i4, i5, i6, i7, i8⟩ := anyB_in g1
      obtain ⟨j1, j2, j3, j4, j5, j6, j7, j8⟩ := anyB_in g2
      obtain ⟨cx, e1⟩ : ∃ c, hiZ x x2 = c := ⟨_, rfl⟩
      obtain ⟨cy, e2⟩ : ∃ c, hiZ y y2 = c := ⟨_, rfl⟩
      obtain ⟨lx, e3⟩ : ∃ c, loZ (x + a) (x2 + a2) = c := ⟨_, rfl⟩
      obtain ⟨ly, e4⟩ : ∃ c, loZ (y + b) (y2 + b2) = c := ⟨_, rfl⟩
      have k1 := hiZ_in x x2
      have k2 := hiZ_in y y2
      have k3 := loZ_in (x + a) (x2 + a2)
      have k4 := loZ_in (y + b) (y2 + b2)
      have hm : meetR ⟨x, y, a, b⟩ ⟨x2, y2, a2, b2⟩ = if 0 < lx - cx ∧ 0 < ly - cy then ⟨cx, cy, lx - cx, ly - cy⟩ else Rc.zero := by
        unfold meetR Rc.any crossR; simp only [g1, g2, e1, e2, e3, e4, Bool.and_self, if_true]
      rw [e1] at k1; rw [e2] at k2; rw [e3] at k3; rw [e4] at k4
      have HM := Lib.hid hm
      clear hm
      go_enter Try.func17, Try.ntmps17
      go_wp2_with (go_at_call 7; refine (any_any _ _ _ _ _ _ (by assumption) (by assumption) (by assumption) (by assumption) (by assumption)).mono ?_; rintro e w' ⟨rfl, u, rfl⟩; have hs := later_size u; (try simp only [World.size_alloc, World.size_setCell, World.size_drew] at hs); have c0 := later_row u w.heap.size (by (try simp only [World.size_alloc, World.size_setCell, World.size_drew]); omega); have z0 := later_free u w.heap.size (by (try simp only [World.size_alloc, World.size_setCell, World.size_drew]); omega); have c1 := later_row u (w.heap.size + 1) (by (try simp only [World.size_alloc, World.size_setCell, World.size_drew]); omega); have z1 := later_free u (w.heap.size + 1) (by (try simp only [World.size_alloc, World.size_setCell, World.size_drew]); omega); have c2 := later_row u (w.heap.size + 1 + 1) (by (try simp only [World.size_alloc, World.size_setCell, World.size_drew]); omega); have z2 := later_free u (w.heap.size + 1 + 1) (by (try simp only [World.size_alloc, World.size_setCell, World.size_drew]); omega))
      have qc0 := fun (v : Later (later u)) => later_row v w.heap.size (by (try simp only [World.size_alloc, World.size_setCell, World.size_drew]); omega)
      have qz0 := fun (v : Later (later u)) => later_free v w.heap.size (by (try simp only [World.size_alloc, World.size_setCell, World.size_drew]); omega)
      have qc1 := fun (v : Later (later u)) => later_row v (w.heap.size + 1) (by (try simp only [World.size_alloc, World.size_setCell, World.size_drew]); omega)
      have qz1 := fun (v : Later (later u)) => later_free v (w.heap.size + 1) (by (try simp only [World.size_alloc, World.size_setCell, World.size_drew]); omega)
      have qc2 := fun (v : Later (later u)) => later_row v (w.heap.size + 1 + 1) (by (try simp only [World.size_alloc, World.size_setCell, World.size_drew]); omega)
      have qz2 := fun (v : Later (later u)) => later_free v (w.heap.size + 1 + 1) (by (try simp only [World.size_alloc, World.size_setCell, World.size_drew]); omega)
      refine wp_region_later (later u) (by kernel_rfl) (by kernel_rfl) (by repeat' (first | with_reducible assumption | with_reducible exact AnyLater.refl _ | with_reducible apply AnyLater.setCell | with_reducible apply AnyLater.later | with_reducible apply AnyLater.drewN | with_reducible apply AnyLater.drew | with_reducible apply AnyLater.alloc | ((try simp only [World.size_alloc, World.size_setCell, World.size_drew]); (try dsimp only); omega))) ?_
      repeat (go_big_quiet_step (first | (go_at_call 22; exact in_later_same (high_any _ _ _ _ (by assumption)))))
      refine wpQuiet_nil ?_
      rintro _ ⟨u, rfl⟩
      have hs := later_size u
      (try simp only [World.size_alloc, World.size_setCell, World.size_drew] at hs)
      clear qc0; clear qz0; clear qc1; clear qz1; clear qc2; clear qz2; have c0 := later_row u w.heap.size (by (try simp only [World.size_alloc, World.size_setCell, World.size_drew]); omega)
      have z0 := later_free u w.heap.size (by (try simp only [World.size_alloc, World.size_setCell, World.size_drew]); omega)
      have c1 := later_row u (w.heap.size + 1) (by (try simp only [World.size_alloc, World.size_setCell, World.size_drew]); omega)
      have z1 := later_free u (w.heap.size + 1) (by (try simp only [World.size_alloc, World.size_setCell, World.size_drew]); omega)
      have c2 := later_row u (w.heap.size + 1 + 1) (by (try simp only [World.size_alloc, World.size_setCell, World.size_drew]); omega)
      have z2 := later_free u (w.heap.size + 1 + 1) (by (try simp only [World.size_alloc, World.size_setCell, World.size_drew]); omega)
      go_wp2_with fail
      have qc0 := fun (v : Later (later u)) => later_row v w.heap.size (by (try simp only [World.size_alloc, World.size_setCell, World.size_drew]); omega)
      have qz0 := fun (v : Later (later u)) => later_free v w.heap.size (by (try simp only [World.size_alloc, World.size_setCell, World.size_drew]); omega)
      have qc1 := fun (v : Later (later u)) => later_row v (w.heap.size + 1) (by (try simp only [World.size_alloc, World.size_setCell, World.size_drew]); omega)
      have qz1 := fun (v : Later (later u)) => later_free v (w.heap.size + 1) (by (try simp only [World.size_alloc, World.size_setCell, World.size_drew]); omega)
      have qc2 := fun (v : Later (later u)) => later_row v (w.heap.size + 1 + 1) (by (try simp only [World.size_alloc, World.size_setCell, World.size_drew]); omega)
      have qz2 := fun (v : Later (later u)) => later_free v (w.heap.size + 1 + 1) (by (try simp only [World.size_alloc, World.size_setCell, World.size_drew]); omega)
      refine wp_region_later (later u) (by kernel_rfl) (by kernel_rfl) (by repeat' (first | with_reducible assumption | with_reducible exact AnyLater.refl _ | with_reducible apply AnyLater.setCell | with_reducible apply AnyLater.later | with_reducible apply AnyLater.drewN | with_reducible apply AnyLater.drew | with_reducible apply AnyLater.alloc | ((try simp only [World.size_alloc, World.size_setCell, World.size_drew]); (try dsimp only); omega))) ?_
      repeat (go_big_quiet_step (first | (go_at_call 23; exact in_later_same (low_any _ _ _ _ (by assumption)))))
      refine wpQuiet_nil ?_
      rintro _ ⟨u, rfl⟩
      have hs := later_size u
      (try simp only [World.size_alloc, World.size_setCell, World.size_drew] at hs)
      clear qc0; clear qz0; clear qc1; clear qz1; clear qc2; clear qz2; have c0 := later_row u w.heap.size (by (try simp only [World.size_alloc, World.size_setCell, World.size_drew]); omega)
      have z0 := later_free u w.heap.size (by (try simp only [World.size_alloc, World.size_setCell, World.size_drew]); omega)
      have c1 := later_row u (w.heap.size + 1) (by (try simp only [World.size_alloc, World.size_setCell, World.size_drew]); omega)
      have z1 := later_free u (w.heap.size + 1) (by (try simp only [World.size_alloc, World.size_setCell, World.size_drew]); omega)
      have c2 := later_row u (w.heap.size + 1 + 1) (by (try simp only [World.size_alloc, World.size_setCell, World.size_drew]); omega)
      have z2 := later_free u (w.heap.size + 1 + 1) (by (try simp only [World.size_alloc, World.size_setCell, World.size_drew]); omega)
      by_cases h : lx - cx ≤ 0
      · go_wp2
        refine bodyPost_ret (v := Rc.zero.val) (by simp [results, Try.results17, go_sem, *, Rc.val, Rc.zero]) rfl ⟨by rw [HM.out, if_neg (by omega)], ?_⟩
        repeat' (first | with_reducible assumption | with_reducible exact AnyLater.refl _ | with_reducible apply AnyLater.setCell | with_reducible apply AnyLater.later | with_reducible apply AnyLater.drewN | with_reducible apply AnyLater.drew | with_reducible apply AnyLater.alloc | ((try simp only [World.size_alloc, World.size_setCell, World.size_drew]); (try dsimp only); omega))
      · by_cases h2 : ly - cy ≤ 0
        · go_wp2
          refine bodyPost_ret (v := Rc.zero.val) (by simp [results, Try.results17, go_sem, *, Rc.val, Rc.zero]) rfl ⟨by rw [HM.out, if_neg (by omega)], ?_⟩
          repeat' (first | with_reducible assumption | with_reducible exact AnyLater.refl _ | with_reducible apply AnyLater.setCell | with_reducible apply AnyLater.later | with_reducible apply AnyLater.drewN | with_reducible apply AnyLater.drew | with_reducible apply AnyLater.alloc | ((try simp only [World.size_alloc, World.size_setCell, World.size_drew]); (try dsimp only); omega))
        · go_wp2
          refine bodyPost_ret (v := Rc.val ⟨cx, cy, lx - cx, ly - cy⟩) (by simp [results, Try.results17, go_sem, *, Rc.val, Rc.zero]) rfl ⟨by rw [HM.out, if_pos (by omega)], ?_⟩
          repeat' (first | with_reducible assumption | with_reducible exact AnyLater.refl _ | with_reducible apply AnyLater.setCell | with_reducible apply AnyLater.later | with_reducible apply AnyLater.drewN | with_reducible apply AnyLater.drew | with_reducible apply AnyLater.alloc | ((try simp only [World.size_alloc, World.size_setCell, World.size_drew]); (try dsimp only); omega))

end Go.Proofs.Ytddmhonhajfehaa
