/- frame: the program's rectangles, by contract: good, empty, which pixels, how many, what two share. -/
import Derived.Test.YtfliniknaonieaaFrameB
import Derived.BigGuardPart
namespace Go.Proofs.Ytfliniknaonieaa
set_option linter.unusedSimpArgs false
set_option linter.unusedVariables false
set_option linter.unusedSectionVars false
open Go.RowKit

theorem goodSide_any (x n : Int) (w : World) (c : Bool) (hc : sideB x n = c) (hx : I64 x) (hn : I64 n) :
    Calls Try.prog 65 #[.int .i64 x, .int .i64 n] w fun e w' => e = .returned (.bool c) ∧ w = w' := by
  obtain ⟨x1, x2⟩ := hx
  obtain ⟨n1, n2⟩ := hn
  unfold sideB at hc
  by_cases h1 : -1073741824 ≤ x
  · by_cases h2 : 0 ≤ n
    · by_cases h3 : x ≤ 1073741824 - n
      · have H := Lib.hid hc
        clear hc
        go_enter Try.func65, Try.ntmps65
        go_wp2
        go_ret
        exact ⟨ret_bool (by rw [← H.out]; simp; omega), rfl⟩
      · have H := Lib.hid hc
        clear hc
        go_enter Try.func65, Try.ntmps65
        go_wp2
        go_ret
        exact ⟨ret_bool (by rw [← H.out]; simp; omega), rfl⟩
    · have H := Lib.hid hc
      clear hc
      go_enter Try.func65, Try.ntmps65
      go_wp2
      go_ret
      exact ⟨ret_bool (by rw [← H.out]; simp; omega), rfl⟩
  · have H := Lib.hid hc
    clear hc
    go_enter Try.func65, Try.ntmps65
    go_wp2
    go_ret
    exact ⟨ret_bool (by rw [← H.out]; simp; omega), rfl⟩
theorem good_any (x y a b : Int) (w : World) (c : Bool) (hc : goodB x y a b = c) (hx : I64 x) (hy : I64 y) (ha : I64 a) (hb : I64 b) :
    Calls Try.prog 64 #[.agg #[.int .i64 x, .int .i64 y, .int .i64 a, .int .i64 b]] w fun e w' => e = .returned (.bool c) ∧ AnyLater w w' := by
  have H := Lib.hid hc
  have HL := Lib.hid ((AnyLater.refl w).alloc (.cells #[.int .i64 x, .int .i64 y, .int .i64 a, .int .i64 b] 32))
  clear hc
  by_cases h1 : sideB x a = true
  · rcases h2 : sideB y b
    all_goals
      go_enter Try.func64, Try.ntmps64
      go_wp2_with (go_at_call 65; refine (goodSide_any _ _ _ _ (by assumption) (by assumption) (by assumption)).mono ?_; rintro e w' ⟨rfl, rfl⟩)
      go_outline
      go_ret
      exact ⟨ret_bool (by rw [← H.out]; simp [goodB, h1, h2]), HL.out⟩
  · have h1 : sideB x a = false := by simpa using h1
    go_enter Try.func64, Try.ntmps64
    go_wp2_with (go_at_call 65; refine (goodSide_any _ _ _ _ (by assumption) (by assumption) (by assumption)).mono ?_; rintro e w' ⟨rfl, rfl⟩)
    go_ret
    exact ⟨ret_bool (by rw [← H.out]; simp [goodB, h1]), HL.out⟩
def anyB (x y a b : Int) : Bool := goodB x y a b && decide (0 < a) && decide (0 < b)
theorem anyB_in {x y a b : Int} (h : anyB x y a b = true) : -1073741824 ≤ x ∧ x ≤ 1073741824 ∧ -1073741824 ≤ y ∧ y ≤ 1073741824 ∧ 0 < a ∧ 0 < b ∧ x + a ≤ 1073741824 ∧ y + b ≤ 1073741824 := by
  unfold anyB goodB sideB at h; simp at h; omega
def loZ (p q : Int) : Int := if p < q then p else q
def hiZ (p q : Int) : Int := if q < p then p else q
theorem loZ_in (p q : Int) : loZ p q ≤ p ∧ loZ p q ≤ q ∧ (p ≤ loZ p q ∨ q ≤ loZ p q) := by unfold loZ; split <;> omega
theorem hiZ_in (p q : Int) : p ≤ hiZ p q ∧ q ≤ hiZ p q ∧ (hiZ p q ≤ p ∨ hiZ p q ≤ q) := by unfold hiZ; split <;> omega
theorem between_any (l t r b : Int) (w : World) (h1 : I64 (r - l)) (h2 : I64 (b - t)) (x y p q : Int) (hx : x = l) (hy : y = t) (hp : p = r - l) (hq : q = b - t) :
    Calls Try.prog 63 #[.int .i64 l, .int .i64 t, .int .i64 r, .int .i64 b] w fun e w' => e = .returned (.agg #[.int .i64 x, .int .i64 y, .int .i64 p, .int .i64 q]) ∧ AnyLater w w' := by
  subst hx hy hp hq
  go_enter Try.func63, Try.ntmps63
  go_wp2
  refine bodyPost_ret (v := .agg #[.int .i64 x, .int .i64 y, .int .i64 (r - x), .int .i64 (b - y)]) (by simp [results, Try.results63, go_sem]) rfl ⟨rfl, ?_⟩
  repeat' (first | with_reducible assumption | with_reducible exact AnyLater.refl _ | with_reducible apply AnyLater.setCell | with_reducible apply AnyLater.later | with_reducible apply AnyLater.drewN | with_reducible apply AnyLater.drew | with_reducible apply AnyLater.alloc | ((try simp only [World.size_alloc, World.size_setCell, World.size_drew]); (try dsimp only); omega))
theorem empty_any (x y a b : Int) (w : World) (c : Bool) (hc : (!anyB x y a b) = c) (hx : I64 x) (hy : I64 y) (ha : I64 a) (hb : I64 b) :
    Calls Try.prog 62 #[.agg #[.int .i64 x, .int .i64 y, .int .i64 a, .int .i64 b]] w fun e w' => e = .returned (.bool c) ∧ AnyLater w w' := by
  have HL := Lib.hid ((AnyLater.refl w).alloc (.cells #[.int .i64 x, .int .i64 y, .int .i64 a, .int .i64 b] 32))
  have H := Lib.hid hc
  clear hc
  rcases hg : goodB x y a b
  case' true => have hg2 : 0 ≤ a ∧ 0 ≤ b := by unfold goodB sideB at hg; simp at hg; omega
  all_goals
    go_enter Try.func62, Try.ntmps62
    go_wp2_with (go_at_call 64; refine (good_any _ _ _ _ _ _ (by assumption) (by assumption) (by assumption) (by assumption) (by assumption)).mono ?_; rintro e w' ⟨rfl, u, rfl⟩; have hs := later_size u; (try simp only [World.size_alloc, World.size_setCell, World.size_drew] at hs); have c0 := later_row u w.heap.size (by (try simp only [World.size_alloc, World.size_setCell, World.size_drew]); omega); have z0 := later_free u w.heap.size (by (try simp only [World.size_alloc, World.size_setCell, World.size_drew]); omega))
    all_goals
      go_ret
      exact ⟨ret_bool (by rw [← H.out]; unfold anyB; first | (simp [hg]; done) | (simp [hg]; omega) | (rw [Bool.eq_iff_iff]; simp [hg]; omega)), HL.out.later u⟩
theorem has_any (x y a b p q : Int) (w : World) (c : Bool) (hc : Rt.has ⟨x, y, a, b⟩ p q = c) (hx : I64 x) (hy : I64 y) (ha : I64 a) (hb : I64 b) (hp : I64 p) (hq : I64 q) :
    Calls Try.prog 60 #[.agg #[.int .i64 x, .int .i64 y, .int .i64 a, .int .i64 b], .int .i64 p, .int .i64 q] w fun e w' => e = .returned (.bool c) ∧ AnyLater w w' := by
  have HL := Lib.hid ((AnyLater.refl w).alloc (.cells #[.int .i64 x, .int .i64 y, .int .i64 a, .int .i64 b] 32))
  have H := Lib.hid hc
  clear hc
  rcases hg : goodB x y a b
  case' true => obtain ⟨g1, g2, g3, g4, g5, g6, g7, g8⟩ := goodB_in hg
  all_goals
    go_enter Try.func60, Try.ntmps60
    go_wp2_with (go_at_call 64; refine (good_any _ _ _ _ _ _ (by assumption) (by assumption) (by assumption) (by assumption) (by assumption)).mono ?_; rintro e w' ⟨rfl, u, rfl⟩; have hs := later_size u; (try simp only [World.size_alloc, World.size_setCell, World.size_drew] at hs); have c0 := later_row u w.heap.size (by (try simp only [World.size_alloc, World.size_setCell, World.size_drew]); omega); have z0 := later_free u w.heap.size (by (try simp only [World.size_alloc, World.size_setCell, World.size_drew]); omega))
    all_goals
      go_ret
      exact ⟨ret_bool (by rw [← H.out]; unfold Rt.has; first | (simp [hg]; done) | (simp [hg]; omega) | (rw [Bool.eq_iff_iff]; simp [hg]; omega)), HL.out.later u⟩
def areaZ (x y a b : Int) : Int := if anyB x y a b = true then a * b else 0
theorem area_any (x y a b : Int) (w : World) (n : Int) (hn : areaZ x y a b = n) (hx : I64 x) (hy : I64 y) (ha : I64 a) (hb : I64 b) :
    Calls Try.prog 59 #[.agg #[.int .i64 x, .int .i64 y, .int .i64 a, .int .i64 b]] w fun e w' => e = .returned (.int .i64 n) ∧ AnyLater w w' := by
  have HL := Lib.hid ((AnyLater.refl w).alloc (.cells #[.int .i64 x, .int .i64 y, .int .i64 a, .int .i64 b] 32))
  subst hn
  rcases hg : anyB x y a b
  · have he : (!anyB x y a b) = true := by rw [hg]; rfl
    go_enter Try.func59, Try.ntmps59
    go_wp2_with (go_at_call 62; refine (empty_any _ _ _ _ _ _ (by assumption) (by assumption) (by assumption) (by assumption) (by assumption)).mono ?_; rintro e w' ⟨rfl, u, rfl⟩; have hs := later_size u; (try simp only [World.size_alloc, World.size_setCell, World.size_drew] at hs); have c0 := later_row u w.heap.size (by (try simp only [World.size_alloc, World.size_setCell, World.size_drew]); omega); have z0 := later_free u w.heap.size (by (try simp only [World.size_alloc, World.size_setCell, World.size_drew]); omega))
    go_ret
    exact ⟨ret_int (by unfold areaZ; rw [hg]; rfl), HL.out.later u⟩
  · have he : (!anyB x y a b) = false := by rw [hg]; rfl
    have hg2 : goodB x y a b = true := by unfold anyB at hg; simp at hg; exact hg.1.1
    obtain ⟨g1, g2, g3, g4, g5, g6, g7, g8⟩ := goodB_in hg2
    have m1 : 0 ≤ a * b := Int.mul_nonneg g5 g6
    have m2 : a * b ≤ 2147483648 * 2147483648 := Int.mul_le_mul (by omega) (by omega) g6 (by omega)
    go_enter Try.func59, Try.ntmps59
    go_wp2_with (go_at_call 62; refine (empty_any _ _ _ _ _ _ (by assumption) (by assumption) (by assumption) (by assumption) (by assumption)).mono ?_; rintro e w' ⟨rfl, u, rfl⟩; have hs := later_size u; (try simp only [World.size_alloc, World.size_setCell, World.size_drew] at hs); have c0 := later_row u w.heap.size (by (try simp only [World.size_alloc, World.size_setCell, World.size_drew]); omega); have z0 := later_free u w.heap.size (by (try simp only [World.size_alloc, World.size_setCell, World.size_drew]); omega))
    go_ret
    exact ⟨ret_int (by unfold areaZ; rw [hg]; rfl), HL.out.later u⟩
theorem run_maxZ {P : Program} (w : World) (ts : Array TypeId) (t : TypeId) (p q : Int) : (Builtin.max_ ts t #[.int .i64 p, .int .i64 q]).run P w = .ok (.int .i64 (hiZ p q)) w := by
  rw [run_max_int2]; unfold hiZ; split <;> split <;> first | rfl | omega | (congr 2; omega)
theorem run_minZ {P : Program} (w : World) (ts : Array TypeId) (t : TypeId) (p q : Int) : (Builtin.min_ ts t #[.int .i64 p, .int .i64 q]).run P w = .ok (.int .i64 (loZ p q)) w := by
  rw [run_min_int2]; unfold loZ; split <;> split <;> first | rfl | omega | (congr 2; omega)
def Rt.val (r : Rt) : Value := .agg #[.int .i64 r.x, .int .i64 r.y, .int .i64 r.a, .int .i64 r.b]
def Rt.zero : Rt := ⟨0, 0, 0, 0⟩
def Rt.any (r : Rt) : Bool := anyB r.x r.y r.a r.b
def crossR (r s : Rt) : Rt := ⟨hiZ r.x s.x, hiZ r.y s.y, loZ (r.x + r.a) (s.x + s.a) - hiZ r.x s.x, loZ (r.y + r.b) (s.y + s.b) - hiZ r.y s.y⟩
def meetR (r s : Rt) : Rt := if (r.any && s.any) = true then (if 0 < (crossR r s).a ∧ 0 < (crossR r s).b then crossR r s else Rt.zero) else Rt.zero
set_option maxHeartbeats 4000000 in
theorem meet_any (x y a b x2 y2 a2 b2 : Int) (w : World) (hx : I64 x) (hy : I64 y) (ha : I64 a) (hb : I64 b) (hx2 : I64 x2) (hy2 : I64 y2) (ha2 : I64 a2) (hb2 : I64 b2) :
    Calls Try.prog 57 #[.agg #[.int .i64 x, .int .i64 y, .int .i64 a, .int .i64 b], .agg #[.int .i64 x2, .int .i64 y2, .int .i64 a2, .int .i64 b2]] w fun e w' => e = .returned (meetR ⟨x, y, a, b⟩ ⟨x2, y2, a2, b2⟩).val ∧ AnyLater w w' := by
  rcases g1 : anyB x y a b
  · have e1 : (!anyB x y a b) = true := by rw [g1]; rfl
    go_enter Try.func57, Try.ntmps57
    go_wp2_with (go_at_call 62; refine (empty_any _ _ _ _ _ _ (by assumption) (by assumption) (by assumption) (by assumption) (by assumption)).mono ?_; rintro e w' ⟨rfl, u, rfl⟩; have hs := later_size u; (try simp only [World.size_alloc, World.size_setCell, World.size_drew] at hs); have c0 := later_row u w.heap.size (by (try simp only [World.size_alloc, World.size_setCell, World.size_drew]); omega); have z0 := later_free u w.heap.size (by (try simp only [World.size_alloc, World.size_setCell, World.size_drew]); omega); have c1 := later_row u (w.heap.size + 1) (by (try simp only [World.size_alloc, World.size_setCell, World.size_drew]); omega); have z1 := later_free u (w.heap.size + 1) (by (try simp only [World.size_alloc, World.size_setCell, World.size_drew]); omega); have c2 := later_row u (w.heap.size + 1 + 1) (by (try simp only [World.size_alloc, World.size_setCell, World.size_drew]); omega); have z2 := later_free u (w.heap.size + 1 + 1) (by (try simp only [World.size_alloc, World.size_setCell, World.size_drew]); omega))
    refine bodyPost_ret (v := Rt.zero.val) (by simp [results, Try.results57, go_sem, *, Rt.val, Rt.zero]) rfl ⟨by unfold meetR Rt.any; simp [g1], ?_⟩
    repeat' (first | with_reducible assumption | with_reducible exact AnyLater.refl _ | with_reducible apply AnyLater.setCell | with_reducible apply AnyLater.later | with_reducible apply AnyLater.drewN | with_reducible apply AnyLater.drew | with_reducible apply AnyLater.alloc | ((try simp only [World.size_alloc, World.size_setCell, World.size_drew]); (try dsimp only); omega))
  · have e1 : (!anyB x y a b) = false := by rw [g1]; rfl
    rcases g2 : anyB x2 y2 a2 b2
    · have e2 : (!anyB x2 y2 a2 b2) = true := by rw [g2]; rfl
      go_enter Try.func57, Try.ntmps57
      go_wp2_with (go_at_call 62; refine (empty_any _ _ _ _ _ _ (by assumption) (by assumption) (by assumption) (by assumption) (by assumption)).mono ?_; rintro e w' ⟨rfl, u, rfl⟩; have hs := later_size u; (try simp only [World.size_alloc, World.size_setCell, World.size_drew] at hs); have c0 := later_row u w.heap.size (by (try simp only [World.size_alloc, World.size_setCell, World.size_drew]); omega); have z0 := later_free u w.heap.size (by (try simp only [World.size_alloc, World.size_setCell, World.size_drew]); omega); have c1 := later_row u (w.heap.size + 1) (by (try simp only [World.size_alloc, World.size_setCell, World.size_drew]); omega); have z1 := later_free u (w.heap.size + 1) (by (try simp only [World.size_alloc, World.size_setCell, World.size_drew]); omega); have c2 := later_row u (w.heap.size + 1 + 1) (by (try simp only [World.size_alloc, World.size_setCell, World.size_drew]); omega); have z2 := later_free u (w.heap.size + 1 + 1) (by (try simp only [World.size_alloc, World.size_setCell, World.size_drew]); omega))
      refine bodyPost_ret (v := Rt.zero.val) (by simp [results, Try.results57, go_sem, *, Rt.val, Rt.zero]) rfl ⟨by unfold meetR Rt.any; simp [g1, g2], ?_⟩
      repeat' (first | with_reducible assumption | with_reducible exact AnyLater.refl _ | with_reducible apply AnyLater.setCell | with_reducible apply AnyLater.later | with_reducible apply AnyLater.drewN | with_reducible apply AnyLater.drew | with_reducible apply AnyLater.alloc | ((try simp only [World.size_alloc, World.size_setCell, World.size_drew]); (try dsimp only); omega))
    · have e2 : (!anyB x2 y2 a2 b2) = false := by rw [g2]; rfl
      obtain ⟨i1, i2, i3, i4, i5, i6, i7, i8⟩ := anyB_in g1
      obtain ⟨j1, j2, j3, j4, j5, j6, j7, j8⟩ := anyB_in g2
      obtain ⟨cx, e1⟩ : ∃ c, hiZ x x2 = c := ⟨_, rfl⟩
      obtain ⟨cy, e2⟩ : ∃ c, hiZ y y2 = c := ⟨_, rfl⟩
      obtain ⟨lx, e3⟩ : ∃ c, loZ (x + a) (x2 + a2) = c := ⟨_, rfl⟩
      obtain ⟨ly, e4⟩ : ∃ c, loZ (y + b) (y2 + b2) = c := ⟨_, rfl⟩
      have k1 := hiZ_in x x2
      have k2 := hiZ_in y y2
      have k3 := loZ_in (x + a) (x2 + a2)
      have k4 := loZ_in (y + b) (y2 + b2)
      have hm : meetR ⟨x, y, a, b⟩ ⟨x2, y2, a2, b2⟩ = if 0 < lx - cx ∧ 0 < ly - cy then ⟨cx, cy, lx - cx, ly - cy⟩ else Rt.zero := by
        unfold meetR Rt.any crossR; simp only [g1, g2, e1, e2, e3, e4, Bool.and_self, if_true]
      rw [e1] at k1; rw [e2] at k2; rw [e3] at k3; rw [e4] at k4
      have HM := Lib.hid hm
      clear hm
      have hE : 0 < lx - cx ∧ 0 < ly - cy → (!anyB cx cy (lx - cx) (ly - cy)) = false := by
        intro h; unfold anyB goodB sideB; simp; omega
      have hF : ¬ (0 < lx - cx ∧ 0 < ly - cy) → (!anyB cx cy (lx - cx) (ly - cy)) = true := by
        intro h; unfold anyB goodB sideB; simp; omega
      by_cases h : 0 < lx - cx ∧ 0 < ly - cy
      · have hE := hE h
        clear hF
        have hmx := run_maxZ (P := Try.prog)
        have hmn := run_minZ (P := Try.prog)
        go_enter Try.func57, Try.ntmps57
        go_wp2_with fail
        refine (empty_any _ _ _ _ _ _ (by assumption) (by omega) (by omega) (by omega) (by omega)).mono ?_
        rintro e w' ⟨rfl, u1, rfl⟩
        have h_u1 := later_size u1
        (try simp only [World.size_alloc, World.size_setCell, World.size_drew] at h_u1)
        have c0_u1 := later_row u1 (w.heap.size) (by (try simp only [World.size_alloc, World.size_setCell, World.size_drew]); omega)
        have z0_u1 := later_free u1 (w.heap.size) (by (try simp only [World.size_alloc, World.size_setCell, World.size_drew]); omega)
        have l0_u1 : w.heap.size < (later u1).heap.size := by omega
        have c1_u1 := later_row u1 (w.heap.size + 1) (by (try simp only [World.size_alloc, World.size_setCell, World.size_drew]); omega)
        have z1_u1 := later_free u1 (w.heap.size + 1) (by (try simp only [World.size_alloc, World.size_setCell, World.size_drew]); omega)
        have l1_u1 : w.heap.size + 1 < (later u1).heap.size := by omega
        have c2_u1 := later_row u1 (w.heap.size + 1 + 1) (by (try simp only [World.size_alloc, World.size_setCell, World.size_drew]); omega)
        have z2_u1 := later_free u1 (w.heap.size + 1 + 1) (by (try simp only [World.size_alloc, World.size_setCell, World.size_drew]); omega)
        have l2_u1 : w.heap.size + 1 + 1 < (later u1).heap.size := by omega
        go_wp2_with fail
        refine (empty_any _ _ _ _ _ _ (by assumption) (by omega) (by omega) (by omega) (by omega)).mono ?_
        rintro e w' ⟨rfl, u2, rfl⟩
        have h_u2 := later_size u2
        (try simp only [World.size_alloc, World.size_setCell, World.size_drew] at h_u2)
        have c0_u2 := later_row u2 (w.heap.size) (by (try simp only [World.size_alloc, World.size_setCell, World.size_drew]); omega)
        have z0_u2 := later_free u2 (w.heap.size) (by (try simp only [World.size_alloc, World.size_setCell, World.size_drew]); omega)
        have l0_u2 : w.heap.size < (later u2).heap.size := by omega
        have c1_u2 := later_row u2 (w.heap.size + 1) (by (try simp only [World.size_alloc, World.size_setCell, World.size_drew]); omega)
        have z1_u2 := later_free u2 (w.heap.size + 1) (by (try simp only [World.size_alloc, World.size_setCell, World.size_drew]); omega)
        have l1_u2 : w.heap.size + 1 < (later u2).heap.size := by omega
        have c2_u2 := later_row u2 (w.heap.size + 1 + 1) (by (try simp only [World.size_alloc, World.size_setCell, World.size_drew]); omega)
        have z2_u2 := later_free u2 (w.heap.size + 1 + 1) (by (try simp only [World.size_alloc, World.size_setCell, World.size_drew]); omega)
        have l2_u2 : w.heap.size + 1 + 1 < (later u2).heap.size := by omega
        go_wp2_with fail
        refine (between_any _ _ _ _ _ (by omega) (by omega) cx cy (lx - cx) (ly - cy) (by omega) (by omega) (by omega) (by omega)).mono ?_
        rintro e w' ⟨rfl, u3, rfl⟩
        have h_u3 := later_size u3
        (try simp only [World.size_alloc, World.size_setCell, World.size_drew] at h_u3)
        have c0_u3 := later_row u3 (w.heap.size) (by (try simp only [World.size_alloc, World.size_setCell, World.size_drew]); omega)
        have z0_u3 := later_free u3 (w.heap.size) (by (try simp only [World.size_alloc, World.size_setCell, World.size_drew]); omega)
        have l0_u3 : w.heap.size < (later u3).heap.size := by omega
        have c1_u3 := later_row u3 (w.heap.size + 1) (by (try simp only [World.size_alloc, World.size_setCell, World.size_drew]); omega)
        have z1_u3 := later_free u3 (w.heap.size + 1) (by (try simp only [World.size_alloc, World.size_setCell, World.size_drew]); omega)
        have l1_u3 : w.heap.size + 1 < (later u3).heap.size := by omega
        have c2_u3 := later_row u3 (w.heap.size + 1 + 1) (by (try simp only [World.size_alloc, World.size_setCell, World.size_drew]); omega)
        have z2_u3 := later_free u3 (w.heap.size + 1 + 1) (by (try simp only [World.size_alloc, World.size_setCell, World.size_drew]); omega)
        have l2_u3 : w.heap.size + 1 + 1 < (later u3).heap.size := by omega
        go_wp2_with fail
        refine (empty_any _ _ _ _ _ _ (by assumption) (by omega) (by omega) (by omega) (by omega)).mono ?_
        rintro e w' ⟨rfl, u4, rfl⟩
        have h_u4 := later_size u4
        (try simp only [World.size_alloc, World.size_setCell, World.size_drew] at h_u4)
        have c0_u4 := later_row u4 (w.heap.size) (by (try simp only [World.size_alloc, World.size_setCell, World.size_drew]); omega)
        have z0_u4 := later_free u4 (w.heap.size) (by (try simp only [World.size_alloc, World.size_setCell, World.size_drew]); omega)
        have l0_u4 : w.heap.size < (later u4).heap.size := by omega
        have c1_u4 := later_row u4 (w.heap.size + 1) (by (try simp only [World.size_alloc, World.size_setCell, World.size_drew]); omega)
        have z1_u4 := later_free u4 (w.heap.size + 1) (by (try simp only [World.size_alloc, World.size_setCell, World.size_drew]); omega)
        have l1_u4 : w.heap.size + 1 < (later u4).heap.size := by omega
        have c2_u4 := later_row u4 (w.heap.size + 1 + 1) (by (try simp only [World.size_alloc, World.size_setCell, World.size_drew]); omega)
        have z2_u4 := later_free u4 (w.heap.size + 1 + 1) (by (try simp only [World.size_alloc, World.size_setCell, World.size_drew]); omega)
        have l2_u4 : w.heap.size + 1 + 1 < (later u4).heap.size := by omega
        have c3_u4 := later_row u4 ((later u3).heap.size) (by (try simp only [World.size_alloc, World.size_setCell, World.size_drew]); omega)
        have z3_u4 := later_free u4 ((later u3).heap.size) (by (try simp only [World.size_alloc, World.size_setCell, World.size_drew]); omega)
        have l3_u4 : (later u3).heap.size < (later u4).heap.size := by omega
        go_wp2
        refine bodyPost_ret (v := Rt.val ⟨cx, cy, lx - cx, ly - cy⟩) (by simp [results, Try.results57, go_sem, *, Rt.val, Rt.zero]) rfl ⟨by rw [HM.out, if_pos h], ?_⟩
        repeat' (first | with_reducible assumption | with_reducible exact AnyLater.refl _ | with_reducible apply AnyLater.setCell | with_reducible apply AnyLater.later | with_reducible apply AnyLater.drewN | with_reducible apply AnyLater.drew | with_reducible apply AnyLater.alloc | ((try simp only [World.size_alloc, World.size_setCell, World.size_drew]); (try dsimp only); omega))
      · have hF := hF h
        clear hE
        have hmx := run_maxZ (P := Try.prog)
        have hmn := run_minZ (P := Try.prog)
        go_enter Try.func57, Try.ntmps57
        go_wp2_with fail
        refine (empty_any _ _ _ _ _ _ (by assumption) (by omega) (by omega) (by omega) (by omega)).mono ?_
        rintro e w' ⟨rfl, u1, rfl⟩
        have h_u1 := later_size u1
        (try simp only [World.size_alloc, World.size_setCell, World.size_drew] at h_u1)
        have c0_u1 := later_row u1 (w.heap.size) (by (try simp only [World.size_alloc, World.size_setCell, World.size_drew]); omega)
        have z0_u1 := later_free u1 (w.heap.size) (by (try simp only [World.size_alloc, World.size_setCell, World.size_drew]); omega)
        have l0_u1 : w.heap.size < (later u1).heap.size := by omega
        have c1_u1 := later_row u1 (w.heap.size + 1) (by (try simp only [World.size_alloc, World.size_setCell, World.size_drew]); omega)
        have z1_u1 := later_free u1 (w.heap.size + 1) (by (try simp only [World.size_alloc, World.size_setCell, World.size_drew]); omega)
        have l1_u1 : w.heap.size + 1 < (later u1).heap.size := by omega
        have c2_u1 := later_row u1 (w.heap.size + 1 + 1) (by (try simp only [World.size_alloc, World.size_setCell, World.size_drew]); omega)
        have z2_u1 := later_free u1 (w.heap.size + 1 + 1) (by (try simp only [World.size_alloc, World.size_setCell, World.size_drew]); omega)
        have l2_u1 : w.heap.size + 1 + 1 < (later u1).heap.size := by omega
        go_wp2_with fail
        refine (empty_any _ _ _ _ _ _ (by assumption) (by omega) (by omega) (by omega) (by omega)).mono ?_
        rintro e w' ⟨rfl, u2, rfl⟩
        have h_u2 := later_size u2
        (try simp only [World.size_alloc, World.size_setCell, World.size_drew] at h_u2)
        have c0_u2 := later_row u2 (w.heap.size) (by (try simp only [World.size_alloc, World.size_setCell, World.size_drew]); omega)
        have z0_u2 := later_free u2 (w.heap.size) (by (try simp only [World.size_alloc, World.size_setCell, World.size_drew]); omega)
        have l0_u2 : w.heap.size < (later u2).heap.size := by omega
        have c1_u2 := later_row u2 (w.heap.size + 1) (by (try simp only [World.size_alloc, World.size_setCell, World.size_drew]); omega)
        have z1_u2 := later_free u2 (w.heap.size + 1) (by (try simp only [World.size_alloc, World.size_setCell, World.size_drew]); omega)
        have l1_u2 : w.heap.size + 1 < (later u2).heap.size := by omega
        have c2_u2 := later_row u2 (w.heap.size + 1 + 1) (by (try simp only [World.size_alloc, World.size_setCell, World.size_drew]); omega)
        have z2_u2 := later_free u2 (w.heap.size + 1 + 1) (by (try simp only [World.size_alloc, World.size_setCell, World.size_drew]); omega)
        have l2_u2 : w.heap.size + 1 + 1 < (later u2).heap.size := by omega
        go_wp2_with fail
        refine (between_any _ _ _ _ _ (by omega) (by omega) cx cy (lx - cx) (ly - cy) (by omega) (by omega) (by omega) (by omega)).mono ?_
        rintro e w' ⟨rfl, u3, rfl⟩
        have h_u3 := later_size u3
        (try simp only [World.size_alloc, World.size_setCell, World.size_drew] at h_u3)
        have c0_u3 := later_row u3 (w.heap.size) (by (try simp only [World.size_alloc, World.size_setCell, World.size_drew]); omega)
        have z0_u3 := later_free u3 (w.heap.size) (by (try simp only [World.size_alloc, World.size_setCell, World.size_drew]); omega)
        have l0_u3 : w.heap.size < (later u3).heap.size := by omega
        have c1_u3 := later_row u3 (w.heap.size + 1) (by (try simp only [World.size_alloc, World.size_setCell, World.size_drew]); omega)
        have z1_u3 := later_free u3 (w.heap.size + 1) (by (try simp only [World.size_alloc, World.size_setCell, World.size_drew]); omega)
        have l1_u3 : w.heap.size + 1 < (later u3).heap.size := by omega
        have c2_u3 := later_row u3 (w.heap.size + 1 + 1) (by (try simp only [World.size_alloc, World.size_setCell, World.size_drew]); omega)
        have z2_u3 := later_free u3 (w.heap.size + 1 + 1) (by (try simp only [World.size_alloc, World.size_setCell, World.size_drew]); omega)
        have l2_u3 : w.heap.size + 1 + 1 < (later u3).heap.size := by omega
        go_wp2_with fail
        refine (empty_any _ _ _ _ _ _ (by assumption) (by omega) (by omega) (by omega) (by omega)).mono ?_
        rintro e w' ⟨rfl, u4, rfl⟩
        have h_u4 := later_size u4
        (try simp only [World.size_alloc, World.size_setCell, World.size_drew] at h_u4)
        have c0_u4 := later_row u4 (w.heap.size) (by (try simp only [World.size_alloc, World.size_setCell, World.size_drew]); omega)
        have z0_u4 := later_free u4 (w.heap.size) (by (try simp only [World.size_alloc, World.size_setCell, World.size_drew]); omega)
        have l0_u4 : w.heap.size < (later u4).heap.size := by omega
        have c1_u4 := later_row u4 (w.heap.size + 1) (by (try simp only [World.size_alloc, World.size_setCell, World.size_drew]); omega)
        have z1_u4 := later_free u4 (w.heap.size + 1) (by (try simp only [World.size_alloc, World.size_setCell, World.size_drew]); omega)
        have l1_u4 : w.heap.size + 1 < (later u4).heap.size := by omega
        have c2_u4 := later_row u4 (w.heap.size + 1 + 1) (by (try simp only [World.size_alloc, World.size_setCell, World.size_drew]); omega)
        have z2_u4 := later_free u4 (w.heap.size + 1 + 1) (by (try simp only [World.size_alloc, World.size_setCell, World.size_drew]); omega)
        have l2_u4 : w.heap.size + 1 + 1 < (later u4).heap.size := by omega
        have c3_u4 := later_row u4 ((later u3).heap.size) (by (try simp only [World.size_alloc, World.size_setCell, World.size_drew]); omega)
        have z3_u4 := later_free u4 ((later u3).heap.size) (by (try simp only [World.size_alloc, World.size_setCell, World.size_drew]); omega)
        have l3_u4 : (later u3).heap.size < (later u4).heap.size := by omega
        go_wp2
        refine bodyPost_ret (v := Rt.zero.val) (by simp [results, Try.results57, go_sem, *, Rt.val, Rt.zero]) rfl ⟨by rw [HM.out, if_neg h], ?_⟩
        repeat' (first | with_reducible assumption | with_reducible exact AnyLater.refl _ | with_reducible apply AnyLater.setCell | with_reducible apply AnyLater.later | with_reducible apply AnyLater.drewN | with_reducible apply AnyLater.drew | with_reducible apply AnyLater.alloc | ((try simp only [World.size_alloc, World.size_setCell, World.size_drew]); (try dsimp only); omega))
end Go.Proofs.Ytfliniknaonieaa
