/- frame: the program's Fill, by contract. -/
import Derived.Test.YtfliniknaonieaaFrameU
namespace Go.Proofs.Ytfliniknaonieaa
set_option linter.unusedSimpArgs false
set_option linter.unusedVariables false
set_option linter.unusedSectionVars false
open Go.RowKit

theorem meet_at (r s M : Rt) (w : World) (hr : r.I64) (hs : s.I64) (hM : meetR r s = M) :
    Calls Try.prog 57 #[.agg #[.int .i64 r.x, .int .i64 r.y, .int .i64 r.a, .int .i64 r.b], .agg #[.int .i64 s.x, .int .i64 s.y, .int .i64 s.a, .int .i64 s.b]] w fun e w' => e = .returned (.agg #[.int .i64 M.x, .int .i64 M.y, .int .i64 M.a, .int .i64 M.b]) ∧ AnyLater w w' := by
  subst hM
  exact meet_any r.x r.y r.a r.b s.x s.y s.a s.b w hr.x hr.y hr.a hr.b hs.x hs.y hs.a hs.b
/-- what of a rectangle lies within a frame -/
theorem meet_in (r : Rt) (W H : Nat) (hW : W ≤ 4096) (hH : H ≤ 4096) : ∃ mx my ma mb : Nat, meetR r ⟨0, 0, W, H⟩ = ⟨mx, my, ma, mb⟩ ∧ mx + ma ≤ W ∧ my + mb ≤ H ∧ (∀ x y : Nat, x < W → y < H → (r.has x y = true ↔ mx ≤ x ∧ x < mx + ma ∧ my ≤ y ∧ y < my + mb)) ∧ areaZ mx my ma mb = (ma : Int) * mb ∧ (0 < mb → 0 < ma) := by
  have zero : (∀ x y : Nat, x < W → y < H → ¬ r.has x y = true) → meetR r ⟨0, 0, W, H⟩ = Rt.zero → ∃ mx my ma mb : Nat, meetR r ⟨0, 0, W, H⟩ = ⟨mx, my, ma, mb⟩ ∧ mx + ma ≤ W ∧ my + mb ≤ H ∧ (∀ x y : Nat, x < W → y < H → (r.has x y = true ↔ mx ≤ x ∧ x < mx + ma ∧ my ≤ y ∧ y < my + mb)) ∧ areaZ mx my ma mb = (ma : Int) * mb ∧ (0 < mb → 0 < ma) := fun h1 h2 =>
    ⟨0, 0, 0, 0, h2, by omega, by omega, fun x y hx hy => ⟨fun h => absurd h (h1 x y hx hy), fun h => by omega⟩, by simp [areaZ], by omega⟩
  obtain ⟨x, y, a, b⟩ := r
  rcases g1 : anyB x y a b
  · refine zero (fun p q hp hq h => ?_) (by unfold meetR Rt.any; simp [g1])
    unfold Rt.has at h
    unfold anyB at g1
    simp only [Bool.and_eq_true, decide_eq_true_eq] at h
    rw [h.1] at g1
    simp at g1
    have := h.2
    omega
  · obtain ⟨i1, i2, i3, i4, i5, i6, i7, i8⟩ := anyB_in g1
    have hg : goodB x y a b = true := by unfold anyB at g1; simp at g1; exact g1.1.1
    rcases g2 : anyB 0 0 (W : Int) (H : Int)
    · refine zero (fun p q hp hq h => ?_) (by unfold meetR Rt.any; simp [g2])
      unfold anyB goodB sideB at g2
      simp at g2
      omega
    · obtain ⟨lx, e3⟩ : ∃ c, loZ (x + a) (0 + (W : Int)) = c := ⟨_, rfl⟩
      obtain ⟨ly, e4⟩ : ∃ c, loZ (y + b) (0 + (H : Int)) = c := ⟨_, rfl⟩
      obtain ⟨cx, e1⟩ : ∃ c, hiZ x 0 = c := ⟨_, rfl⟩
      obtain ⟨cy, e2⟩ : ∃ c, hiZ y 0 = c := ⟨_, rfl⟩
      have k1 := hiZ_in x 0
      have k2 := hiZ_in y 0
      have k3 := loZ_in (x + a) (0 + (W : Int))
      have k4 := loZ_in (y + b) (0 + (H : Int))
      have hm : meetR ⟨x, y, a, b⟩ ⟨0, 0, W, H⟩ = if 0 < lx - cx ∧ 0 < ly - cy then ⟨cx, cy, lx - cx, ly - cy⟩ else Rt.zero := by
        unfold meetR Rt.any crossR; simp only [g1, g2, e1, e2, e3, e4, Bool.and_self, if_true]
      rw [e1] at k1; rw [e2] at k2; rw [e3] at k3; rw [e4] at k4
      have hh : ∀ p q : Nat, Rt.has ⟨x, y, a, b⟩ p q = true ↔ (x ≤ (p : Int) ∧ (p : Int) < x + a ∧ y ≤ (q : Int) ∧ (q : Int) < y + b) := fun p q => by
        unfold Rt.has; simp [hg]
      by_cases hb : 0 < lx - cx ∧ 0 < ly - cy
      · rw [if_pos hb] at hm
        refine ⟨cx.toNat, cy.toNat, (lx - cx).toNat, (ly - cy).toNat, ?_, by omega, by omega, fun p q hp hq => ?_, ?_, by omega⟩
        · rw [hm, Int.toNat_of_nonneg (by omega), Int.toNat_of_nonneg (by omega), Int.toNat_of_nonneg (by omega), Int.toNat_of_nonneg (by omega)]
        · rw [hh]
          omega
        · rw [Int.toNat_of_nonneg (by omega), Int.toNat_of_nonneg (by omega), Int.toNat_of_nonneg (by omega), Int.toNat_of_nonneg (by omega)]
          unfold areaZ
          rw [if_pos (by unfold anyB goodB sideB; simp; omega)]
      · rw [if_neg hb] at hm
        refine zero (fun p q hp hq h => ?_) hm
        rw [hh] at h
        omega
section
variable {r : Rt} {W H mx my ma mb : Nat}
theorem cntR_meet (hin : ∀ x y : Nat, x < W → y < H → (r.has x y = true ↔ mx ≤ x ∧ x < mx + ma ∧ my ≤ y ∧ y < my + mb)) {y : Nat} (hy : y < H) : ∀ x, x ≤ W → cntR r y x = if my ≤ y ∧ y < my + mb then ((min (x - mx) ma : Nat) : Int) else 0
  | 0, _ => by simp [cntR]
  | x + 1, hx => by
    have ih := cntR_meet hin hy x (by omega)
    have h := hin x y (by omega) hy
    unfold cntR
    rw [ih]
    by_cases h1 : my ≤ y ∧ y < my + mb
    · rw [if_pos h1, if_pos h1]
      by_cases h2 : mx ≤ x ∧ x < mx + ma
      · rw [if_pos (h.2 ⟨h2.1, h2.2, h1⟩)]
        omega
      · rw [if_neg (fun q => h2 ⟨(h.1 q).1, (h.1 q).2.1⟩)]
        omega
    · rw [if_neg h1, if_neg h1, if_neg (fun q => h1 (h.1 q).2.2)]
      rfl
theorem cntA_meet (hin : ∀ x y : Nat, x < W → y < H → (r.has x y = true ↔ mx ≤ x ∧ x < mx + ma ∧ my ≤ y ∧ y < my + mb)) (hx : mx + ma ≤ W) : ∀ y, y ≤ H → cntA r W y = (ma : Int) * (min (y - my) mb : Nat)
  | 0, _ => by simp [cntA]
  | y + 1, hy => by
    have ih := cntA_meet hin hx y (by omega)
    have h := cntR_meet hin (y := y) (by omega) W (Nat.le_refl _)
    unfold cntA
    rw [ih, h]
    have e : min (W - mx) ma = ma := by omega
    rw [e]
    by_cases h1 : my ≤ y ∧ y < my + mb
    · rw [if_pos h1]
      have e2 : min (y + 1 - my) mb = min (y - my) mb + 1 := by omega
      rw [e2]
      push_cast
      rw [Int.mul_add, Int.mul_one]
    · rw [if_neg h1]
      have e2 : min (y + 1 - my) mb = min (y - my) mb := by omega
      rw [e2, Int.add_zero]
theorem cntA_area (hin : ∀ x y : Nat, x < W → y < H → (r.has x y = true ↔ mx ≤ x ∧ x < mx + ma ∧ my ≤ y ∧ y < my + mb)) (hx : mx + ma ≤ W) (hy : my + mb ≤ H) : cntA r W H = (ma : Int) * mb := by
  rw [cntA_meet hin hx H (Nat.le_refl _)]
  have e : min (H - my) mb = mb := by omega
  rw [e]
end
theorem px_fillP {r : Rt} {c : Int} {rows : Pix} {W y0 x0 i j : Nat} (hw : ∀ (i : Nat) (h : i < rows.length), rows[i].length = W) (hi : i < rows.length) (hj : j < W) : px (fillP r c rows y0 x0) i j = if (i < y0 ∨ (i = y0 ∧ j < x0)) ∧ r.has j i = true then c else px rows i j := by
  have hl : i < (fillP r c rows y0 x0).length := by rw [fillP_len]; exact hi
  have hj2 : j < rows[i].length := by rw [hw i hi]; exact hj
  have hj3 : j < (fillP r c rows y0 x0)[i].length := by rw [fillP_wide _ _ _ _ _ _ hi]; exact hj2
  rw [px_get hl hj3, px_get hi hj2]
  simp only [fillP_row r c rows y0 x0 i hi, List.getElem_mapIdx]
theorem fillP_ok {r : Rt} {c : Int} {rows : Pix} {W y0 x0 : Nat} {n : Int} (hw : ∀ (i : Nat) (h : i < rows.length), rows[i].length = W) : (⟨W, fillP r c rows y0 x0, n⟩ : FM).Ok := ⟨fun i hi => by
  have hi' : i < rows.length := by simpa [fillP_len] using hi
  exact (fillP_wide r c rows y0 x0 i hi').trans (hw i hi')⟩
theorem px_ext {rows rows2 : Pix} {W : Nat} (hl : rows.length = rows2.length) (h1 : ∀ (i : Nat) (h : i < rows.length), rows[i].length = W) (h2 : ∀ (i : Nat) (h : i < rows2.length), rows2[i].length = W) (h : ∀ i j, i < rows.length → j < W → px rows i j = px rows2 i j) : rows = rows2 := by
  apply List.ext_getElem hl
  intro i hi hi2
  apply List.ext_getElem (by rw [h1 i hi, h2 i hi2])
  intro j hj hj2
  have := h i j hi (by rw [← h1 i hi]; exact hj)
  rw [px_get hi hj, px_get hi2 hj2] at this
  exact this
theorem fillP_same {r : Rt} {c : Int} {rows : Pix} {W y0 x0 y1 x1 : Nat} (hw : ∀ (i : Nat) (h : i < rows.length), rows[i].length = W) (h : ∀ i j, i < rows.length → j < W → r.has j i = true → ((i < y0 ∨ (i = y0 ∧ j < x0)) ↔ (i < y1 ∨ (i = y1 ∧ j < x1)))) : fillP r c rows y0 x0 = fillP r c rows y1 x1 := by
  refine px_ext (W := W) (by rw [fillP_len, fillP_len]) (fillP_ok (n := 0) hw).wide (fillP_ok (n := 0) hw).wide (fun i j hi hj => ?_)
  rw [fillP_len] at hi
  rw [px_fillP hw hi hj, px_fillP hw hi hj]
  by_cases hh : r.has j i = true
  · simp only [hh, and_true]
    have := h i j hi hj hh
    by_cases h1 : (i < y0 ∨ (i = y0 ∧ j < x0))
    · rw [if_pos h1, if_pos (this.1 h1)]
    · rw [if_neg h1, if_neg (fun q => h1 (this.2 q))]
  · simp [hh]
/-- a pixel stored -/
theorem FrA.store {w : World} {a : Nat} {m : FM} {S : Nat → Prop} {q cap : Nat} {cells : Array Value} (h : FrA w a m S (some ⟨q, 0, none⟩) cap) (sq : S q) (hq : w.heap[q]? = some (.cells cells 33)) (hp : PixF cells m.w m.rows.length (px m.rows)) {y x : Nat} (hy : y < m.rows.length) (hx : x < m.w) (c : Int) {rows2 : Pix} (hl : rows2.length = m.rows.length) (hw : (⟨m.w, rows2, m.n⟩ : FM).Ok)
    (h2 : ∀ i j, i < m.rows.length → j < m.w → px rows2 i j = if i = y ∧ j = x then c else px m.rows i j) :
    FrA (w.setCell ⟨q, y * m.w + x, none⟩ (.int .u32 c)) a ⟨m.w, rows2, m.n⟩ S (some ⟨q, 0, none⟩) cap := by
  have hne : a ≠ q := by
    rintro rfl
    have := h.top
    rw [hq] at this
    cases this
  have hsz := hp.size
  have hk := (flat_idx hy hx).1
  refine ⟨h.here, ?_, hw, by show m.w * rows2.length ≤ cap; rw [hl]; exact h.room, fun _ => ⟨q, _, rfl, sq, heap_at hq rfl, fun i j hi hj => ?_⟩, fun k hk => by rw [World.size_setCell]; exact h.below k hk⟩
  · show _ = some (Obj.cells #[.int .i64 m.w, .int .i64 (rows2.length : Int), .slice _ (m.w * rows2.length) cap, .int .i64 m.n] 67)
    rw [hl]
    exact heap_far hne h.top
  · have hi' : i < m.rows.length := by rw [← hl]; exact hi
    have hj' : j < m.w := hj
    show (cells.setIfInBounds (y * m.w + x) (.int .u32 c))[i * m.w + j]? = some (.int .u32 (px rows2 i j))
    rw [h2 i j hi' hj']
    by_cases e : i = y ∧ j = x
    · obtain ⟨rfl, rfl⟩ := e
      rw [Array.getElem?_setIfInBounds_self_of_lt (by omega), if_pos ⟨rfl, rfl⟩]
    · rw [Array.getElem?_setIfInBounds_ne (fun q => e ((idx_inj hx hj' q).imp Eq.symm Eq.symm)), if_neg e, hp i j hi' hj']
end Go.Proofs.Ytfliniknaonieaa
