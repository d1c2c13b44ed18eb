/- frame: plain mathematics: frames as rows of pixels, and what is made of them: filled, shifted, a row laid. No condition. -/
namespace Go.Proofs.Ytbgpjfiabefajaa
set_option linter.unusedSimpArgs false
set_option linter.unusedVariables false
set_option linter.unusedSectionVars false

def sideB (x n : Int) : Bool := decide (-1073741824 ≤ x ∧ 0 ≤ n ∧ x ≤ 1073741824 - n)
def goodB (x y a b : Int) : Bool := sideB x a && sideB y b
abbrev I64 (n : Int) : Prop := -9223372036854775808 ≤ n ∧ n ≤ 9223372036854775807
theorem goodB_in {x y a b : Int} (h : goodB x y a b = true) : -1073741824 ≤ x ∧ x ≤ 1073741824 ∧ -1073741824 ≤ y ∧ y ≤ 1073741824 ∧ 0 ≤ a ∧ 0 ≤ b ∧ x + a ≤ 1073741824 ∧ y + b ≤ 1073741824 := by
  unfold goodB sideB at h; simp at h; omega
/-- a rectangle: where it begins, how wide and high -/
structure Rt where
  x : Int
  y : Int
  a : Int
  b : Int
def Rt.has (r : Rt) (p q : Int) : Bool := goodB r.x r.y r.a r.b && decide (r.x ≤ p ∧ p < r.x + r.a ∧ r.y ≤ q ∧ q < r.y + r.b)
structure Rt.I64 (r : Rt) : Prop where
  x : Go.Proofs.Ytbgpjfiabefajaa.I64 r.x
  y : Go.Proofs.Ytbgpjfiabefajaa.I64 r.y
  a : Go.Proofs.Ytbgpjfiabefajaa.I64 r.a
  b : Go.Proofs.Ytbgpjfiabefajaa.I64 r.b

abbrev Pix := List (List Int)
structure FM where
  w : Nat
  rows : Pix
  n : Int
def FM.h (m : FM) : Nat := m.rows.length
structure FM.Ok (m : FM) : Prop where
  wide : ∀ (i : Nat) (h : i < m.rows.length), m.rows[i].length = m.w
/-- all noughts -/
def newM (w h : Nat) : FM := ⟨w, List.replicate h (List.replicate w 0), 0⟩
theorem newM_ok (w h : Nat) : (newM w h).Ok := ⟨fun i hi => by simp [newM]⟩
/-- the pixels ahead of column x0 of row y0 filled -/
def fillP (r : Rt) (c : Int) (rows : Pix) (y0 x0 : Nat) : Pix := rows.mapIdx fun y row => row.mapIdx fun x v => if (y < y0 ∨ (y = y0 ∧ x < x0)) ∧ r.has x y = true then c else v
/-- all filled -/
def fillA (r : Rt) (c : Int) (rows : Pix) : Pix := rows.mapIdx fun y row => row.mapIdx fun x v => if r.has x y = true then c else v
def cntR (r : Rt) (y : Nat) : Nat → Int
  | 0 => 0
  | x + 1 => cntR r y x + if r.has x y = true then 1 else 0
def cntA (r : Rt) (w : Nat) : Nat → Int
  | 0 => 0
  | y + 1 => cntA r w y + cntR r y w
theorem cntR_in (r : Rt) (y : Nat) : ∀ x, 0 ≤ cntR r y x ∧ cntR r y x ≤ (x : Int)
  | 0 => by simp [cntR]
  | x + 1 => by
    have := cntR_in r y x
    unfold cntR
    split <;> omega
theorem cntA_in (r : Rt) (w : Nat) : ∀ y, 0 ≤ cntA r w y ∧ cntA r w y ≤ (y : Int) * w
  | 0 => by simp [cntA]
  | y + 1 => by
    have h1 := cntA_in r w y
    have h2 := cntR_in r y w
    unfold cntA
    rw [show ((y + 1 : Nat) : Int) * (w : Int) = (y : Int) * w + w by rw [Int.natCast_add, Int.add_mul]; simp]
    omega
def fillM (r : Rt) (c : Int) (m : FM) : FM := ⟨m.w, fillA r c m.rows, m.n + cntA r m.w m.rows.length⟩
theorem fillP_len (r : Rt) (c : Int) (rows : Pix) (y0 x0 : Nat) : (fillP r c rows y0 x0).length = rows.length := by unfold fillP; simp
theorem fillP_row (r : Rt) (c : Int) (rows : Pix) (y0 x0 i : Nat) (h : i < rows.length) : (fillP r c rows y0 x0)[i]'(by rw [fillP_len]; exact h) = rows[i].mapIdx fun x v => if (i < y0 ∨ (i = y0 ∧ x < x0)) ∧ r.has x i = true then c else v := by
  unfold fillP; simp
theorem fillP_wide (r : Rt) (c : Int) (rows : Pix) (y0 x0 i : Nat) (h : i < rows.length) : ((fillP r c rows y0 x0)[i]'(by rw [fillP_len]; exact h)).length = rows[i].length := by rw [fillP_row _ _ _ _ _ _ h]; simp
theorem fillP_zero (r : Rt) (c : Int) (rows : Pix) : fillP r c rows 0 0 = rows := by
  apply List.ext_getElem (fillP_len _ _ _ _ _)
  intro i h1 h2
  rw [fillP_row _ _ _ _ _ _ h2]
  apply List.ext_getElem (by simp)
  intro j h3 h4
  simp
theorem fillP_end (r : Rt) (c : Int) (rows : Pix) (w y0 : Nat) (hw : ∀ (i : Nat) (h : i < rows.length), rows[i].length = w) : fillP r c rows y0 w = fillP r c rows (y0 + 1) 0 := by
  apply List.ext_getElem (by rw [fillP_len, fillP_len])
  intro i h1 h2
  rw [fillP_len] at h1
  rw [fillP_row _ _ _ _ _ _ h1, fillP_row _ _ _ _ _ _ h1]
  apply List.ext_getElem (by simp)
  intro j h3 h4
  have hj : j < w := by rw [← hw i h1]; simpa using h3
  simp only [List.getElem_mapIdx]
  have e : (i < y0 ∨ (i = y0 ∧ j < w)) ↔ (i < y0 + 1 ∨ (i = y0 + 1 ∧ j < 0)) := by omega
  simp only [e]
theorem fillA_row (r : Rt) (c : Int) (rows : Pix) (i : Nat) (h : i < rows.length) : (fillA r c rows)[i]'(by simp [fillA, h]) = rows[i].mapIdx fun x v => if r.has x i = true then c else v := by
  unfold fillA; simp
theorem fillP_all (r : Rt) (c : Int) (rows : Pix) : fillP r c rows rows.length 0 = fillA r c rows := by
  apply List.ext_getElem (by rw [fillP_len]; simp [fillA])
  intro i h1 h2
  rw [fillP_len] at h1
  rw [fillP_row _ _ _ _ _ _ h1, fillA_row _ _ _ _ h1]
  apply List.ext_getElem (by simp)
  intro j h3 h4
  simp [h1]
theorem fillP_skip (r : Rt) (c : Int) (rows : Pix) (y0 x0 : Nat) (h : r.has x0 y0 = false) : fillP r c rows y0 (x0 + 1) = fillP r c rows y0 x0 := by
  apply List.ext_getElem (by rw [fillP_len, fillP_len])
  intro i h1 h2
  rw [fillP_len] at h1
  rw [fillP_row _ _ _ _ _ _ h1, fillP_row _ _ _ _ _ _ h1]
  apply List.ext_getElem (by simp)
  intro j h3 h4
  simp only [List.getElem_mapIdx]
  by_cases e : i = y0 ∧ j = x0
  · obtain ⟨rfl, rfl⟩ := e
    simp [h]
  · have e2 : (i < y0 ∨ (i = y0 ∧ j < x0 + 1)) ↔ (i < y0 ∨ (i = y0 ∧ j < x0)) := by omega
    simp only [e2]
theorem fillP_set (r : Rt) (c : Int) (rows : Pix) (y0 x0 : Nat) (hy : y0 < rows.length) (h : r.has x0 y0 = true) :
    fillP r c rows y0 (x0 + 1) = (fillP r c rows y0 x0).set y0 (((fillP r c rows y0 x0)[y0]'(by rw [fillP_len]; exact hy)).set x0 c) := by
  apply List.ext_getElem (by rw [List.length_set, fillP_len, fillP_len])
  intro i h1 h2
  rw [fillP_len] at h1
  rw [fillP_row _ _ _ _ _ _ h1, List.getElem_set]
  split
  · rename_i e
    subst e
    rw [fillP_row _ _ _ _ _ _ h1]
    apply List.ext_getElem (by simp)
    intro j h3 h4
    rw [List.getElem_set]
    simp only [List.getElem_mapIdx]
    by_cases e : x0 = j
    · subst e
      simp [h]
    · rw [if_neg e]
      have e2 : j < x0 + 1 ↔ j < x0 := by omega
      simp [e2]
  · rename_i e
    rw [fillP_row _ _ _ _ _ _ h1]
    apply List.ext_getElem (by simp)
    intro j h3 h4
    simp only [List.getElem_mapIdx]
    have e2 : (i < y0 ∨ (i = y0 ∧ j < x0 + 1)) ↔ (i < y0 ∨ (i = y0 ∧ j < x0)) := by omega
    simp only [e2]
theorem fillA_len (r : Rt) (c : Int) (rows : Pix) : (fillA r c rows).length = rows.length := by simp [fillA]
theorem fillM_ok {r : Rt} {c : Int} {m : FM} (h : m.Ok) : (fillM r c m).Ok := ⟨fun i hi => by
  have hi' : i < m.rows.length := by simpa [fillM, fillA] using hi
  simp only [fillM, fillA, List.getElem_mapIdx, List.length_mapIdx]
  exact h.wide i hi'⟩

/-! ### shifted -/
def fromY (h : Nat) (by_ : Int) (y : Nat) : Nat := if 0 ≤ (y : Int) - by_ ∧ (y : Int) - by_ < (h : Int) then ((y : Int) - by_).toNat else y
theorem fromY_lt {h y : Nat} (by_ : Int) (hy : y < h) : fromY h by_ y < h := by unfold fromY; split <;> omega
def shiftR (by_ : Int) (rows : Pix) : Pix := (List.range rows.length).map fun y => rows.getD (fromY rows.length by_ y) []
def shiftM (by_ : Int) (m : FM) : FM := ⟨m.w, shiftR by_ m.rows, m.n⟩
theorem shiftR_len (by_ : Int) (rows : Pix) : (shiftR by_ rows).length = rows.length := by simp [shiftR]
theorem shiftR_get (by_ : Int) (rows : Pix) (i : Nat) (h : i < rows.length) : (shiftR by_ rows)[i]'(by rw [shiftR_len]; exact h) = rows[fromY rows.length by_ i]'(fromY_lt by_ h) := by
  unfold shiftR
  simp [fromY_lt by_ h]
theorem shiftM_ok {b : Int} {m : FM} (h : m.Ok) : (shiftM b m).Ok := ⟨fun i hi => by
  have hi' : i < m.rows.length := by simpa [shiftM, shiftR] using hi
  exact (congrArg List.length (shiftR_get b m.rows i hi')).trans (h.wide _ _)⟩

/-! ### a row laid -/
def layB (y : Int) (l : List Int) (m : FM) : Bool := decide (0 ≤ y ∧ y < (m.rows.length : Int) ∧ l.length = m.w)
def layM (y : Int) (l : List Int) (m : FM) : FM := if layB y l m = true then ⟨m.w, m.rows.set y.toNat l, m.n + m.w⟩ else m
theorem layM_ok {y : Int} {l : List Int} {m : FM} (h : m.Ok) : (layM y l m).Ok := by
  unfold layM
  split
  · rename_i hb
    refine ⟨fun i hi => ?_⟩
    have hi' : i < m.rows.length := by simpa using hi
    simp only [List.getElem_set]
    unfold layB at hb
    have hb := of_decide_eq_true hb
    split
    · exact hb.2.2
    · exact h.wide i hi'
  · exact h

/-! ### one pixel -/
def atM (x y : Int) (m : FM) : Int := if 0 ≤ x ∧ 0 ≤ y ∧ x < (m.w : Int) ∧ y < (m.rows.length : Int) then (m.rows.getD y.toNat []).getD x.toNat 0 else 0
/-- a row, or none -/
def lineM (y : Int) (m : FM) : List Int := if 0 ≤ y ∧ y < (m.rows.length : Int) then m.rows.getD y.toNat [] else []
end Go.Proofs.Ytbgpjfiabefajaa
