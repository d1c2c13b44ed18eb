/- glyph: plain mathematics of drawing; what the program's Draw is to tell. -/
import Derived.Test.YtfliniknaonieaaGlyC
import Derived.Test.YtfliniknaonieaaFrameV
namespace Go.Proofs.Ytfliniknaonieaa
set_option linter.unusedSimpArgs false
set_option linter.unusedVariables false
set_option linter.unusedSectionVars false
open Go.RowKit

def unitR (ax ay : Int) (i j : Nat) : Rt := ⟨ax + i, ay + j, 1, 1⟩
def dX (g : GM) (ax ay c : Int) (j : Nat) (m : FM) : Nat → FM
  | 0 => m
  | i + 1 => if hasB g i j = true then fillM (unitR ax ay i j) c (dX g ax ay c j m i) else dX g ax ay c j m i
def dY (g : GM) (ax ay c : Int) (m : FM) : Nat → FM
  | 0 => m
  | j + 1 => dX g ax ay c j (dY g ax ay c m j) 32
def nearB (ax ay : Int) : Bool := decide (-1048576 ≤ ax ∧ ax ≤ 1048576 ∧ -1048576 ≤ ay ∧ ay ≤ 1048576)
def drawM (g : GM) (ax ay c : Int) (m : FM) : FM := if (nearB ax ay && goodG g) = true then dY g ax ay c m 40 else m
/-- the same size, and so many more written at most -/
structure Grew (m m' : FM) (k : Int) : Prop where
  w : m'.w = m.w
  h : m'.rows.length = m.rows.length
  ok : m.Ok → m'.Ok
  n0 : m.n ≤ m'.n
  n1 : m'.n ≤ m.n + k
theorem Grew.refl (m : FM) : Grew m m 0 := ⟨rfl, rfl, fun h => h, Int.le_refl _, by omega⟩
theorem Grew.trans {m m1 m2 : FM} {k k1 : Int} (h : Grew m m1 k) (h1 : Grew m1 m2 k1) : Grew m m2 (k + k1) := ⟨h1.w.trans h.w, h1.h.trans h.h, fun q => h1.ok (h.ok q), by have := h.n0; have := h1.n0; omega, by have := h.n1; have := h1.n1; omega⟩
theorem Grew.more {m m' : FM} {k k1 : Int} (h : Grew m m' k) (hk : k ≤ k1) : Grew m m' k1 := ⟨h.w, h.h, h.ok, h.n0, by have := h.n1; omega⟩
theorem fill_grew (r : Rt) (c : Int) (m : FM) (hw : m.w ≤ 4096) (hh : m.rows.length ≤ 4096) : Grew m (fillM r c m) 25000000 := by
  have h := cntA_max (r := r) (w := m.w) (y := m.rows.length) (by omega) (by omega)
  exact ⟨rfl, fillA_len _ _ _, fun q => fillM_ok q, by show m.n ≤ m.n + cntA r m.w m.rows.length; omega, by show m.n + cntA r m.w m.rows.length ≤ _; omega⟩
theorem dX_grew (g : GM) (ax ay c : Int) (j : Nat) (m : FM) (hw : m.w ≤ 4096) (hh : m.rows.length ≤ 4096) : ∀ i : Nat, Grew m (dX g ax ay c j m i) (i * 25000000)
  | 0 => by simpa [dX] using Grew.refl m
  | i + 1 => by
    have ih := dX_grew g ax ay c j m hw hh i
    unfold dX
    split
    · have h2 := fill_grew (unitR ax ay i j) c (dX g ax ay c j m i) (by rw [ih.w]; exact hw) (by rw [ih.h]; exact hh)
      exact (ih.trans h2).more (by push_cast; omega)
    · exact ih.more (by push_cast; omega)
theorem dY_grew (g : GM) (ax ay c : Int) (m : FM) (hw : m.w ≤ 4096) (hh : m.rows.length ≤ 4096) : ∀ j : Nat, Grew m (dY g ax ay c m j) (j * 800000000)
  | 0 => by simpa [dY] using Grew.refl m
  | j + 1 => by
    have ih := dY_grew g ax ay c m hw hh j
    have h2 := dX_grew g ax ay c j (dY g ax ay c m j) (by rw [ih.w]; exact hw) (by rw [ih.h]; exact hh) 32
    unfold dY
    exact (ih.trans h2).more (by push_cast; omega)
theorem cntA_one {X Y W H : Nat} (hx : X < W) (hy : Y < H) (hW : W ≤ 4096) (hH : H ≤ 4096) : cntA ⟨X, Y, 1, 1⟩ W H = 1 := by
  have h := cntA_area (r := ⟨X, Y, 1, 1⟩) (W := W) (H := H) (mx := X) (my := Y) (ma := 1) (mb := 1) (fun x y hx' hy' => by
    unfold Rt.has goodB sideB
    simp
    omega) (by omega) (by omega)
  simpa using h
theorem dX_count (g : GM) (ax ay c : Int) (j : Nat) (m : FM) (hw : m.w ≤ 4096) (hh : m.rows.length ≤ 4096) (hg : goodG g = true) (h0 : 0 ≤ ax) (h1 : 0 ≤ ay) (h2 : ax + g.w ≤ m.w) (h3 : ay + g.h ≤ m.rows.length) : ∀ i : Nat, (dX g ax ay c j m i).n = m.n + cX g j i
  | 0 => by simp [dX, cX]
  | i + 1 => by
    have ih := dX_count g ax ay c j m hw hh hg h0 h1 h2 h3 i
    have gr := dX_grew g ax ay c j m hw hh i
    obtain ⟨g1, g2, g3, g4, g5, g6⟩ := goodG_in hg
    unfold dX cX
    by_cases hb : hasB g i j = true
    · rw [if_pos hb, if_pos hb]
      have hin : (i : Int) < g.w ∧ (j : Int) < g.rows.length := by
        by_cases q : 0 ≤ (i : Int) ∧ (i : Int) < g.w ∧ 0 ≤ (j : Int) ∧ (j : Int) < g.rows.length
        · exact ⟨q.2.1, q.2.2.2⟩
        · rw [hasB_out q] at hb; cases hb
      obtain ⟨X, hX⟩ : ∃ X : Nat, (X : Int) = ax + i := ⟨(ax + i).toNat, by omega⟩
      obtain ⟨Y, hY⟩ : ∃ Y : Nat, (Y : Int) = ay + j := ⟨(ay + j).toNat, by omega⟩
      show (dX g ax ay c j m i).n + cntA (unitR ax ay i j) (dX g ax ay c j m i).w (dX g ax ay c j m i).rows.length = _
      rw [gr.w, gr.h, ih]
      unfold unitR
      rw [← hX, ← hY, cntA_one (by omega) (by omega) hw hh]
      omega
    · rw [if_neg hb, if_neg hb, ih]
      omega
theorem cX_far (g : GM) (j : Nat) : ∀ d : Nat, cX g j (g.w.toNat + d) = cX g j g.w.toNat
  | 0 => rfl
  | d + 1 => by
    show cX g j (g.w.toNat + d) + (if hasB g ((g.w.toNat + d : Nat) : Int) j = true then 1 else 0) = _
    rw [hasB_out (by omega), cX_far g j d]
    simp
theorem cX_none (g : GM) (j : Nat) (hj : g.rows.length ≤ j) : ∀ i : Nat, cX g j i = 0
  | 0 => rfl
  | i + 1 => by
    show cX g j i + (if hasB g (i : Int) j = true then 1 else 0) = 0
    rw [hasB_out (by omega), cX_none g j hj i]
    simp
theorem dY_count (g : GM) (ax ay c : Int) (m : FM) (hw : m.w ≤ 4096) (hh : m.rows.length ≤ 4096) (hg : goodG g = true) (h0 : 0 ≤ ax) (h1 : 0 ≤ ay) (h2 : ax + g.w ≤ m.w) (h3 : ay + g.h ≤ m.rows.length) : ∀ j : Nat, (dY g ax ay c m j).n = m.n + cY g (min j g.rows.length)
  | 0 => by simp [dY, cY]
  | j + 1 => by
    have ih := dY_count g ax ay c m hw hh hg h0 h1 h2 h3 j
    have gr := dY_grew g ax ay c m hw hh j
    obtain ⟨g1, g2, g3, g4, g5, g6⟩ := goodG_in hg
    unfold dY
    rw [dX_count g ax ay c j _ (by rw [gr.w]; exact hw) (by rw [gr.h]; exact hh) hg h0 h1 (by rw [gr.w]; exact h2) (by rw [gr.h]; exact h3) 32, ih]
    have e : cX g j 32 = cX g j g.w.toNat := by
      have := cX_far g j (32 - g.w.toNat)
      rwa [show g.w.toNat + (32 - g.w.toNat) = 32 by omega] at this
    by_cases hj : j < g.rows.length
    · have e1 : min (j + 1) g.rows.length = j + 1 := by omega
      have e2 : min j g.rows.length = j := by omega
      rw [e1, e2, cY, e]
      omega
    · have e1 : min (j + 1) g.rows.length = g.rows.length := by omega
      have e2 : min j g.rows.length = g.rows.length := by omega
      rw [e1, e2, cX_none g j (by omega)]
      omega
theorem draw_count {g : GM} {ax ay c : Int} {m : FM} (hw : m.w ≤ 4096) (hh : m.rows.length ≤ 4096) (hg : goodG g = true) (h0 : 0 ≤ ax) (h1 : 0 ≤ ay) (h2 : ax + g.w ≤ m.w) (h3 : ay + g.h ≤ m.rows.length) : (dY g ax ay c m 40).n = m.n + countG g := by
  obtain ⟨g1, g2, g3, g4, g5, g6⟩ := goodG_in hg
  rw [dY_count g ax ay c m hw hh hg h0 h1 h2 h3 40, countG, if_pos hg]
  have e : min 40 g.rows.length = g.rows.length := by omega
  rw [e]
/-- a glyph's rows lie outside of S -/
def OffG (v : Value) (S : Nat → Prop) : Prop := ∀ x y b o n c, v = .agg #[x, y, .slice (some ⟨b, o, none⟩) n c] → ¬ S b
/-- what the program's Draw is to tell -/
structure DSays (Fr : World → Nat → FM → (Nat → Prop) → Prop) : Prop where
  draw : ∀ {w : World} {a : Nat} {m : FM} {S : Nat → Prop} {g : GM} {v : Value} (ax ay c n : Int), (drawM g ax ay c m).n - m.n = n → Fr w a m S → Small m → IsG g v w → OffG v S → g.Ok → g.rows.length ≤ 40 → I64 ax → I64 ay → U32 c →
    Calls Try.prog 29 #[ptr a, v, .int .i64 ax, .int .i64 ay, .int .u32 c] w fun e w' => e = .returned (.int .i64 n) ∧ Keeps S w w' ∧ ∃ S', Fr w' a (drawM g ax ay c m) S' ∧ Grown w S S'
end Go.Proofs.Ytfliniknaonieaa
