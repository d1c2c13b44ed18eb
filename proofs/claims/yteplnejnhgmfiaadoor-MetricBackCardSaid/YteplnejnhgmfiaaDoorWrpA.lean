/- wrap: rows of a line, as mathematics; how a row lies in memory. No code. -/
import Derived.Test.YteplnejnhgmfiaaDoorCelB
namespace Go.Proofs.YteplnejnhgmfiaaDoor
set_option linter.unusedSimpArgs false
set_option linter.unusedVariables false
set_option linter.unusedSectionVars false
open Go.RowKit

/-- a row: From, To, W -/
abbrev Rw := Int × Int × Int
abbrev Rws := List Rw
def rowF : Flat Rw where
  fl c := [.int .i64 c.1, .int .i64 c.2.1, .int .i64 c.2.2]
  k := 3
  pos := by decide
  len _ := rfl
  one a u hu := by
    simp only [List.mem_cons, List.not_mem_nil, or_false] at hu
    rcases hu with rfl | rfl | rfl <;> rfl
set_option maxRecDepth 100000 in
theorem rowFT : FlatT rowF 59 56 (.agg #[.int .i64 0, .int .i64 0, .int .i64 0]) 24 where
  und := Tryd.underlying56
  el := by kernel_rfl
  info := by kernel_rfl
  size := fun w => by simp [go_sem, rowF]
  zero := rfl
  few := by decide
/-- the numbers of a row are numbers -/
def RwOk (r : Rw) : Prop := I64s r.1 ∧ I64s r.2.1 ∧ I64s r.2.2
def RwsOk (l : Rws) : Prop := ∀ r ∈ l, RwOk r
/-- one row of a slice of rows, as the walk reads it -/
theorem rowAt {w : World} {A : Option Addr} {n cap : Nat} {l : Rws} (h : FR rowF w (.slice A n cap) l) (j : Nat) (hj : j < l.length) : ∃ b off, A = some ⟨b, off, none⟩ ∧ b < w.heap.size ∧
    w.cell? ⟨b, off + j * 3, none⟩ = some (.int .i64 l[j].1) ∧ w.cell? ⟨b, off + j * 3 + 1, none⟩ = some (.int .i64 l[j].2.1) ∧ w.cell? ⟨b, off + j * 3 + 2, none⟩ = some (.int .i64 l[j].2.2) := by
  obtain ⟨b, off, e, hb, hc⟩ := h.at j hj
  exact ⟨b, off, e, hb, hc 0 _ rfl, hc 1 _ rfl, hc 2 _ rfl⟩

/-- a row that the call owns lies below what comes later -/
theorem OF.under {α : Type} {F : Flat α} {t : TypeId} {w : World} {B : Nat} {v : Value} {l : List α} (o : OF F t w B v l) {k : Nat} (h : w.heap.size ≤ k) : v.ownBlock ≠ some k := by
  rcases o.2 with ⟨rfl, _⟩ | ⟨g, cap, cur, rfl, _, h3, _⟩
  · intro h; cases h
  · intro e
    obtain rfl : g = k := by simpa [Value.ownBlock] using e
    have := own_lt h3
    omega

/-! ### where cells end -/
def wEnd (l : Cels) (f t : Nat) : Int := endC 0 ((l.take t).drop f)
theorem wEnd_self (l : Cels) (f : Nat) : wEnd l f f = 0 := by
  unfold wEnd
  rw [List.drop_of_length_le (by rw [List.length_take]; omega)]; rfl
theorem wEnd_succ {l : Cels} {f t : Nat} (hf : f ≤ t) (h : t < l.length) : wEnd l f (t + 1) = wEnd l f t + widC l[t] (wEnd l f t) := by
  unfold wEnd
  rw [cels_take h, List.drop_append_of_le_length (by rw [List.length_take]; omega), endC_snoc]
theorem wEnd_in (l : Cels) (f t : Nat) : 0 ≤ wEnd l f t ∧ wEnd l f t ≤ 48 * (t - f : Nat) := by
  have h := endC_in ((l.take t).drop f) 0
  unfold wEnd
  rw [List.length_drop, List.length_take] at h
  omega

/-! ### where a row ends -/
def blC (c : Cel) : Bool := decide (c.2.2.1 = 9 ∨ c.2.2.1 = 32)
def wStop (l : Cels) (W : Int) (f : Nat) : Nat → Nat → Nat
  | 0, t => t
  | g + 1, t => if t < l.length ∧ (t = f ∨ wEnd l f (t + 1) ≤ W) then wStop l W f g (t + 1) else t
def wBl (l : Cels) (k : Nat) : Bool := (l[k]?).any blC
def wLast (l : Cels) (f : Nat) : Nat → Nat
  | 0 => f
  | k + 1 => if k < f then f else if wBl l k then k + 1 else wLast l f k
def wBreak (l : Cels) (f t : Nat) : Nat := if wLast l f t = f then t else wLast l f t
def wNext (l : Cels) (W : Int) (f : Nat) : Nat :=
  if l.length ≤ wStop l W f (l.length - f) f then l.length else wBreak l f (wStop l W f (l.length - f) f)
def wRows (l : Cels) (W : Int) : Nat → Nat → Rws
  | 0, _ => []
  | g + 1, f => ((f : Int), (wNext l W f : Int), wEnd l f (wNext l W f)) :: if l.length ≤ wNext l W f then [] else wRows l W g (wNext l W f)
/-- the rows of a line in a width -/
def rowsW (l : Cels) (W : Int) : Rws := wRows l (max W 1) (l.length + 1) 0

theorem wStop_in (l : Cels) (W : Int) (f : Nat) : ∀ g t, t ≤ wStop l W f g t ∧ (t ≤ l.length → wStop l W f g t ≤ l.length)
  | 0, t => ⟨Nat.le_refl _, fun h => h⟩
  | g + 1, t => by
    unfold wStop
    split
    · rename_i h
      have k := wStop_in l W f g (t + 1)
      exact ⟨by omega, fun _ => k.2 (by omega)⟩
    · exact ⟨Nat.le_refl _, fun h => h⟩
theorem wStop_first {l : Cels} {W : Int} {f : Nat} (h : f < l.length) : f + 1 ≤ wStop l W f (l.length - f) f := by
  obtain ⟨g, hg⟩ : ∃ g, l.length - f = g + 1 := ⟨l.length - f - 1, by omega⟩
  rw [hg]
  unfold wStop
  rw [if_pos ⟨h, .inl rfl⟩]
  exact (wStop_in l W f g (f + 1)).1
theorem wStop_go {l : Cels} {W : Int} {f t : Nat} (h : t < l.length) (hf : t = f ∨ wEnd l f (t + 1) ≤ W) : wStop l W f (l.length - t) t = wStop l W f (l.length - (t + 1)) (t + 1) := by
  rw [show l.length - t = (l.length - (t + 1)) + 1 by omega]
  conv => lhs; unfold wStop
  rw [if_pos ⟨h, hf⟩]
theorem wStop_end {l : Cels} {W : Int} {f t : Nat} (hf : t ≠ f) (h : W < wEnd l f (t + 1)) : wStop l W f (l.length - t) t = t := by
  cases l.length - t with
  | zero => rfl
  | succ g =>
    unfold wStop
    rw [if_neg (by omega)]
theorem wStop_all {l : Cels} {W : Int} {f : Nat} : wStop l W f (l.length - l.length) l.length = l.length := by rw [Nat.sub_self]; rfl
theorem wLast_in (l : Cels) (f : Nat) : ∀ t, f ≤ wLast l f t ∧ wLast l f t ≤ max f t
  | 0 => ⟨Nat.le_refl _, by unfold wLast; omega⟩
  | k + 1 => by
    unfold wLast
    have h := wLast_in l f k
    split
    · omega
    · split
      · omega
      · omega
theorem wLast_self (l : Cels) (f : Nat) : wLast l f f = f := by have := wLast_in l f f; omega
theorem wLast_yes {l : Cels} {f k : Nat} (h : f ≤ k) (hb : wBl l k = true) : wLast l f (k + 1) = k + 1 := by
  unfold wLast; rw [if_neg (by omega), if_pos hb]
theorem wLast_no {l : Cels} {f k : Nat} (h : f ≤ k) (hb : wBl l k = false) : wLast l f (k + 1) = wLast l f k := by
  conv => lhs; unfold wLast
  rw [if_neg (by omega), if_neg (by rw [hb]; decide)]
theorem wBl_at {l : Cels} {k : Nat} (h : k < l.length) : wBl l k = blC l[k] := by
  unfold wBl; rw [List.getElem?_eq_getElem h]; rfl
theorem wBreak_in {l : Cels} {f t : Nat} (h : f < t) : f < wBreak l f t ∧ wBreak l f t ≤ t := by
  have := wLast_in l f t
  unfold wBreak
  split <;> omega
theorem wNext_in {l : Cels} {W : Int} {f : Nat} (h : f ≤ l.length) : f ≤ wNext l W f ∧ wNext l W f ≤ l.length ∧ (f < l.length → f < wNext l W f) := by
  have k := wStop_in l W f (l.length - f) f
  unfold wNext
  split
  · omega
  · have q : f < l.length := by omega
    have := wStop_first (W := W) q
    have := wBreak_in (l := l) (f := f) (t := wStop l W f (l.length - f) f) (by omega)
    omega
theorem wNext_all {l : Cels} {W : Int} {f : Nat} (h : wStop l W f (l.length - f) f = l.length) : wNext l W f = l.length := by
  unfold wNext; rw [h, if_pos (Nat.le_refl _)]
theorem wNext_part {l : Cels} {W : Int} {f t : Nat} (h : wStop l W f (l.length - f) f = t) (ht : t < l.length) : wNext l W f = wBreak l f t := by
  unfold wNext; rw [h, if_neg (by omega)]
theorem wRows_succ (l : Cels) (W : Int) (g f : Nat) : wRows l W (g + 1) f = ((f : Int), (wNext l W f : Int), wEnd l f (wNext l W f)) :: if l.length ≤ wNext l W f then [] else wRows l W g (wNext l W f) := rfl
theorem wRows_len (l : Cels) (W : Int) : ∀ g f, (wRows l W g f).length ≤ g
  | 0, _ => Nat.le_refl _
  | g + 1, f => by
    rw [wRows_succ]
    split
    · simp
    · have := wRows_len l W g (wNext l W f)
      simp; omega
end Go.Proofs.YteplnejnhgmfiaaDoor
