/- metric: rows that are laid out, as mathematics; how such rows lie in memory. No code. -/
import Derived.Test.YteplnejnhgmfiaaDoorWrpA
namespace Go.Proofs.YteplnejnhgmfiaaDoor
set_option linter.unusedSimpArgs false
set_option linter.unusedVariables false
set_option linter.unusedSectionVars false
open Go.RowKit

/-- a row that is laid out -/
structure Ld where
  cs : Cels
  xs : List Int
  up : Int
  dn : Int
  fr : Int
  en : Int
  la : Bool
/-- .. as it lies: its lists are slices -/
structure LdV where
  a1 : Option Addr
  n1 : Nat
  c1 : Nat
  a2 : Option Addr
  n2 : Nat
  c2 : Nat
  up : Int
  dn : Int
  fr : Int
  en : Int
  la : Bool
def ldF : Flat LdV where
  fl x := [.slice x.a1 x.n1 x.c1, .slice x.a2 x.n2 x.c2, .int .i64 x.up, .int .i64 x.dn, .int .i64 x.fr, .int .i64 x.en, .bool x.la]
  k := 7
  pos := by decide
  len _ := rfl
  one a u hu := by
    simp only [List.mem_cons, List.not_mem_nil, or_false] at hu
    rcases hu with rfl | rfl | rfl | rfl | rfl | rfl | rfl <;> rfl
set_option maxRecDepth 100000 in
theorem ldFT : FlatT ldF 43 29 (.agg #[.slice none 0 0, .slice none 0 0, .int .i64 0, .int .i64 0, .int .i64 0, .int .i64 0, .bool false]) 88 where
  und := Tryd.underlying29
  el := by kernel_rfl
  info := by kernel_rfl
  size := fun w => by simp [go_sem, ldF]
  zero := rfl
  few := by decide
/-- what lies is that row -/
def IsLd (w : World) (x : LdV) (r : Ld) : Prop :=
  (FR celF w (.slice x.a1 x.n1 x.c1) r.cs ∧ RI w (.slice x.a2 x.n2 x.c2) r.xs) ∧ x.up = r.up ∧ x.dn = r.dn ∧ x.fr = r.fr ∧ x.en = r.en ∧ x.la = r.la
theorem IsLd.later {w w' : World} {x : LdV} {r : Ld} (h : IsLd w x r) (a : AnyLater w w') : IsLd w' x r :=
  ⟨⟨h.1.1.later a, h.1.2.later a⟩, h.2⟩
/-- a slice that reads as these rows -/
def LR (w : World) (v : Value) (L : List Ld) : Prop := ∃ lv : List LdV, FR ldF w v lv ∧ lv.length = L.length ∧ ∀ (j : Nat) (h : j < lv.length) (h' : j < L.length), IsLd w lv[j] L[j]
theorem LR.later {w w' : World} {v : Value} {L : List Ld} (h : LR w v L) (a : AnyLater w w') : LR w' v L := by
  obtain ⟨lv, h1, h2, h3⟩ := h
  exact ⟨lv, h1.later a, h2, fun j h h' => (h3 j h h').later a⟩
theorem LR.form {w : World} {v : Value} {L : List Ld} (h : LR w v L) : ∃ A cap, v = .slice A L.length cap ∧ L.length ≤ cap := by
  obtain ⟨lv, h1, h2, _⟩ := h
  obtain ⟨A, cap, e, hc⟩ := h1.form
  exact ⟨A, cap, by rw [e, h2], by omega⟩
theorem LR.void (w : World) (A : Option Addr) (cap : Nat) : LR w (.slice A 0 cap) [] := ⟨[], FR.void _ _ _, rfl, fun _ h => absurd h (by simp)⟩
/-- one row of a slice of rows, as the walk reads it -/
theorem ldAt {w : World} {A : Option Addr} {n cap : Nat} {L : List Ld} (h : LR w (.slice A n cap) L) (j : Nat) (hj : j < L.length) : ∃ b off a1 c1 a2 c2, A = some ⟨b, off, none⟩ ∧ b < w.heap.size ∧
    (FR celF w (.slice a1 L[j].cs.length c1) L[j].cs ∧ RI w (.slice a2 L[j].xs.length c2) L[j].xs) ∧
    w.cell? ⟨b, off + j * 7, none⟩ = some (.slice a1 L[j].cs.length c1) ∧ w.cell? ⟨b, off + j * 7 + 1, none⟩ = some (.slice a2 L[j].xs.length c2) ∧
    w.cell? ⟨b, off + j * 7 + 2, none⟩ = some (.int .i64 L[j].up) ∧ w.cell? ⟨b, off + j * 7 + 3, none⟩ = some (.int .i64 L[j].dn) ∧
    w.cell? ⟨b, off + j * 7 + 4, none⟩ = some (.int .i64 L[j].fr) ∧ w.cell? ⟨b, off + j * 7 + 5, none⟩ = some (.int .i64 L[j].en) ∧
    w.cell? ⟨b, off + j * 7 + 6, none⟩ = some (.bool L[j].la) := by
  obtain ⟨lv, h1, h2, h3⟩ := h
  have hj' : j < lv.length := by omega
  obtain ⟨b, off, e, hb, hc⟩ := h1.at j hj'
  obtain ⟨⟨k1, k2⟩, k3, k4, k5, k6, k7⟩ := h3 j hj' hj
  have e1 := hc 0 _ rfl
  have e2 := hc 1 _ rfl
  have e3 := hc 2 _ rfl
  have e4 := hc 3 _ rfl
  have e5 := hc 4 _ rfl
  have e6 := hc 5 _ rfl
  have e7 := hc 6 _ rfl
  obtain ⟨A1, C1, q1, -⟩ := k1.form
  obtain ⟨A2, C2, q2, -⟩ := k2.form
  rw [q1] at k1 e1
  rw [q2] at k2 e2
  rw [k3] at e3
  rw [k4] at e4
  rw [k5] at e5
  rw [k6] at e6
  rw [k7] at e7
  exact ⟨b, off, A1, C1, A2, C2, e, hb, ⟨k1, k2⟩, e1, e2, e3, e4, e5, e6, e7⟩
set_option maxRecDepth 100000 in
/-- v[:n] -/
theorem LR.upto {w : World} {v : Value} {L : List Ld} (h : LR w v L) (n : Nat) (hn : n ≤ L.length) : ∃ A cap, LR w (.slice A n cap) (L.take n) ∧ ∀ w', (Instr.sliceAt 29 v none (some (.int .i64 (n : Int))) none).run Tryd.prog w' = .ok (.slice A n cap) w' := by
  obtain ⟨lv, h1, h2, h3⟩ := h
  obtain ⟨A, cap, k1, k2⟩ := h1.uptoF ldFT n (by omega)
  refine ⟨A, cap, ⟨lv.take n, k1, by rw [List.length_take, List.length_take, h2], fun j hj hj' => ?_⟩, k2⟩
  rw [List.length_take] at hj hj'
  rw [List.getElem_take, List.getElem_take]
  exact h3 j (by omega) (by omega)
/-- rows that the call owns read as rows -/
theorem LR.of_own {t : TypeId} {w : World} {B : Nat} {v : Value} {lv : List LdV} {L : List Ld} (h : OF ldF t w B v lv) (hl : lv.length = L.length) (hj : ∀ (j : Nat) (h : j < lv.length) (h' : j < L.length), IsLd w lv[j] L[j]) : LR w v L := ⟨lv, h.fr, hl, hj⟩
/-- one row of numbers, as the walk reads it -/
theorem numAt {w : World} {A : Option Addr} {n cap : Nat} {l : List Int} (h : RI w (.slice A n cap) l) (j : Nat) (hj : j < l.length) : ∃ b off, A = some ⟨b, off, none⟩ ∧ b < w.heap.size ∧ w.cell? ⟨b, off + j, none⟩ = some (.int .i64 l[j]) := by
  obtain ⟨A', cap', e, h2, h3⟩ := h
  cases e
  obtain ⟨b, off, e, hb, hc⟩ := h3 (by omega)
  exact ⟨b, off, e, hb, hc j hj⟩

/-- the numbers of a row are numbers -/
def LdOk (r : Ld) : Prop := (I64s r.up ∧ I64s r.dn ∧ I64s r.fr ∧ I64s r.en) ∧ CelsOk r.cs ∧ ∀ x ∈ r.xs, I64s x
def LdsOk (L : List Ld) : Prop := ∀ r ∈ L, LdOk r
theorem LdsOk.take {L : List Ld} (h : LdsOk L) (n : Nat) : LdsOk (L.take n) := fun r hr => h r (List.mem_of_mem_take hr)

/-! ### heights -/
def htZ (u d : Int) : Int := if u < 0 ∨ d < 0 ∨ 1048576 < u ∨ 1048576 < d then 0 else u + d
def htL (r : Ld) : Int := htZ r.up r.dn
theorem htL_in (r : Ld) : 0 ≤ htL r ∧ htL r ≤ 2097152 := by
  unfold htL htZ
  split <;> omega
def sumL (L : List Ld) : Int := L.foldl (fun s r => s + htL r) 0
theorem sumL_snoc (L : List Ld) (r : Ld) : sumL (L ++ [r]) = sumL L + htL r := by unfold sumL; rw [List.foldl_append]; rfl
theorem sumL_take {L : List Ld} {j : Nat} (h : j < L.length) : sumL (L.take (j + 1)) = sumL (L.take j) + htL L[j] := by
  rw [List.take_succ_eq_append_getElem h, sumL_snoc]
theorem sumL_in (L : List Ld) : 0 ≤ sumL L ∧ sumL L ≤ 2097152 * L.length := by
  have : ∀ (L : List Ld) (s : Int), s ≤ L.foldl (fun s r => s + htL r) s ∧ L.foldl (fun s r => s + htL r) s ≤ s + 2097152 * L.length := by
    intro L
    induction L with
    | nil => intro s; simp
    | cons r L ih =>
      intro s
      have h := ih (s + htL r)
      have h2 := htL_in r
      rw [List.foldl_cons, List.length_cons]
      omega
  have h := this L 0
  unfold sumL
  omega
/-- the row in which a height is, from the row k on, which begins at top -/
def rowG (y : Int) (L : List Ld) : Nat → Nat → Int × Int
  | 0, k => ((k : Int), sumL (L.take k))
  | g + 1, k => if k + 1 < L.length ∧ sumL (L.take (k + 1)) ≤ y then rowG y L g (k + 1) else ((k : Int), sumL (L.take k))
def rowL (y : Int) (L : List Ld) : Int × Int := if L.length = 0 then (-1, 0) else rowG y L L.length 0
theorem rowG_go {y : Int} {L : List Ld} {k : Nat} (h : k + 1 < L.length) (hy : sumL (L.take (k + 1)) ≤ y) : rowG y L (L.length - k) k = rowG y L (L.length - (k + 1)) (k + 1) := by
  rw [show L.length - k = (L.length - (k + 1)) + 1 by omega]
  conv => lhs; unfold rowG
  rw [if_pos ⟨h, hy⟩]
theorem rowG_end {y : Int} {L : List Ld} {g k : Nat} (h : L.length ≤ k + 1 ∨ y < sumL (L.take (k + 1))) : rowG y L g k = ((k : Int), sumL (L.take k)) := by
  cases g with
  | zero => rfl
  | succ g => unfold rowG; rw [if_neg (by omega)]

/-! ### the places of a row -/
def gapZ (a b : Int) : Int := if b < a then a - b else b - a
theorem gapZ_in {a b : Int} (ha : I64s a) (hb : I64s b) : 0 ≤ gapZ a b ∧ gapZ a b ≤ 18446744073709551615 := by
  obtain ⟨h1, h2⟩ := ha
  obtain ⟨h3, h4⟩ := hb
  unfold gapZ
  split <;> omega
def atsL (r : Ld) : List Int := r.cs.map (·.1) ++ (if r.la then [r.en] else [])
def placesL (r : Ld) : List Int := (atsL r).take r.xs.length
/-- the number of the nearest place of the first k + 1 -/
def nbest (P X : List Int) (x : Int) : Nat → Nat
  | 0 => 0
  | k + 1 => if gapZ (X.getD (k + 1) 0) x < gapZ (X.getD (nbest P X x k) 0) x ∨ gapZ (X.getD (k + 1) 0) x = gapZ (X.getD (nbest P X x k) 0) x ∧ P.getD (k + 1) 0 < P.getD (nbest P X x k) 0 then k + 1 else nbest P X x k
theorem nbest_le (P X : List Int) (x : Int) : ∀ k, nbest P X x k ≤ k
  | 0 => Nat.le_refl _
  | k + 1 => by
    have := nbest_le P X x k
    unfold nbest
    split <;> omega
def nearL (r : Ld) (x : Int) : Int := if (placesL r).length = 0 then r.fr else (placesL r).getD (nbest (placesL r) r.xs x ((placesL r).length - 1)) 0
theorem placesL_len (r : Ld) : (placesL r).length ≤ r.xs.length ∧ (placesL r).length ≤ r.cs.length + 1 := by
  unfold placesL atsL
  rw [List.length_take, List.length_append, List.length_map]
  split <;> simp <;> omega

/-! ### where a caret stands -/
/-- the number of the first cell that p holds of; -1 if there is none -/
def idxC (p : Cel → Bool) (l : Cels) : Int := if l.any p = true then ((l.findIdx p : Nat) : Int) else -1
def begI (col : Int) (r : Ld) : Int := idxC (fun c => c.1 == col) (r.cs.take (min r.cs.length r.xs.length))
def begX (col : Int) (r : Ld) : Option Int := if 0 ≤ begI col r then r.xs[(begI col r).toNat]? else none
def endX (col : Int) (r : Ld) : Option Int := if r.la = true ∧ r.en = col then r.xs[r.cs.length]? else none
/-- the last of the first k rows of which f tells, and what it tells -/
def lastX (f : Ld → Option Int) (L : List Ld) : Nat → Option (Int × Int)
  | 0 => none
  | k + 1 => match (L[k]?).bind f with
    | some x => some ((k : Int), x)
    | none => lastX f L k
def atL (col : Int) (L : List Ld) : Int × Int × Bool :=
  match lastX (begX col) L L.length with
  | some p => (p.1, p.2, true)
  | none => match lastX (endX col) L L.length with
    | some p => (p.1, p.2, true)
    | none => (0, 0, false)
theorem lastX_at {f : Ld → Option Int} {L : List Ld} {i : Nat} {x : Int} (h : i < L.length) (hx : f L[i] = some x) : ∀ k, i < k → k ≤ L.length → (∀ (j : Nat) (hj : j < L.length), i < j → j < k → f L[j] = none) → lastX f L k = some ((i : Int), x)
  | 0, h1, _, _ => by omega
  | k + 1, h1, h2, h3 => by
    unfold lastX
    have lk : k < L.length := by omega
    rw [List.getElem?_eq_getElem lk]
    by_cases e : k = i
    · subst e
      simp only [Option.bind_some, hx]
    · simp only [Option.bind_some, h3 k lk (by omega) (by omega)]
      exact lastX_at h hx k (by omega) (by omega) (fun j hj a b => h3 j hj a (by omega))
theorem lastX_none {f : Ld → Option Int} {L : List Ld} : ∀ k, k ≤ L.length → (∀ (j : Nat) (hj : j < L.length), j < k → f L[j] = none) → lastX f L k = none
  | 0, _, _ => rfl
  | k + 1, h, h3 => by
    have lk : k < L.length := by omega
    unfold lastX
    rw [List.getElem?_eq_getElem lk]
    simp only [Option.bind_some, h3 k lk (by omega)]
    exact lastX_none k (by omega) (fun j hj a => h3 j hj (by omega))

/-! ### a line's rows -/
def upF (f : Int) : Int := if f = 2 then 14 else 7
def dnF (f : Int) : Int := if f = 2 then 3 else 2
def upL (l : Cels) : Int := l.foldl (fun u c => max u (upF (faceS c.2.2.2))) 7
def dnL (l : Cels) : Int := l.foldl (fun u c => max u (dnF (faceS c.2.2.2))) 2
theorem upL_snoc (l : Cels) (c : Cel) : upL (l ++ [c]) = max (upL l) (upF (faceS c.2.2.2)) := by unfold upL; rw [List.foldl_append]; rfl
theorem dnL_snoc (l : Cels) (c : Cel) : dnL (l ++ [c]) = max (dnL l) (dnF (faceS c.2.2.2)) := by unfold dnL; rw [List.foldl_append]; rfl
theorem upL_in (l : Cels) : 7 ≤ upL l ∧ upL l ≤ 14 := by
  have : ∀ (l : Cels) (u : Int), u ≤ 14 → u ≤ l.foldl (fun u c => max u (upF (faceS c.2.2.2))) u ∧ l.foldl (fun u c => max u (upF (faceS c.2.2.2))) u ≤ 14 := by
    intro l
    induction l with
    | nil => intro u h; simp [h]
    | cons c l ih =>
      intro u h
      have h2 : upF (faceS c.2.2.2) ≤ 14 := by unfold upF; split <;> omega
      have h3 := ih (max u (upF (faceS c.2.2.2))) (by omega)
      rw [List.foldl_cons]
      omega
  exact this l 7 (by decide)
theorem dnL_in (l : Cels) : 2 ≤ dnL l ∧ dnL l ≤ 3 := by
  have : ∀ (l : Cels) (u : Int), u ≤ 3 → u ≤ l.foldl (fun u c => max u (dnF (faceS c.2.2.2))) u ∧ l.foldl (fun u c => max u (dnF (faceS c.2.2.2))) u ≤ 3 := by
    intro l
    induction l with
    | nil => intro u h; simp [h]
    | cons c l ih =>
      intro u h
      have h2 : dnF (faceS c.2.2.2) ≤ 3 := by unfold dnF; split <;> omega
      have h3 := ih (max u (dnF (faceS c.2.2.2))) (by omega)
      rw [List.foldl_cons]
      omega
  exact this l 2 (by decide)
def frL (l : Cels) : Int := (l.head?.map (·.1)).getD 0
def toL (l : Cels) : Int := (l.getLast?.map fun c => c.1 + c.2.1).getD 0
def layL (l : Cels) (la : Bool) : Ld := { cs := l, xs := xsC 0 l, up := upL l, dn := dnL l, fr := frL l, en := toL l, la := la }
/-- the cells of a row -/
def rowCels (C : Cels) (r : Rw) : Cels := (C.take r.2.1.toNat).drop r.1.toNat
/-- the rows of cells in a width, laid out -/
def linesL (C : Cels) (W : Int) : List Ld := (List.range (rowsW C W).length).map fun j => layL (rowCels C ((rowsW C W).getD j (0, 0, 0))) (decide (j + 1 = (rowsW C W).length))
theorem linesL_length (C : Cels) (W : Int) : (linesL C W).length = (rowsW C W).length := by simp [linesL]
theorem linesL_get (C : Cels) (W : Int) {j : Nat} (h : j < (rowsW C W).length) : (linesL C W)[j]'(by rw [linesL_length]; exact h) = layL (rowCels C (rowsW C W)[j]) (decide (j + 1 = (rowsW C W).length)) := by
  unfold linesL
  rw [List.getElem_map, List.getElem_range, List.getD_eq_getElem?_getD, List.getElem?_eq_getElem h]
  rfl
end Go.Proofs.YteplnejnhgmfiaaDoor
