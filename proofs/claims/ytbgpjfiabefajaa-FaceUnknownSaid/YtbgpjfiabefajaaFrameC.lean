/- frame: what may change and what stays; the document's own frames, as they lie in memory: a structure, a slice of rows, rows of pixels. -/
import Derived.Test.YtbgpjfiabefajaaFrameB
import Derived.Test.YtbgpjfiabefajaaActs
namespace Go.Proofs.Ytbgpjfiabefajaa
set_option linter.unusedSimpArgs false
set_option linter.unusedVariables false
set_option linter.unusedSectionVars false
open Go.RowKit

/-- all blocks stay as they were, but for those of S; more may have been made -/
structure Keeps (S : Nat → Prop) (w w' : World) : Prop where
  os : w'.os = w.os
  tape : w'.tape = w.tape
  output : w'.output = w.output
  size : w.heap.size ≤ w'.heap.size
  block : ∀ k, k < w.heap.size → ¬ S k → w'.heap[k]? = w.heap[k]?
theorem Keeps.refl (S : Nat → Prop) (w : World) : Keeps S w w := ⟨rfl, rfl, rfl, Nat.le_refl _, fun _ _ _ => rfl⟩
theorem Keeps.trans {S : Nat → Prop} {a b c : World} (h : Keeps S a b) (k : Keeps S b c) : Keeps S a c :=
  ⟨k.os.trans h.os, k.tape.trans h.tape, k.output.trans h.output, Nat.le_trans h.size k.size, fun i hi hn => (k.block i (Nat.lt_of_lt_of_le hi h.size) hn).trans (h.block i hi hn)⟩
theorem Keeps.of {S : Nat → Prop} {w w' : World} (h : AnyLater w w') : Keeps S w w' := ⟨h.below.os, h.below.tape, h.below.output, h.below.size, fun k hk _ => h.below.block k hk⟩
theorem Keeps.any {S : Nat → Prop} {W w w' : World} (hW : AnyLater W w) (hS : ∀ k, S k → W.heap.size ≤ k) (h : Keeps S w w') : AnyLater W w' :=
  .of ⟨h.os.trans hW.below.os, h.tape.trans hW.below.tape, h.output.trans hW.below.output, Nat.le_trans hW.below.size h.size,
    fun k hk => (h.block k (Nat.lt_of_lt_of_le hk hW.below.size) (fun hs => by have := hS k hs; omega)).trans (hW.below.block k hk)⟩
/-- more may change: what is told of S' where S' is S or new -/
theorem Keeps.wide {S S' : Nat → Prop} {w w' : World} (h : Keeps S w w') (hs : ∀ k, k < w.heap.size → S k → S' k) : Keeps S' w w' :=
  ⟨h.os, h.tape, h.output, h.size, fun k hk hn => h.block k hk (fun q => hn (hs k hk q))⟩
theorem Keeps.setCell {S : Nat → Prop} {w w' : World} (h : Keeps S w w') {b i : Nat} (hb : S b) (v : Value) : Keeps S w (w'.setCell ⟨b, i, none⟩ v) :=
  ⟨h.os, h.tape, h.output, by rw [World.size_setCell]; exact h.size, fun k hk hn => (heap_far (fun e => hn (by rw [e]; exact hb)) (h.block k hk hn))⟩
/-- S' is S, or new -/
def Grown (w : World) (S S' : Nat → Prop) : Prop := ∀ k, S' k → S k ∨ w.heap.size ≤ k
/-- nothing in both -/
def Apart (S T : Nat → Prop) : Prop := ∀ k, S k → ¬ T k
theorem Apart.symm {S T : Nat → Prop} (h : Apart S T) : Apart T S := fun k ht hs => h k hs ht
theorem Apart.grown {S S' T : Nat → Prop} {w : World} (h : Apart S T) (hg : Grown w S S') (hT : ∀ k, T k → k < w.heap.size) : Apart S' T := fun k hs ht => by
  rcases hg k hs with h1 | h1
  · exact h k h1 ht
  · have := hT k ht; omega

def rowV (w : Nat) (e : Nat × Nat) : Value := .slice (some ⟨e.1, 0, none⟩) w e.2
/-- rows of pixels, each in a block of its own -/
structure RowsAt (w : World) (W : Nat) (rs : List (Nat × Nat)) (rows : Pix) (S : Nat → Prop) : Prop where
  len : rs.length = rows.length
  each : ∀ (i : Nat) (h : i < rs.length) (h' : i < rows.length), S rs[i].1 ∧ W ≤ rs[i].2 ∧ rows[i].length = W ∧ ∃ cells, w.heap[rs[i].1]? = some (.cells cells 33) ∧ ∀ (x : Nat) (hx : x < rows[i].length), cells[x]? = some (.int .u32 rows[i][x])
  nodup : ∀ (i j : Nat) (hi : i < rs.length) (hj : j < rs.length), rs[i].1 = rs[j].1 → i = j
theorem RowsAt.nil (w : World) (W : Nat) (S : Nat → Prop) : RowsAt w W [] [] S := ⟨rfl, fun i h => by simp at h, fun i j hi => by simp at hi⟩
theorem RowsAt.keep {w w' : World} {W : Nat} {rs : List (Nat × Nat)} {rows : Pix} {S : Nat → Prop} (h : RowsAt w W rs rows S) (hk : ∀ k, S k → k < w.heap.size → w'.heap[k]? = w.heap[k]?) : RowsAt w' W rs rows S := by
  refine ⟨h.len, fun i h1 h2 => ?_, h.nodup⟩
  obtain ⟨q1, q2, q3, cells, q4, q5⟩ := h.each i h1 h2
  exact ⟨q1, q2, q3, cells, by rw [hk _ q1 (own_lt q4)]; exact q4, q5⟩
theorem RowsAt.keepU {w w' : World} {W : Nat} {rs : List (Nat × Nat)} {rows : Pix} {S : Nat → Prop} (h : RowsAt w W rs rows S) (hk : ∀ k cells, S k → w.heap[k]? = some (.cells cells 33) → w'.heap[k]? = some (.cells cells 33)) : RowsAt w' W rs rows S := by
  refine ⟨h.len, fun i h1 h2 => ?_, h.nodup⟩
  obtain ⟨q1, q2, q3, cells, q4, q5⟩ := h.each i h1 h2
  exact ⟨q1, q2, q3, cells, hk _ _ q1 q4, q5⟩
theorem RowsAt.wide {w : World} {W : Nat} {rs : List (Nat × Nat)} {rows : Pix} {S S' : Nat → Prop} (h : RowsAt w W rs rows S) (hs : ∀ k, S k → k < w.heap.size → S' k) : RowsAt w W rs rows S' := by
  refine ⟨h.len, fun i h1 h2 => ?_, h.nodup⟩
  obtain ⟨q1, q2, q3, cells, q4, q5⟩ := h.each i h1 h2
  exact ⟨hs _ q1 (own_lt q4), q2, q3, cells, q4, q5⟩
/-- one row more -/
theorem RowsAt.push {w : World} {W g c : Nat} {rs : List (Nat × Nat)} {rows : Pix} {S : Nat → Prop} {r : List Int} {cells : Array Value} (h : RowsAt w W rs rows S) (hg : S g) (hc : W ≤ c) (hr : r.length = W) (hb : w.heap[g]? = some (.cells cells 33)) (hx : ∀ (x : Nat) (hx : x < r.length), cells[x]? = some (.int .u32 r[x]))
    (hn : ∀ (i : Nat) (hi : i < rs.length), rs[i].1 ≠ g) : RowsAt w W (rs ++ [(g, c)]) (rows ++ [r]) S := by
  have hl := h.len
  refine ⟨by simp [hl], fun i h1 h2 => ?_, fun i j hi hj e => ?_⟩
  · rw [List.length_append, List.length_singleton] at h1 h2
    by_cases e : i < rs.length
    · rw [List.getElem_append_left e]
      simp only [List.getElem_append_left (show i < rows.length by omega)]
      exact h.each i e (by omega)
    · obtain rfl : i = rs.length := by omega
      rw [List.getElem_append_right (Nat.le_refl _)]
      have e2 : (rows ++ [r])[rs.length]'(by simp; omega) = r := by rw [List.getElem_append_right (by omega)]; simp [hl]
      simp only [e2, Nat.sub_self, List.getElem_cons_zero]
      exact ⟨hg, hc, hr, cells, hb, hx⟩
  · rw [List.length_append, List.length_singleton] at hi hj
    by_cases ei : i < rs.length
    · by_cases ej : j < rs.length
      · rw [List.getElem_append_left ei, List.getElem_append_left ej] at e
        exact h.nodup i j ei ej e
      · obtain rfl : j = rs.length := by omega
        rw [List.getElem_append_left ei, List.getElem_append_right (Nat.le_refl _)] at e
        simp only [Nat.sub_self, List.getElem_cons_zero] at e
        exact absurd e (hn i ei)
    · by_cases ej : j < rs.length
      · obtain rfl : i = rs.length := by omega
        rw [List.getElem_append_left ej, List.getElem_append_right (Nat.le_refl _)] at e
        simp only [Nat.sub_self, List.getElem_cons_zero] at e
        exact absurd e.symm (hn j ej)
      · omega
/-- another row in the place of one -/
theorem RowsAt.swap {w : World} {W g c i : Nat} {rs : List (Nat × Nat)} {rows : Pix} {S : Nat → Prop} {r : List Int} {cells : Array Value} (h : RowsAt w W rs rows S) (hg : S g) (hc : W ≤ c) (hr : r.length = W) (hb : w.heap[g]? = some (.cells cells 33)) (hx : ∀ (x : Nat) (hx : x < r.length), cells[x]? = some (.int .u32 r[x]))
    (hn : ∀ (j : Nat) (hj : j < rs.length), rs[j].1 ≠ g) : RowsAt w W (rs.set i (g, c)) (rows.set i r) S := by
  refine ⟨by simp [h.len], fun k h1 h2 => ?_, fun j k hj hk e => ?_⟩
  · rw [List.length_set] at h1 h2
    simp only [List.getElem_set]
    by_cases e : i = k
    · rw [if_pos e]
      simp only [if_pos e]
      exact ⟨hg, hc, hr, cells, hb, hx⟩
    · rw [if_neg e]
      simp only [if_neg e]
      exact h.each k h1 h2
  · rw [List.length_set] at hj hk
    simp only [List.getElem_set] at e
    by_cases e1 : i = j
    · by_cases e2 : i = k
      · omega
      · rw [if_pos e1, if_neg e2] at e
        exact absurd e.symm (hn k hk)
    · by_cases e2 : i = k
      · rw [if_neg e1, if_pos e2] at e
        exact absurd e (hn j hj)
      · rw [if_neg e1, if_neg e2] at e
        exact h.nodup j k hj hk e
/-- a pixel stored -/
theorem RowsAt.store {w : World} {W i x : Nat} {rs : List (Nat × Nat)} {rows : Pix} {S : Nat → Prop} (h : RowsAt w W rs rows S) (hi : i < rs.length) (hi' : i < rows.length) (c : Int) :
    RowsAt (w.setCell ⟨rs[i].1, x, none⟩ (.int .u32 c)) W rs (rows.set i (rows[i].set x c)) S := by
  refine ⟨by simp [h.len], fun k h1 h2 => ?_, h.nodup⟩
  have h2' : k < rows.length := by rw [List.length_set] at h2; exact h2
  obtain ⟨q1, q2, q3, cells, q4, q5⟩ := h.each k h1 h2'
  by_cases e : i = k
  · subst e
    have er : (rows.set i (rows[i].set x c))[i]'h2 = rows[i].set x c := List.getElem_set_self _
    simp only [er]
    refine ⟨q1, q2, by rw [List.length_set]; exact q3, _, heap_at q4 rfl, fun y hy => ?_⟩
    have hy' : y < rows[i].length := by rw [List.length_set] at hy; exact hy
    have hq := q5 y hy'
    by_cases ey : x = y
    · subst ey
      have : x < cells.size := by
        rcases Nat.lt_or_ge x cells.size with h | h
        · exact h
        · rw [Array.getElem?_eq_none h] at hq; cases hq
      rw [Array.getElem?_setIfInBounds_self_of_lt this]
      simp
    · rw [Array.getElem?_setIfInBounds_ne (by omega), List.getElem_set_ne ey]
      exact hq
  · have er : (rows.set i (rows[i].set x c))[k]'h2 = rows[k] := List.getElem_set_ne e _
    simp only [er]
    exact ⟨q1, q2, q3, cells, heap_far (fun e2 => e (h.nodup i k hi h1 e2.symm)) q4, q5⟩

/-- a store into a block of another kind -/
theorem RowsAt.keep2 {w : World} {W : Nat} {rs : List (Nat × Nat)} {rows : Pix} {S : Nat → Prop} (h : RowsAt w W rs rows S) (p : Nat) {i : Nat} {x : Value} {cs : Array Value} {t : TypeId} (hp : w.heap[p]? = some (.cells cs t)) (ht : t ≠ 33) : RowsAt (w.setCell ⟨p, i, none⟩ x) W rs rows S := by
  refine ⟨h.len, fun k h1 h2 => ?_, h.nodup⟩
  obtain ⟨q1, q2, q3, cells, q4, q5⟩ := h.each k h1 h2
  refine ⟨q1, q2, q3, cells, heap_far ?_ q4, q5⟩
  intro e
  rw [e, hp] at q4
  cases q4
  exact ht rfl

/-- the document's frame at p: m, in the blocks of S; its rows' slice is v, its rows lie at rs -/
structure RXr (w : World) (p : Nat) (m : FM) (S : Nat → Prop) (v : Value) (rs : List (Nat × Nat)) : Prop where
  here : S p
  top : w.heap[p]? = some (.cells #[.int .i64 m.w, v, .int .i64 m.n] 40)
  mid : ∀ q, v.ownBlock = some q → S q
  own : w.ownsRow 0 34 1 v m.rows.length (rs.map (rowV m.w))
  rows : RowsAt w m.w rs m.rows S
  below : ∀ k, S k → k < w.heap.size
def RX (w : World) (p : Nat) (m : FM) (S : Nat → Prop) : Prop := ∃ v rs, RXr w p m S v rs
theorem RXr.ok {w : World} {p : Nat} {m : FM} {S : Nat → Prop} {v : Value} {rs : List (Nat × Nat)} (h : RXr w p m S v rs) : m.Ok := ⟨fun i hi => (h.rows.each i (by rw [h.rows.len]; exact hi) hi).2.2.1⟩
theorem owns_keep {w w' : World} {B : Nat} {e : TypeId} {size : Nat} {v : Value} {n : Nat} {xs : List Value} (o : w.ownsRow B e size v n xs) (h : ∀ q, v.ownBlock = some q → w'.heap[q]? = w.heap[q]?) : w'.ownsRow B e size v n xs := by
  refine ⟨o.1, ?_⟩
  rcases o.2 with k | ⟨g, cap, cur, h1, h2, h3, h4⟩
  · exact .inl k
  · exact .inr ⟨g, cap, cur, h1, h2, by rw [h g (by rw [h1]; rfl)]; exact h3, h4⟩
theorem RXr.keep {w w' : World} {p : Nat} {m : FM} {S : Nat → Prop} {v : Value} {rs : List (Nat × Nat)} (h : RXr w p m S v rs) (hs : w.heap.size ≤ w'.heap.size) (hk : ∀ k, S k → k < w.heap.size → w'.heap[k]? = w.heap[k]?) : RXr w' p m S v rs where
  here := h.here
  top := by rw [hk p h.here (own_lt h.top)]; exact h.top
  mid := h.mid
  own := owns_keep h.own (fun q hq => hk q (h.mid q hq) (h.below q (h.mid q hq)))
  rows := h.rows.keep hk
  below k hs2 := Nat.lt_of_lt_of_le (h.below k hs2) hs
theorem RXr.any {w w' : World} {p : Nat} {m : FM} {S : Nat → Prop} {v : Value} {rs : List (Nat × Nat)} (h : RXr w p m S v rs) (ha : AnyLater w w') : RXr w' p m S v rs := h.keep ha.below.size (fun k _ hk => ha.below.block k hk)
theorem RX.any {w w' : World} {p : Nat} {m : FM} {S : Nat → Prop} (h : RX w p m S) (ha : AnyLater w w') : RX w' p m S := by
  obtain ⟨v, rs, h⟩ := h
  exact ⟨v, rs, h.any ha⟩
/-- what others change leaves it -/
theorem RX.apart {w w' : World} {p : Nat} {m : FM} {S T : Nat → Prop} (h : RX w p m S) (hk : Keeps T w w') (hap : Apart S T) : RX w' p m S := by
  obtain ⟨v, rs, h⟩ := h
  exact ⟨v, rs, h.keep hk.size (fun k hs hlt => hk.block k hlt (hap k hs))⟩
theorem RX.below {w : World} {p : Nat} {m : FM} {S : Nat → Prop} (h : RX w p m S) : ∀ k, S k → k < w.heap.size := by
  obtain ⟨v, rs, h⟩ := h
  exact h.below
/-- where its rows' slice lies, if there are any -/
theorem RXr.outer {w : World} {p : Nat} {m : FM} {S : Nat → Prop} {v : Value} {rs : List (Nat × Nat)} (h : RXr w p m S v rs) (h0 : 0 < m.rows.length) :
    ∃ q cap cur, v = .slice (some ⟨q, 0, none⟩) m.rows.length cap ∧ S q ∧ w.heap[q]? = some (.cells cur 34) ∧ ∀ (i : Nat) (hi : i < rs.length), cur[i]? = some (rowV m.w rs[i]) := by
  rcases h.own.2 with ⟨_, k⟩ | ⟨q, cap, cur, hv, h2, h3, h4, h5, h6, h7⟩
  · omega
  · refine ⟨q, cap, cur, hv, h.mid q (by rw [hv]; rfl), h3, fun i hi => ?_⟩
    have hl := h.rows.len
    have : (cur.toList.take (m.rows.length * 1))[i]? = (rs.map (rowV m.w))[i]? := by rw [h7]
    rw [List.getElem?_take_of_lt (by omega), Array.getElem?_toList] at this
    rw [this]
    simp [hi]
theorem RXr.len {w : World} {p : Nat} {m : FM} {S : Nat → Prop} {v : Value} {rs : List (Nat × Nat)} (h : RXr w p m S v rs) : ∃ A cap, v = .slice A m.rows.length cap := by
  rcases h.own.2 with ⟨rfl, k⟩ | ⟨q, cap, cur, hv, _⟩
  · exact ⟨none, 0, by rw [k]⟩
  · exact ⟨_, cap, hv⟩
theorem RXr.store {w : World} {p : Nat} {m : FM} {S : Nat → Prop} {v : Value} {rs : List (Nat × Nat)} (h : RXr w p m S v rs) {i x : Nat} (hi : i < rs.length) (hi' : i < m.rows.length) (c : Int) :
    RXr (w.setCell ⟨rs[i].1, x, none⟩ (.int .u32 c)) p ⟨m.w, m.rows.set i (m.rows[i].set x c), m.n⟩ S v rs := by
  obtain ⟨q1, q2, q3, cells, q4, q5⟩ := h.rows.each i hi hi'
  have hp : p ≠ rs[i].1 := by
    intro e
    have := h.top
    rw [e, q4] at this
    cases this
  refine ⟨h.here, heap_far hp h.top, h.mid, ?_, h.rows.store hi hi' c, fun k hs => by rw [World.size_setCell]; exact h.below k hs⟩
  show World.ownsRow _ 0 34 1 v (m.rows.set i _).length _
  rw [List.length_set]
  exact owns_set q4 (by decide) _ _ h.own
theorem RXr.count {w : World} {p : Nat} {m : FM} {S : Nat → Prop} {v : Value} {rs : List (Nat × Nat)} (h : RXr w p m S v rs) (n : Int) :
    RXr (w.setCell ⟨p, 2, none⟩ (.int .i64 n)) p ⟨m.w, m.rows, n⟩ S v rs := by
  refine ⟨h.here, heap_at h.top rfl, h.mid, owns_set h.top (by decide) _ _ h.own, h.rows.keep2 p h.top (by decide), fun k hs => by rw [World.size_setCell]; exact h.below k hs⟩

/-- a slice of rows that stands by itself -/
structure OutR (w : World) (W : Nat) (v : Value) (rs : List (Nat × Nat)) (rows : Pix) (S : Nat → Prop) : Prop where
  mid : ∀ q, v.ownBlock = some q → S q
  own : w.ownsRow 0 34 1 v rows.length (rs.map (rowV W))
  rows : RowsAt w W rs rows S
  below : ∀ k, S k → k < w.heap.size
theorem RXr.outR {w : World} {p : Nat} {m : FM} {S : Nat → Prop} {v : Value} {rs : List (Nat × Nat)} (h : RXr w p m S v rs) : OutR w m.w v rs m.rows S := ⟨h.mid, h.own, h.rows, h.below⟩
theorem OutR.len {w : World} {W : Nat} {v : Value} {rs : List (Nat × Nat)} {rows : Pix} {S : Nat → Prop} (h : OutR w W v rs rows S) : ∃ A cap, v = .slice A rows.length cap := by
  rcases h.own.2 with ⟨rfl, k⟩ | ⟨q, cap, cur, hv, _⟩
  · exact ⟨none, 0, by rw [k]⟩
  · exact ⟨_, cap, hv⟩
theorem OutR.any {w w' : World} {W : Nat} {v : Value} {rs : List (Nat × Nat)} {rows : Pix} {S : Nat → Prop} (h : OutR w W v rs rows S) (ha : AnyLater w w') : OutR w' W v rs rows S :=
  ⟨h.mid, owns_later ha h.own, h.rows.keep (fun k _ hk => ha.below.block k hk), fun k hk => Nat.lt_of_lt_of_le (h.below k hk) ha.below.size⟩
theorem OutR.wide {w : World} {W : Nat} {v : Value} {rs : List (Nat × Nat)} {rows : Pix} {S S' : Nat → Prop} (h : OutR w W v rs rows S) (hS : ∀ k, S k → S' k) (hS2 : ∀ k, S' k → k < w.heap.size) : OutR w W v rs rows S' :=
  ⟨fun q hq => hS q (h.mid q hq), h.own, h.rows.wide (fun k hk _ => hS k hk), hS2⟩
/-- one row more is appended -/
theorem OutR.push {w w2 w3 : World} {W g c gg cap : Nat} {v : Value} {rs : List (Nat × Nat)} {rows : Pix} {S S' : Nat → Prop} {r : List Int} {cells : Array Value} (h : OutR w W v rs rows S) (b : AnyLater w w2) (hg : w.heap.size ≤ g) (hc : W ≤ c) (hr : r.length = W)
    (hb : w2.heap[g]? = some (.cells cells 33)) (hx : ∀ (x : Nat) (hx : x < r.length), cells[x]? = some (.int .u32 r[x]))
    (k2 : w3.ownsRow 0 34 1 (.slice (some ⟨gg, 0, none⟩) (rows.length + 1) cap) (rows.length + 1) (rs.map (rowV W) ++ [.slice (some ⟨g, 0, none⟩) W c])) (k3 : w2.grownBy w3 v.ownBlock) (k4 : v.ownBlock = some gg ∨ gg = w2.heap.size) (k5 : gg < w3.heap.size)
    (hS : ∀ k, k < w3.heap.size → (S k ∨ w.heap.size ≤ k) → S' k) (hS2 : ∀ k, S' k → k < w3.heap.size) : OutR w3 W (.slice (some ⟨gg, 0, none⟩) (rows.length + 1) cap) (rs ++ [(g, c)]) (rows ++ [r]) S' := by
  have ho2 := owns_later b h.own
  have hS3 : ∀ k, S k → S' k := fun k hk => hS k (Nat.lt_of_lt_of_le (h.below k hk) (Nat.le_trans b.below.size k3.size)) (.inl hk)
  have hg3 := grown_block k3 hb (owns_ne ho2 hb (by decide))
  refine ⟨fun q hq => ?_, ?_, ?_, hS2⟩
  · obtain rfl : gg = q := by simpa [Value.ownBlock] using hq
    rcases k4 with e | e
    · exact hS3 _ (h.mid _ e)
    · exact hS _ k5 (.inr (by rw [e]; exact b.below.size))
  · rw [List.length_append, List.map_append]
    exact k2
  · have h2 : RowsAt w3 W rs rows S := (h.rows.keep (fun k _ hk => b.below.block k hk)).keepU (fun k cs _ hk => grown_block k3 hk (owns_ne ho2 hk (by decide)))
    refine (h2.wide (fun k hk _ => hS3 k hk)).push (hS g (own_lt hg3) (.inr hg)) hc hr hg3 hx (fun i hi e => ?_)
    have hl := h.rows.len
    have := h.below _ (h.rows.each i hi (by omega)).1
    omega
/-- .. and laid into the frame -/
theorem OutR.lay {w : World} {p : Nat} {m : FM} {v : Value} {rs : List (Nat × Nat)} {S : Nat → Prop} {old : Value} {rows : Pix} (h : OutR w m.w v rs rows S) (hp : S p) (ht : w.heap[p]? = some (.cells #[.int .i64 m.w, old, .int .i64 m.n] 40)) : RXr (w.setCell ⟨p, 1, none⟩ v) p ⟨m.w, rows, m.n⟩ S v rs :=
  ⟨hp, heap_at ht rfl, h.mid, owns_set ht (by decide) _ _ h.own, h.rows.keep2 p ht (by decide), fun k hk => by rw [World.size_setCell]; exact h.below k hk⟩
end Go.Proofs.Ytbgpjfiabefajaa
