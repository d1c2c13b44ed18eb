/- Rows of pairs of numbers of 64 bits (structs of two fields) in memory: read, cut, appended to. The element's type is a parameter. -/
import Derived.Test.YtjoadlfkdkeomaaOwn
import Derived.Test.YtjoadlfkdkeomaaRows
import Derived.Deep.Upon
namespace Go.Proofs.Ytjoadlfkdkeomaa
set_option linter.unusedSimpArgs false
set_option linter.unusedVariables false
set_option linter.unusedSectionVars false
open Go.RowKit

abbrev Qs := List (Int × Int)
/-- a slice that reads as these pairs -/
def QR (w : World) (v : Value) (l : Qs) : Prop := ∃ (A : Option Addr) (cap : Nat), v = .slice A l.length cap ∧ l.length ≤ cap ∧ (0 < l.length → ∃ b off, A = some ⟨b, off, none⟩ ∧ b < w.heap.size ∧ ∀ (j : Nat) (h : j < l.length), w.cell? ⟨b, off + j * 2, none⟩ = some (.int .i64 l[j].1) ∧ w.cell? ⟨b, off + j * 2 + 1, none⟩ = some (.int .i64 l[j].2))
theorem QR.later {w w' : World} {v : Value} {l : Qs} (h : QR w v l) (ha : AnyLater w w') : QR w' v l := by
  obtain ⟨A, cap, h1, h2, h3⟩ := h
  refine ⟨A, cap, h1, h2, fun h0 => ?_⟩
  obtain ⟨b, off, e, hb, hc⟩ := h3 h0
  exact ⟨b, off, e, Nat.lt_of_lt_of_le hb ha.below.size, fun j hj => ⟨(ha.below.cell hb).trans (hc j hj).1, (ha.below.cell hb).trans (hc j hj).2⟩⟩
theorem QR.form {w : World} {v : Value} {l : Qs} (h : QR w v l) : ∃ A cap, v = .slice A l.length cap ∧ l.length ≤ cap := by
  obtain ⟨A, cap, h1, h2, _⟩ := h
  exact ⟨A, cap, h1, h2⟩
theorem QR.void (w : World) (A : Option Addr) (cap : Nat) : QR w (.slice A 0 cap) [] := ⟨A, cap, rfl, Nat.zero_le _, fun h => absurd h (by decide)⟩
/-- one pair of a slice, as the walk reads it -/
theorem QR.at {w : World} {A : Option Addr} {n cap : Nat} {l : Qs} (h : QR w (.slice A n cap) l) (j : Nat) (hj : j < l.length) : ∃ b off, A = some ⟨b, off, none⟩ ∧ b < w.heap.size ∧ w.cell? ⟨b, off + j * 2, none⟩ = some (.int .i64 l[j].1) ∧ w.cell? ⟨b, off + j * 2 + 1, none⟩ = some (.int .i64 l[j].2) := by
  obtain ⟨A', cap', e, h2, h3⟩ := h
  cases e
  obtain ⟨b, off, e, hb, hc⟩ := h3 (by omega)
  exact ⟨b, off, e, hb, hc j hj⟩
theorem qaddr_add (b off n : Nat) : (⟨b, off, none⟩ : Addr).add n = ⟨b, off + n, none⟩ := by unfold Addr.add; split <;> simp_all
theorem QR.drop {w : World} {A : Option Addr} {cap : Nat} {l : Qs} (h : QR w (.slice A l.length cap) l) (n : Nat) (hn : n ≤ l.length) : QR w (.slice (if cap = n then A else A.map (fun x => x.add (n * 2))) (l.length - n) (cap - n)) (l.drop n) := by
  obtain ⟨A', cap', e, h2, h3⟩ := h
  cases e
  refine ⟨_, _, by rw [List.length_drop], by rw [List.length_drop]; omega, fun h0 => ?_⟩
  rw [List.length_drop] at h0
  obtain ⟨b, off, rfl, hb, hc⟩ := h3 (by omega)
  rw [if_neg (by omega)]
  refine ⟨b, off + n * 2, by rw [Option.map_some, qaddr_add], hb, fun j hj => ?_⟩
  rw [List.length_drop] at hj
  have := hc (n + j) (by omega)
  rw [show off + n * 2 + j * 2 = off + (n + j) * 2 by omega, List.getElem_drop]
  exact this
theorem QR.take {w : World} {A : Option Addr} {cap : Nat} {l : Qs} (h : QR w (.slice A l.length cap) l) (n : Nat) (hn : n ≤ l.length) : QR w (.slice A n cap) (l.take n) := by
  obtain ⟨A', cap', e, h2, h3⟩ := h
  cases e
  have hl : (l.take n).length = n := by rw [List.length_take]; omega
  refine ⟨A, cap, by rw [hl], by rw [hl]; omega, fun h0 => ?_⟩
  rw [hl] at h0
  obtain ⟨b, off, rfl, hb, hc⟩ := h3 (by omega)
  refine ⟨b, off, rfl, hb, fun j hj => ?_⟩
  rw [hl] at hj
  rw [List.getElem_take]
  exact hc j (by omega)
def flatQ (l : Qs) : List Value := l.flatMap fun b => [.int .i64 b.1, .int .i64 b.2]
theorem flatQ_nil : flatQ [] = [] := rfl
theorem flatQ_cons (b : Int × Int) (l : Qs) : flatQ (b :: l) = .int .i64 b.1 :: .int .i64 b.2 :: flatQ l := rfl
theorem flatQ_append (a b : Qs) : flatQ (a ++ b) = flatQ a ++ flatQ b := by unfold flatQ; rw [List.flatMap_append]
theorem flatQ_length : ∀ l : Qs, (flatQ l).length = l.length * 2
  | [] => rfl
  | b :: l => by rw [flatQ_cons, List.length_cons, List.length_cons, flatQ_length l, List.length_cons]; omega
theorem flatQ_0 : ∀ (l : Qs) (j : Nat), (flatQ l)[j * 2]? = (l[j]?).map fun b => .int .i64 b.1
  | [], j => by simp [flatQ_nil]
  | b :: l, 0 => rfl
  | b :: l, j + 1 => by
    rw [flatQ_cons, show (j + 1) * 2 = j * 2 + 1 + 1 by omega, List.getElem?_cons_succ, List.getElem?_cons_succ, flatQ_0 l j, List.getElem?_cons_succ]
theorem flatQ_1 : ∀ (l : Qs) (j : Nat), (flatQ l)[j * 2 + 1]? = (l[j]?).map fun b => .int .i64 b.2
  | [], j => by simp [flatQ_nil]
  | b :: l, 0 => rfl
  | b :: l, j + 1 => by
    rw [flatQ_cons, show (j + 1) * 2 + 1 = j * 2 + 1 + 1 + 1 by omega, List.getElem?_cons_succ, List.getElem?_cons_succ, flatQ_1 l j, List.getElem?_cons_succ]
theorem flatQ_one (l : Qs) : ∀ u ∈ flatQ l, u.oneCell' = true := by
  intro u hu
  obtain ⟨b, _, hb⟩ := List.mem_flatMap.1 hu
  rcases List.mem_cons.1 hb with rfl | hb
  · rfl
  · rcases List.mem_cons.1 hb with rfl | hb
    · rfl
    · cases hb
/-- a row of pairs that a call made itself -/
abbrev OQ (t : TypeId) (w : World) (B : Nat) (v : Value) (l : Qs) : Prop := w.ownsRow B t 2 v l.length (flatQ l)
theorem OQ.rq {t : TypeId} {w : World} {B : Nat} {v : Value} {l : Qs} (h : OQ t w B v l) : QR w v l := by
  rcases h.2 with ⟨rfl, h0⟩ | ⟨g, cap, cur, rfl, h2, h3, h4, h5, h6, h7⟩
  · refine ⟨none, 0, by rw [h0], by omega, fun hp => by omega⟩
  · refine ⟨some ⟨g, 0, none⟩, cap, rfl, h4, fun _ => ⟨g, 0, rfl, own_lt h3, fun j hj => ?_⟩⟩
    have e : ∀ k, k < l.length * 2 → cur[k]? = (flatQ l)[k]? := fun k hk => by
      have : (cur.toList.take (l.length * 2))[k]? = (flatQ l)[k]? := by rw [h7]
      rw [List.getElem?_take_of_lt hk] at this
      simpa using this
    rw [Nat.zero_add, own_row h3, own_row h3, e _ (by omega), e _ (by omega), flatQ_0, flatQ_1, List.getElem?_eq_getElem hj]
    exact ⟨rfl, rfl⟩
theorem OQ.later {t : TypeId} {w w' : World} {B : Nat} {v : Value} {l : Qs} (ha : AnyLater w w') (h : OQ t w B v l) : OQ t w' B v l := owns_later ha h
theorem OQ.form {t : TypeId} {w : World} {B : Nat} {v : Value} {l : Qs} (h : OQ t w B v l) : ∃ A cap, v = .slice A l.length cap ∧ l.length ≤ cap := (OQ.rq h).form
theorem OQ.wide {t : TypeId} {w : World} {B C : Nat} {v : Value} {l : Qs} (hC : C ≤ B) (h : OQ t w B v l) : OQ t w C v l := by
  refine ⟨h.1, ?_⟩
  rcases h.2 with q | ⟨g, cap, cur, h0, h1, h2⟩
  · exact .inl q
  · exact .inr ⟨g, cap, cur, h0, by omega, h2⟩
theorem OQ.grown {t : TypeId} {W w w2 : World} {B : Nat} {v : Value} {l : Qs} (ho : OQ t w B v l) (hW : W.heap.size ≤ B) (h : AnyLater W w) (hg : w.grownBy w2 v.ownBlock) : AnyLater W w2 :=
  grown_later h hg (fun q hq => Nat.le_trans hW (owns_base ho q hq))
theorem OQ.empty {t : TypeId} {w : World} {g B : Nat} (hB : B ≤ g) (h : w.heap[g]? = some (.cells #[] t)) : OQ t w B (.slice (some ⟨g, 0, none⟩) 0 0) [] := ⟨rfl, .inr ⟨g, 0, #[], rfl, hB, h, Nat.le_refl _, Nat.zero_le _, rfl, rfl⟩⟩
theorem OQ.nil (t : TypeId) (w : World) (B : Nat) : OQ t w B (.slice none 0 0) [] := ⟨rfl, .inl ⟨rfl, rfl⟩⟩
theorem OQ.one {t : TypeId} {w : World} {g B : Nat} {r : Int × Int} (hB : B ≤ g) (h : w.heap[g]? = some (.cells #[.int .i64 r.1, .int .i64 r.2] t)) : OQ t w B (.slice (some ⟨g, 0, none⟩) 1 1) [r] := ⟨rfl, .inr ⟨g, 1, _, rfl, hB, h, Nat.le_refl _, by unfold maxLen; omega, rfl, rfl⟩⟩
theorem QR.cells {w : World} {b off : Nat} {l : Qs} (hc : ∀ (j : Nat) (h : j < l.length), w.cell? ⟨b, off + j * 2, none⟩ = some (.int .i64 l[j].1) ∧ w.cell? ⟨b, off + j * 2 + 1, none⟩ = some (.int .i64 l[j].2)) :
    ∀ (j : Nat) (u : Value), (flatQ l)[j]? = some u → w.cell? ((⟨b, off, none⟩ : Addr).add j) = some u := by
  intro j u hu
  have hj : j < l.length * 2 := by
    rcases Nat.lt_or_ge j (l.length * 2) with h | h
    · exact h
    · rw [List.getElem?_eq_none (by rw [flatQ_length]; exact h)] at hu; cases hu
  have hk : j / 2 < l.length := by omega
  rw [qaddr_add]
  rcases Nat.mod_two_eq_zero_or_one j with hm | hm
  · have e : j = j / 2 * 2 := by omega
    rw [e] at hu ⊢
    rw [flatQ_0, List.getElem?_eq_getElem hk] at hu
    rw [(hc _ hk).1]; exact hu
  · have e : j = j / 2 * 2 + 1 := by omega
    rw [e] at hu ⊢
    rw [flatQ_1, List.getElem?_eq_getElem hk] at hu
    rw [← Nat.add_assoc, (hc _ hk).2]; exact hu
/-- what is to be known of the element's type t and the slice's type s -/
structure PairT (t s : TypeId) : Prop where
  und : Try.prog.underlying s = some (.slice t)
  el : Try.prog.elem s = t
  info : (Try.prog.info? t).map (fun i => (i.zero, i.size, i.bytes)) = some (some (.agg #[.int .i64 0, .int .i64 0]), 2, 16)
  size : ∀ w, (Go.sizeOf (Try.prog.elem s)).run Try.prog w = .ok 2 w
theorem PairT.und' {t s : TypeId} (T : PairT t s) : Try.prog.underlying s = some (.slice (Try.prog.elem s)) := by rw [T.el]; exact T.und
/-- append(v, u...) onto a row of pairs that the call owns -/
theorem appQ {t s : TypeId} (T : PairT t s) {w : World} {B : Nat} {v u : Value} {l m : Qs} (ho : OQ t w B v l) (hm : QR w u m) (hB : B ≤ w.heap.size) (hlen : l.length + m.length ≤ 200000) :
    ∃ v' w', (Builtin.append_ #[s, s] s #[v, u]).run Try.prog w = .ok v' w' ∧ OQ t w' B v' (l ++ m) ∧ w.grownBy w' v.ownBlock := by
  obtain ⟨i0, hi0, hz0, hz1, hz2⟩ := info_parts T.info
  obtain ⟨A, cap, rfl, h2, h3⟩ := hm
  cases A with
  | none =>
    have h0 : m = [] := by
      cases m with
      | nil => rfl
      | cons x t => obtain ⟨b, off, e, _⟩ := h3 (by simp); cases e
    subst h0
    obtain ⟨A2, c2, rfl, q2⟩ := ho.form
    have hsrc := Src.ofNil (P := Try.prog) w (size := i0.size) T.und cap
    refine ⟨_, _, run_append_nothing (P := Try.prog) w s s s t i0 T.und hi0 A2 l.length c2 q2 _ hsrc, by rw [List.append_nil]; exact ho, ⟨rfl, rfl, rfl, Nat.le_refl _, fun _ _ _ => rfl⟩⟩
  | some ad =>
    by_cases h0 : 0 < m.length
    · obtain ⟨b, off, e, hb, hc⟩ := h3 h0
      cases e
      obtain ⟨v', w', k1, k2, k3, _⟩ := run_append_own (P := Try.prog) w B s s t i0 (.agg #[.int .i64 0, .int .i64 0]) 2 16 T.und hi0 hz0 hz1 hz2 rfl (by decide) v l.length (flatQ l) ho ⟨b, off, none⟩ m.length cap (flatQ m) (by rw [flatQ_length]) (QR.cells hc) (flatQ_one m) (by unfold maxLen; omega) (by omega) hB
      refine ⟨v', w', k1, ?_, k3⟩
      show w'.ownsRow B t 2 v' (l ++ m).length (flatQ (l ++ m))
      rw [List.length_append, flatQ_append]
      exact k2
    · obtain rfl := List.eq_nil_of_length_eq_zero (Nat.eq_zero_of_not_pos h0)
      obtain ⟨v', w', k1, k2, k3, _⟩ := run_append_own (P := Try.prog) w B s s t i0 (.agg #[.int .i64 0, .int .i64 0]) 2 16 T.und hi0 hz0 hz1 hz2 rfl (by decide) v l.length (flatQ l) ho ad 0 cap [] (by simp) (fun j x hx => by simp at hx) (by intro x hx; simp at hx) (by unfold maxLen; omega) (by simp at hlen; omega) hB
      refine ⟨v', w', k1, ?_, k3⟩
      show w'.ownsRow B t 2 v' (l ++ []).length (flatQ (l ++ []))
      rw [List.append_nil]
      simpa using k2
/-- append(v, r) -/
theorem appQ1 {t s : TypeId} (T : PairT t s) {w : World} {B : Nat} {v : Value} {l : Qs} (r : Int × Int) (ho : OQ t w B v l) (hB : B ≤ w.heap.size) (hl : l.length ≤ 190000) :
    ∃ u w2, (Builtin.append_ #[s, s] s #[v, .slice (some ⟨w.heap.size, 0, none⟩) 1 1]).run Try.prog (w.alloc (.cells #[.int .i64 r.1, .int .i64 r.2] t)) = .ok u w2 ∧ OQ t w2 B u (l ++ [r]) ∧ ∀ W, W.heap.size ≤ B → AnyLater W w → AnyLater W w2 := by
  have a1 : AnyLater w (w.alloc (.cells #[.int .i64 r.1, .int .i64 r.2] t)) := (AnyLater.refl w).alloc _
  have hm : QR (w.alloc (.cells #[.int .i64 r.1, .int .i64 r.2] t)) (.slice (some ⟨w.heap.size, 0, none⟩) 1 1) [r] := OQ.rq (OQ.one (B := 0) (Nat.zero_le _) (heap_new rfl))
  have ho2 := OQ.later a1 ho
  obtain ⟨u, w2, k1, k2, k3⟩ := appQ T ho2 hm (Nat.le_trans hB a1.below.size) (by simp; omega)
  exact ⟨u, w2, k1, k2, fun W h1 h2 => OQ.grown ho2 h1 (h2.trans a1) k3⟩
/-- append([]T{}, v...) -/
theorem copyQ {t s : TypeId} (T : PairT t s) {w : World} {v : Value} {l : Qs} (hr : QR w v l) (hl : l.length ≤ 190000) :
    ∃ u w2, (Builtin.append_ #[s, s] s #[.slice (some ⟨w.heap.size, 0, none⟩) 0 0, v]).run Try.prog (w.alloc (.cells #[] t)) = .ok u w2 ∧ AnyLater w w2 ∧ OQ t w2 w.heap.size u l := by
  have a1 : AnyLater w (w.alloc (.cells #[] t)) := (AnyLater.refl w).alloc _
  have ho : OQ t (w.alloc (.cells #[] t)) w.heap.size (.slice (some ⟨w.heap.size, 0, none⟩) 0 0) [] := OQ.empty (Nat.le_refl _) (heap_new rfl)
  obtain ⟨u, w2, k1, k2, k3⟩ := appQ T ho (hr.later a1) a1.below.size (by simp; omega)
  exact ⟨u, w2, k1, OQ.grown ho (Nat.le_refl _) a1 k3, k2⟩
set_option maxRecDepth 100000 in
/-- v[n:] -/
theorem QR.cutQ {t s : TypeId} (T : PairT t s) {w : World} {v : Value} {l : Qs} (h : QR w v l) (n : Nat) (hn : n ≤ l.length) : ∃ u, QR w u (l.drop n) ∧ ∀ w', (Instr.sliceAt s v (some (.int .i64 (n : Int))) none none).run Try.prog w' = .ok u w' := by
  obtain ⟨A, cap, rfl, h2, h3⟩ := h
  refine ⟨_, QR.drop ⟨A, cap, rfl, h2, h3⟩ n hn, fun w' => ?_⟩
  rw [run_sliceAt_slice w' _ _ _ _ _ T.und', run_slice_l w' _ A l.length cap T.und' .i64 (n : Int) (by omega) (by omega)]
  rw [T.size]
  simp [Result.andThen, sliced]
set_option maxRecDepth 100000 in
/-- v[:n] -/
theorem QR.uptoQ {t s : TypeId} (T : PairT t s) {w : World} {v : Value} {l : Qs} (h : QR w v l) (n : Nat) (hn : n ≤ l.length) : ∃ A cap, QR w (.slice A n cap) (l.take n) ∧ ∀ w', (Instr.sliceAt s v none (some (.int .i64 (n : Int))) none).run Try.prog w' = .ok (.slice A n cap) w' := by
  obtain ⟨A, cap, rfl, h2, h3⟩ := h
  have key : ∀ w', (Instr.sliceAt s (.slice A l.length cap) none (some (.int .i64 (n : Int))) none).run Try.prog w' = .ok (.slice (if cap = 0 then A else A.map (fun x => x.add 0)) n cap) w' := fun w' => by
    rw [run_sliceAt_slice w' _ _ _ _ _ T.und', run_slice_h w' _ A l.length cap T.und' .i64 (n : Int) (by omega) (by omega)]
    rw [T.size]
    simp [Result.andThen, sliced]
  have eA : (if cap = 0 then A else A.map (fun x => x.add 0)) = A := by
    split
    · rfl
    · cases A with
      | none => rfl
      | some a => simp [Addr.add]
  rw [eA] at key
  exact ⟨A, cap, QR.take ⟨A, cap, rfl, h2, h3⟩ n hn, key⟩
end Go.Proofs.Ytjoadlfkdkeomaa
