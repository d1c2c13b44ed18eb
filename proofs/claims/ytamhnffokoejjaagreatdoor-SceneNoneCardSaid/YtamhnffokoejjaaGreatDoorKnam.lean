/- what the proof stands on: Flat Put -/
import Derived.Deep.Upon
import Derived.Test.YtamhnffokoejjaaGreatDoorKnaf
import Derived.Test.YtamhnffokoejjaaGreatDoorRows
import Derived.Laws.IdiomCopy
import Derived.Laws.OwnMore
namespace Go.Proofs.YtamhnffokoejjaaGreatDoor
set_option linter.unusedSimpArgs false
set_option linter.unusedVariables false
set_option linter.unusedSectionVars false
open Go.RowKit
structure Flat (α : Type) where
  fl : α → List Value
  k : Nat
  pos : 0 < k
  len : ∀ a, (fl a).length = k
  one : ∀ a, ∀ u ∈ fl a, u.oneCell' = true
section
variable {α : Type} (F : Flat α)
def Flat.row (l : List α) : List Value := l.flatMap F.fl
theorem Flat.row_nil : F.row [] = [] := rfl
theorem Flat.row_cons (a : α) (l : List α) : F.row (a :: l) = F.fl a ++ F.row l := rfl
theorem Flat.row_append (a b : List α) : F.row (a ++ b) = F.row a ++ F.row b := by unfold Flat.row; rw [List.flatMap_append]
theorem Flat.row_length : ∀ l : List α, (F.row l).length = l.length * F.k
  | [] => by simp [Flat.row]
  | b :: l => by rw [F.row_cons, List.length_append, F.len, row_length l, List.length_cons, Nat.add_mul, Nat.one_mul, Nat.add_comm]
theorem Flat.row_get : ∀ (l : List α) (j i : Nat), i < F.k → (F.row l)[j * F.k + i]? = (l[j]?).bind fun a => (F.fl a)[i]?
  | [], j, i, _ => by simp [Flat.row]
  | b :: l, 0, i, h => by
    rw [F.row_cons, Nat.zero_mul, Nat.zero_add, List.getElem?_append_left (by rw [F.len]; exact h)]; rfl
  | b :: l, j + 1, i, h => by
    rw [F.row_cons, List.getElem?_append_right (by rw [F.len, Nat.add_mul]; omega), F.len, show (j + 1) * F.k + i - F.k = j * F.k + i by rw [Nat.add_mul]; omega, row_get l j i h]; rfl
theorem Flat.row_one (l : List α) : ∀ u ∈ F.row l, u.oneCell' = true := by
  intro u hu
  obtain ⟨b, _, hb⟩ := List.mem_flatMap.1 hu
  exact F.one b u hb
theorem Flat.row_inj_at {l : List α} {j : Nat} (h : j < l.length) {i : Nat} {x : Value} (hx : (F.fl l[j])[i]? = some x) : (F.row l)[j * F.k + i]? = some x := by
  have hi : i < F.k := by rw [← F.len l[j]]; exact (List.getElem?_eq_some_iff.1 hx).1
  rw [F.row_get l j i hi, List.getElem?_eq_getElem h]
  exact hx
def FR (w : World) (v : Value) (l : List α) : Prop := ∃ (A : Option Addr) (cap : Nat), v = .slice A l.length cap ∧ l.length ≤ cap ∧ (0 < l.length → ∃ b off, A = some ⟨b, off, none⟩ ∧ b < w.heap.size ∧ ∀ (j : Nat) (h : j < l.length) (i : Nat) (x : Value), (F.fl l[j])[i]? = some x → w.cell? ⟨b, off + j * F.k + i, none⟩ = some x)
variable {F}
theorem FR.later {w w' : World} {v : Value} {l : List α} (h : FR F w v l) (ha : AnyLater w w') : FR F w' v l := by
  obtain ⟨A, cap, h1, h2, h3⟩ := h
  refine ⟨A, cap, h1, h2, fun h0 => ?_⟩
  obtain ⟨b, off, e, hb, hc⟩ := h3 h0
  exact ⟨b, off, e, Nat.lt_of_lt_of_le hb ha.below.size, fun j hj i x hx => (ha.below.cell hb).trans (hc j hj i x hx)⟩
theorem FR.form {w : World} {v : Value} {l : List α} (h : FR F w v l) : ∃ A cap, v = .slice A l.length cap ∧ l.length ≤ cap := by
  obtain ⟨A, cap, h1, h2, _⟩ := h
  exact ⟨A, cap, h1, h2⟩
theorem FR.void (w : World) (A : Option Addr) (cap : Nat) : FR F w (.slice A 0 cap) [] := ⟨A, cap, rfl, Nat.zero_le _, fun h => absurd h (by simp)⟩
theorem FR.at {w : World} {A : Option Addr} {n cap : Nat} {l : List α} (h : FR F w (.slice A n cap) l) (j : Nat) (hj : j < l.length) : ∃ b off, A = some ⟨b, off, none⟩ ∧ b < w.heap.size ∧ ∀ (i : Nat) (x : Value), (F.fl l[j])[i]? = some x → w.cell? ⟨b, off + j * F.k + i, none⟩ = some x := by
  obtain ⟨A', cap', e, h2, h3⟩ := h
  cases e
  obtain ⟨b, off, e, hb, hc⟩ := h3 (by omega)
  exact ⟨b, off, e, hb, hc j hj⟩
theorem faddr_add (b off n : Nat) : (⟨b, off, none⟩ : Addr).add n = ⟨b, off + n, none⟩ := by unfold Addr.add; split <;> simp_all
theorem FR.drop {w : World} {A : Option Addr} {cap : Nat} {l : List α} (h : FR F w (.slice A l.length cap) l) (n : Nat) (hn : n ≤ l.length) : FR F w (.slice (if cap = n then A else A.map (fun x => x.add (n * F.k))) (l.length - n) (cap - n)) (l.drop n) := by
  obtain ⟨A', cap', e, h2, h3⟩ := h
  cases e
  refine ⟨_, _, by rw [List.length_drop], by rw [List.length_drop]; omega, fun h0 => ?_⟩
  rw [List.length_drop] at h0
  obtain ⟨b, off, rfl, hb, hc⟩ := h3 (by omega)
  rw [if_neg (by omega)]
  refine ⟨b, off + n * F.k, by rw [Option.map_some, faddr_add], hb, fun j hj i x hx => ?_⟩
  rw [List.length_drop] at hj
  rw [List.getElem_drop] at hx
  have := hc (n + j) (by omega) i x hx
  rw [Nat.add_mul] at this
  rwa [show off + n * F.k + j * F.k + i = off + (n * F.k + j * F.k) + i by omega]
theorem FR.take {w : World} {A : Option Addr} {cap : Nat} {l : List α} (h : FR F w (.slice A l.length cap) l) (n : Nat) (hn : n ≤ l.length) : FR F w (.slice A n cap) (l.take n) := by
  obtain ⟨A', cap', e, h2, h3⟩ := h
  cases e
  have hl : (l.take n).length = n := by rw [List.length_take]; omega
  refine ⟨A, cap, by rw [hl], by rw [hl]; omega, fun h0 => ?_⟩
  rw [hl] at h0
  obtain ⟨b, off, rfl, hb, hc⟩ := h3 (by omega)
  refine ⟨b, off, rfl, hb, fun j hj i x hx => ?_⟩
  rw [hl] at hj
  rw [List.getElem_take] at hx
  exact hc j (by omega) i x hx
variable (F) in
abbrev OF (t : TypeId) (w : World) (B : Nat) (v : Value) (l : List α) : Prop := w.ownsRow B t F.k v l.length (F.row l)
theorem OF.fr {t : TypeId} {w : World} {B : Nat} {v : Value} {l : List α} (h : OF F t w B v l) : FR F w v l := by
  rcases h.2 with ⟨rfl, h0⟩ | ⟨g, cap, cur, rfl, h2, h3, h4, h5, h6, h7⟩
  · refine ⟨none, 0, by rw [h0], by omega, fun hp => by omega⟩
  · refine ⟨some ⟨g, 0, none⟩, cap, rfl, h4, fun _ => ⟨g, 0, rfl, own_lt h3, fun j hj i x hx => ?_⟩⟩
    have e : ∀ k, k < l.length * F.k → cur[k]? = (F.row l)[k]? := fun k hk => by
      have : (cur.toList.take (l.length * F.k))[k]? = (F.row l)[k]? := by rw [h7]
      rw [List.getElem?_take_of_lt hk] at this
      simpa using this
    have hr := F.row_inj_at hj hx
    have hk : j * F.k + i < l.length * F.k := by rw [← F.row_length]; exact (List.getElem?_eq_some_iff.1 hr).1
    rw [Nat.zero_add, own_row h3, e _ hk, hr]
theorem OF.later {t : TypeId} {w w' : World} {B : Nat} {v : Value} {l : List α} (ha : AnyLater w w') (h : OF F t w B v l) : OF F t w' B v l := owns_later ha h
theorem OF.form {t : TypeId} {w : World} {B : Nat} {v : Value} {l : List α} (h : OF F t w B v l) : ∃ A cap, v = .slice A l.length cap ∧ l.length ≤ cap := (OF.fr h).form
theorem OF.wide {t : TypeId} {w : World} {B C : Nat} {v : Value} {l : List α} (hC : C ≤ B) (h : OF F t w B v l) : OF F t w C v l := by
  refine ⟨h.1, ?_⟩
  rcases h.2 with q | ⟨g, cap, cur, h0, h1, h2⟩
  · exact .inl q
  · exact .inr ⟨g, cap, cur, h0, by omega, h2⟩
theorem OF.grown {t : TypeId} {W w w2 : World} {B : Nat} {v : Value} {l : List α} (ho : OF F t w B v l) (hW : W.heap.size ≤ B) (h : AnyLater W w) (hg : w.grownBy w2 v.ownBlock) : AnyLater W w2 :=
  grown_later h hg (fun q hq => Nat.le_trans hW (owns_base ho q hq))
theorem OF.empty {t : TypeId} {w : World} {g B : Nat} (hB : B ≤ g) (h : w.heap[g]? = some (.cells #[] t)) : OF F t w B (.slice (some ⟨g, 0, none⟩) 0 0) [] := ⟨by simp [Flat.row], .inr ⟨g, 0, #[], rfl, hB, h, Nat.le_refl _, Nat.zero_le _, by simp, by simp [Flat.row]⟩⟩
theorem OF.nil (t : TypeId) (w : World) (B : Nat) : OF F t w B (.slice none 0 0) [] := ⟨by simp [Flat.row], .inl ⟨rfl, rfl⟩⟩
theorem OF.one {t : TypeId} {w : World} {g B : Nat} {r : α} (hB : B ≤ g) (h : w.heap[g]? = some (.cells (F.fl r).toArray t)) : OF F t w B (.slice (some ⟨g, 0, none⟩) 1 1) [r] :=
  ⟨by rw [F.row_length], .inr ⟨g, 1, _, rfl, hB, h, Nat.le_refl _, by unfold maxLen; omega, by simp [F.len], by rw [F.row_cons, F.row_nil, List.append_nil]; apply List.take_of_length_le; simp [F.len]⟩⟩
theorem FR.cells {w : World} {b off : Nat} {l : List α} (hc : ∀ (j : Nat) (h : j < l.length) (i : Nat) (x : Value), (F.fl l[j])[i]? = some x → w.cell? ⟨b, off + j * F.k + i, none⟩ = some x) :
    ∀ (j : Nat) (u : Value), (F.row l)[j]? = some u → w.cell? ((⟨b, off, none⟩ : Addr).add j) = some u := by
  intro j u hu
  have hj : j < l.length * F.k := by
    rcases Nat.lt_or_ge j (l.length * F.k) with h | h
    · exact h
    · rw [List.getElem?_eq_none (by rw [F.row_length]; exact h)] at hu; cases hu
  have hk : j / F.k < l.length := (Nat.div_lt_iff_lt_mul F.pos).2 hj
  have hm : j % F.k < F.k := Nat.mod_lt _ F.pos
  have e : j = j / F.k * F.k + j % F.k := by rw [Nat.mul_comm]; exact (Nat.div_add_mod j F.k).symm
  rw [faddr_add]
  generalize j / F.k = q at *
  generalize j % F.k = i at *
  subst e
  rw [F.row_get l q i hm, List.getElem?_eq_getElem hk] at hu
  rw [← Nat.add_assoc]
  exact hc q hk i u hu
variable (F) in
structure FlatT (t s : TypeId) (z : Value) (bytes : Nat) : Prop where
  und : Tryz.prog.underlying s = some (.slice t)
  el : Tryz.prog.elem s = t
  info : (Tryz.prog.info? t).map (fun i => (i.zero, i.size, i.bytes)) = some (some z, F.k, bytes)
  size : ∀ w, (Go.sizeOf (Tryz.prog.elem s)).run Tryz.prog w = .ok F.k w
  zero : z.cells.size = F.k
  few : bytes ≤ 700000000
theorem FlatT.und' {t s : TypeId} {z : Value} {bytes : Nat} (T : FlatT F t s z bytes) : Tryz.prog.underlying s = some (.slice (Tryz.prog.elem s)) := by rw [T.el]; exact T.und
theorem FlatT.bound {t s : TypeId} {z : Value} {bytes : Nat} (T : FlatT F t s z bytes) {n : Nat} (h : n ≤ 200000) : n * bytes ≤ 140737488355328 := by
  have := Nat.mul_le_mul h T.few
  omega
theorem appF {t s : TypeId} {z : Value} {bytes : Nat} (T : FlatT F t s z bytes) {w : World} {B : Nat} {v u : Value} {l m : List α} (ho : OF F t w B v l) (hm : FR F w u m) (hB : B ≤ w.heap.size) (hlen : l.length + m.length ≤ 200000) :
    ∃ v' w', (Builtin.append_ #[s, s] s #[v, u]).run Tryz.prog w = .ok v' w' ∧ OF F t w' B v' (l ++ m) ∧ w.grownBy w' v.ownBlock := by
  obtain ⟨i0, hi0, hz0, hz1, hz2⟩ := info_parts T.info
  obtain ⟨A, cap, rfl, h2, h3⟩ := hm
  cases A with
  | none =>
    have h0 : m = [] := by
      cases m with
      | nil => rfl
      | cons x t => obtain ⟨b, off, e, _⟩ := h3 (by simp); cases e
    subst h0
    obtain ⟨A2, c2, rfl, q2⟩ := ho.form
    have hsrc := Src.ofNil (P := Tryz.prog) w (size := i0.size) T.und cap
    refine ⟨_, _, run_append_nothing (P := Tryz.prog) w s s s t i0 T.und hi0 A2 l.length c2 q2 _ hsrc, by rw [List.append_nil]; exact ho, ⟨rfl, rfl, rfl, Nat.le_refl _, fun _ _ _ => rfl⟩⟩
  | some ad =>
    by_cases h0 : 0 < m.length
    · obtain ⟨b, off, e, hb, hc⟩ := h3 h0
      cases e
      obtain ⟨v', w', k1, k2, k3, _⟩ := run_append_own (P := Tryz.prog) w B s s t i0 z F.k bytes T.und hi0 hz0 hz1 hz2 T.zero F.pos v l.length (F.row l) ho ⟨b, off, none⟩ m.length cap (F.row m) (by rw [F.row_length]) (FR.cells hc) (F.row_one m) (by unfold maxLen; omega) (T.bound hlen) hB
      refine ⟨v', w', k1, ?_, k3⟩
      show w'.ownsRow B t F.k v' (l ++ m).length (F.row (l ++ m))
      rw [List.length_append, F.row_append]
      exact k2
    · obtain rfl := List.eq_nil_of_length_eq_zero (Nat.eq_zero_of_not_pos h0)
      obtain ⟨v', w', k1, k2, k3, _⟩ := run_append_own (P := Tryz.prog) w B s s t i0 z F.k bytes T.und hi0 hz0 hz1 hz2 T.zero F.pos v l.length (F.row l) ho ad 0 cap [] (by simp) (fun j x hx => by simp at hx) (by intro x hx; simp at hx) (by unfold maxLen; simp at hlen; omega) (T.bound (by simpa using hlen)) hB
      refine ⟨v', w', k1, ?_, k3⟩
      show w'.ownsRow B t F.k v' (l ++ []).length (F.row (l ++ []))
      rw [List.append_nil]
      simpa using k2
theorem appF1 {t s : TypeId} {z : Value} {bytes : Nat} (T : FlatT F t s z bytes) {w : World} {B : Nat} {v : Value} {l : List α} (r : α) {cs : Array Value} (hr : (F.fl r).toArray = cs) (ho : OF F t w B v l) (hB : B ≤ w.heap.size) (hl : l.length ≤ 190000) :
    ∃ u w2, (Builtin.append_ #[s, s] s #[v, .slice (some ⟨w.heap.size, 0, none⟩) 1 1]).run Tryz.prog (w.alloc (.cells cs t)) = .ok u w2 ∧ OF F t w2 B u (l ++ [r]) ∧ (∀ W, W.heap.size ≤ B → AnyLater W w → AnyLater W w2) ∧ (w.alloc (.cells cs t)).grownBy w2 v.ownBlock := by
  subst hr
  have a1 : AnyLater w (w.alloc (.cells (F.fl r).toArray t)) := (AnyLater.refl w).alloc _
  have hm : FR F (w.alloc (.cells (F.fl r).toArray t)) (.slice (some ⟨w.heap.size, 0, none⟩) 1 1) [r] := OF.fr (OF.one (B := 0) (Nat.zero_le _) (heap_new rfl))
  have ho2 := OF.later a1 ho
  obtain ⟨u, w2, k1, k2, k3⟩ := appF T ho2 hm (Nat.le_trans hB a1.below.size) (by simp; omega)
  exact ⟨u, w2, k1, k2, fun W h1 h2 => OF.grown ho2 h1 (h2.trans a1) k3, k3⟩
theorem copyF {t s : TypeId} {z : Value} {bytes : Nat} (T : FlatT F t s z bytes) {w : World} {v : Value} {l : List α} (hr : FR F w v l) (hl : l.length ≤ 190000) :
    ∃ u w2, (Builtin.append_ #[s, s] s #[.slice (some ⟨w.heap.size, 0, none⟩) 0 0, v]).run Tryz.prog (w.alloc (.cells #[] t)) = .ok u w2 ∧ AnyLater w w2 ∧ OF F t w2 w.heap.size u l := by
  have a1 : AnyLater w (w.alloc (.cells #[] t)) := (AnyLater.refl w).alloc _
  have ho : OF F t (w.alloc (.cells #[] t)) w.heap.size (.slice (some ⟨w.heap.size, 0, none⟩) 0 0) [] := OF.empty (Nat.le_refl _) (heap_new rfl)
  obtain ⟨u, w2, k1, k2, k3⟩ := appF T ho (hr.later a1) a1.below.size (by simp; omega)
  exact ⟨u, w2, k1, OF.grown ho (Nat.le_refl _) a1 k3, k2⟩
set_option maxRecDepth 100000 in
theorem FR.partF {t s : TypeId} {z : Value} {bytes : Nat} (T : FlatT F t s z bytes) {w : World} {v : Value} {l : List α} (h : FR F w v l) (i j : Nat) (hi : i ≤ j) (hj : j ≤ l.length) : ∃ u, FR F w u ((l.take j).drop i) ∧ ∀ w', (Instr.sliceAt s v (some (.int .i64 (i : Int))) (some (.int .i64 (j : Int))) none).run Tryz.prog w' = .ok u w' := by
  obtain ⟨A, cap, rfl, h2, h3⟩ := h
  have hl : (l.take j).length = j := by rw [List.length_take]; omega
  have h1 := FR.take ⟨A, cap, rfl, h2, h3⟩ j hj
  have k := FR.drop (by rw [hl]; exact h1) i (by omega)
  rw [hl] at k
  refine ⟨_, k, fun w' => ?_⟩
  rw [run_sliceAt_slice w' _ _ _ _ _ T.und', run_slice_lh w' _ A l.length cap T.und' .i64 .i64 (i : Int) (j : Int) (by omega) (by omega) (by omega)]
  rw [T.size]
  simp [Result.andThen, sliced]
end
end Go.Proofs.YtamhnffokoejjaaGreatDoor
namespace Go.Proofs.YtamhnffokoejjaaGreatDoor
set_option linter.unusedSimpArgs false
set_option linter.unusedVariables false
set_option linter.unusedSectionVars false
open Go.RowKit
theorem put_cells {g : Nat} {e : TypeId} : ∀ (vs : List Value) (o : Nat) (w : World) (cur : Array Value), w.heap[g]? = some (.cells cur e) → o + vs.length ≤ cur.size → ∃ cur', (w.setCells g o vs).heap[g]? = some (.cells cur' e) ∧ cur'.size = cur.size ∧
    ∀ k, cur'[k]? = if o ≤ k ∧ k < o + vs.length then vs[k - o]? else cur[k]?
  | [], o, w, cur, h, _ => ⟨cur, h, rfl, fun k => by rw [if_neg (by simp)]⟩
  | v :: vs, o, w, cur, h, hs => by
    rw [List.length_cons] at hs
    obtain ⟨c', h1, h2, h3⟩ := put_cells vs (o + 1) (w.setCell ⟨g, o, none⟩ v) _ (heap_at h rfl) (by rw [Array.size_setIfInBounds]; omega)
    refine ⟨c', h1, by simpa using h2, fun k => ?_⟩
    rw [h3 k, List.length_cons]
    by_cases q : k = o
    · subst q
      rw [if_neg (by omega), if_pos (by omega), Nat.sub_self, Array.getElem?_setIfInBounds_self, if_pos (by omega)]; rfl
    · rw [Array.getElem?_setIfInBounds_ne (fun e => q e.symm)]
      by_cases q2 : o + 1 ≤ k ∧ k < o + 1 + vs.length
      · rw [if_pos q2, if_pos (by omega), show k - o = (k - (o + 1)) + 1 by omega, List.getElem?_cons_succ]
      · rw [if_neg q2, if_neg (by omega)]
theorem owns_setCells {B : Nat} {e t : TypeId} {size g : Nat} {v : Value} {n : Nat} {xs : List Value} (hne : t ≠ e) : ∀ (vs : List Value) (o : Nat) (w : World) (cs : Array Value), w.heap[g]? = some (.cells cs t) → w.ownsRow B e size v n xs → (w.setCells g o vs).ownsRow B e size v n xs
  | [], _, _, _, _, h => h
  | x :: vs, o, w, cs, hg, h => owns_setCells hne vs (o + 1) _ _ (heap_at hg rfl) (owns_set hg hne x o h)
theorem any_setCells {W : World} {g : Nat} (hg : W.heap.size ≤ g) : ∀ (vs : List Value) (o : Nat) (w : World), AnyLater W w → AnyLater W (w.setCells g o vs)
  | [], _, _, h => h
  | v :: vs, o, w, h => any_setCells hg vs (o + 1) _ (h.setCell (p := ⟨g, o, none⟩) hg v)
section
variable {α : Type} {F : Flat α}
theorem row_set {l : List α} {i : Nat} (a : α) (h : i < l.length) (k : Nat) (hk : k < l.length * F.k) : (F.row (l.set i a))[k]? = if i * F.k ≤ k ∧ k < i * F.k + F.k then (F.fl a)[k - i * F.k]? else (F.row l)[k]? := by
  have hq : k / F.k < l.length := (Nat.div_lt_iff_lt_mul F.pos).2 hk
  have hm : k % F.k < F.k := Nat.mod_lt _ F.pos
  have e : k = k / F.k * F.k + k % F.k := by rw [Nat.mul_comm]; exact (Nat.div_add_mod k F.k).symm
  generalize k / F.k = q at *
  generalize k % F.k = m at *
  subst e
  rw [F.row_get _ q m hm, F.row_get _ q m hm]
  by_cases hi : i = q
  · subst hi
    rw [List.getElem?_set_self h, if_pos (by omega), Nat.add_sub_cancel_left]; rfl
  · rw [List.getElem?_set_ne hi, if_neg]
    rintro ⟨h1, h2⟩
    rcases Nat.lt_or_gt_of_ne hi with h3 | h3
    · have := Nat.mul_le_mul_right F.k (show i + 1 ≤ q from h3)
      rw [Nat.add_mul, Nat.one_mul] at this
      omega
    · have := Nat.mul_le_mul_right F.k (show q + 1 ≤ i from h3)
      rw [Nat.add_mul, Nat.one_mul] at this
      omega
theorem OF.put {t : TypeId} {w : World} {B g n cap : Nat} {l : List α} {i : Nat} (a : α) (h : OF F t w B (.slice (some ⟨g, 0, none⟩) n cap) l) (hi : i < l.length) : OF F t (w.setCells g (i * F.k) (F.fl a)) B (.slice (some ⟨g, 0, none⟩) n cap) (l.set i a) := by
  refine ⟨by rw [F.row_length], ?_⟩
  rcases h.2 with ⟨e, _⟩ | ⟨g', cap', cur, e, h2, h3, h4, h5, h6, h7⟩
  · cases e
  · cases e
    have hb : i * F.k + F.k ≤ l.length * F.k := by
      have := Nat.mul_le_mul_right F.k (show i + 1 ≤ l.length from hi)
      rwa [Nat.add_mul, Nat.one_mul] at this
    have hb2 : l.length * F.k ≤ cap * F.k := Nat.mul_le_mul_right F.k h4
    obtain ⟨cur', k1, k2, k3⟩ := put_cells (F.fl a) (i * F.k) w cur h3 (by rw [F.len, h6]; omega)
    refine .inr ⟨g, cap, cur', by rw [List.length_set], h2, k1, by rw [List.length_set]; exact h4, h5, by rw [k2, h6], ?_⟩
    rw [List.length_set]
    apply List.ext_getElem?
    intro k
    by_cases hk : k < l.length * F.k
    · rw [List.getElem?_take_of_lt hk, Array.getElem?_toList, k3 k, row_set a hi k hk, F.len]
      split
      · rfl
      · have : (cur.toList.take (l.length * F.k))[k]? = (F.row l)[k]? := by rw [h7]
        rw [List.getElem?_take_of_lt hk, Array.getElem?_toList] at this
        exact this
    · rw [List.getElem?_eq_none (by rw [List.length_take]; omega), List.getElem?_eq_none (by rw [F.row_length, List.length_set]; omega)]
theorem OF.where {t : TypeId} {w : World} {B : Nat} {v : Value} {l : List α} (h : OF F t w B v l) (h0 : 0 < l.length) : ∃ g cap cur, v = .slice (some ⟨g, 0, none⟩) l.length cap ∧ B ≤ g ∧ w.heap[g]? = some (.cells cur t) ∧ ∀ (j : Nat) (hj : j < l.length) (i : Nat), i < F.k → cur[j * F.k + i]? = (F.fl l[j])[i]? := by
  rcases h.2 with ⟨e, e0⟩ | ⟨g, cap, cur, e, h2, h3, h4, h5, h6, h7⟩
  · omega
  · refine ⟨g, cap, cur, e, h2, h3, fun j hj i hi => ?_⟩
    have hk : j * F.k + i < l.length * F.k := by
      have := Nat.mul_le_mul_right F.k (show j + 1 ≤ l.length from hj)
      rw [Nat.add_mul, Nat.one_mul] at this
      omega
    have : (cur.toList.take (l.length * F.k))[j * F.k + i]? = (F.row l)[j * F.k + i]? := by rw [h7]
    rw [List.getElem?_take_of_lt hk, Array.getElem?_toList, F.row_get l j i hi, List.getElem?_eq_getElem hj] at this
    exact this
theorem OF.field {t : TypeId} {w : World} {B g n cap : Nat} {l : List α} {i : Nat} (a : α) (m : Nat) (u : Value) (h : OF F t w B (.slice (some ⟨g, 0, none⟩) n cap) l) (hi : i < l.length) (hm : m < F.k) (ha : F.fl a = (F.fl l[i]).set m u) : OF F t (w.setCell ⟨g, i * F.k + m, none⟩ u) B (.slice (some ⟨g, 0, none⟩) n cap) (l.set i a) := by
  refine ⟨by rw [F.row_length], ?_⟩
  rcases h.2 with ⟨e, _⟩ | ⟨g', cap', cur, e, h2, h3, h4, h5, h6, h7⟩
  · cases e
  · cases e
    have hb : i * F.k + F.k ≤ l.length * F.k := by
      have := Nat.mul_le_mul_right F.k (show i + 1 ≤ l.length from hi)
      rwa [Nat.add_mul, Nat.one_mul] at this
    have hb2 : l.length * F.k ≤ cap * F.k := Nat.mul_le_mul_right F.k h4
    obtain ⟨cur', k1, k2, k3⟩ := put_cells [u] (i * F.k + m) w cur h3 (by rw [h6]; simp; omega)
    refine .inr ⟨g, cap, cur', by rw [List.length_set], h2, k1, by rw [List.length_set]; exact h4, h5, by rw [k2, h6], ?_⟩
    rw [List.length_set]
    apply List.ext_getElem?
    intro k
    by_cases hk : k < l.length * F.k
    · have old : cur[k]? = (F.row l)[k]? := by
        have : (cur.toList.take (l.length * F.k))[k]? = (F.row l)[k]? := by rw [h7]
        rw [List.getElem?_take_of_lt hk, Array.getElem?_toList] at this
        exact this
      rw [List.getElem?_take_of_lt hk, Array.getElem?_toList, k3 k, row_set a hi k hk]
      by_cases q : i * F.k ≤ k ∧ k < i * F.k + F.k
      · rw [if_pos q, ha]
        by_cases q2 : k = i * F.k + m
        · subst q2
          rw [if_pos (by simp), Nat.add_sub_cancel_left, Nat.sub_self, List.getElem?_set_self (by rw [F.len]; exact hm)]; rfl
        · rw [if_neg (by simp; omega), List.getElem?_set_ne (by omega), old]
          have := F.row_get l i (k - i * F.k) (by omega)
          rw [show i * F.k + (k - i * F.k) = k by omega, List.getElem?_eq_getElem hi] at this
          exact this
      · rw [if_neg q, if_neg (by simp; omega), old]
    · rw [List.getElem?_eq_none (by rw [List.length_take]; omega), List.getElem?_eq_none (by rw [F.row_length, List.length_set]; omega)]
theorem makeF {t s : TypeId} {z : Value} {bytes : Nat} (T : FlatT F t s z bytes) (a : α) (ha : z.cells.toList = F.fl a) (n : Nat) (hn : n ≤ 190000) (w : World) :
    ∃ w2, (Instr.makeSlice s (.int .i64 (n : Int)) (.int .i64 (n : Int))).run Tryz.prog w = .ok (.slice (some ⟨w.heap.size, 0, none⟩) n n) w2 ∧ AnyLater w w2 ∧ OF F t w2 w.heap.size (.slice (some ⟨w.heap.size, 0, none⟩) n n) (List.replicate n a) := by
  obtain ⟨i0, hi0, hz0, hz1, hz2⟩ := info_parts T.info
  obtain ⟨w2, k1, k2, k3⟩ := run_make_full (P := Tryz.prog) w w.heap.size s t i0 z F.k T.und hi0 hz0 hz1 .i64 .i64 n (by rw [hz2, Nat.mul_comm]; have := T.bound (n := n) (by omega); omega) (by unfold maxLen; omega) (Nat.le_refl _)
  refine ⟨w2, k1, grown_later (AnyLater.refl w) k3 (fun q hq => by cases hq), ?_⟩
  have hs := T.zero
  have e : (madeCells z.cells (n * F.k)).toList = F.row (List.replicate n a) := by
    apply List.ext_getElem?
    intro q
    rcases Nat.lt_or_ge q (n * F.k) with hq | hq
    · have hk : q / F.k < n := (Nat.div_lt_iff_lt_mul F.pos).2 hq
      have hm : q % F.k < F.k := Nat.mod_lt _ F.pos
      have e2 : q = q / F.k * F.k + q % F.k := by rw [Nat.mul_comm]; exact (Nat.div_add_mod q F.k).symm
      have h1 := F.row_get (List.replicate n a) (q / F.k) (q % F.k) hm
      rw [← e2, List.getElem?_replicate, if_pos hk, Option.bind_some, ← ha] at h1
      have hmz : q % F.k < z.cells.size := by rw [hs]; exact hm
      rw [h1, Array.getElem?_toList, Array.getElem?_toList]
      simp [madeCells, hq, hs, hm, Array.getElem?_eq_getElem hmz, getElem!_def]
    · rw [List.getElem?_eq_none (by simp [madeCells]; omega), List.getElem?_eq_none (by rw [F.row_length, List.length_replicate]; exact hq)]
  rw [e] at k2
  show w2.ownsRow _ _ _ _ (List.replicate n a).length _
  rw [List.length_replicate]
  exact k2
end
end Go.Proofs.YtamhnffokoejjaaGreatDoor
