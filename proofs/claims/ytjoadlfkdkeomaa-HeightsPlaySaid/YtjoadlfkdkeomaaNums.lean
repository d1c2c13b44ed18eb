/- Rows of numbers in memory: read, cut, appended to; those of 64 bits. -/
import Derived.Test.YtjoadlfkdkeomaaOwn
import Derived.Test.YtjoadlfkdkeomaaRows
import Derived.Laws.BytesArg
import Derived.Deep.Upon
namespace Go.Proofs.Ytjoadlfkdkeomaa
set_option linter.unusedSimpArgs false
set_option linter.unusedVariables false
set_option linter.unusedSectionVars false
open Go.RowKit

/-- a slice that reads as these numbers -/
def RN (k : IntKind) (w : World) (v : Value) (l : List Int) : Prop := ∃ (A : Option Addr) (cap : Nat), v = .slice A l.length cap ∧ l.length ≤ cap ∧ (0 < l.length → ∃ b off, A = some ⟨b, off, none⟩ ∧ b < w.heap.size ∧ ∀ (j : Nat) (h : j < l.length), w.cell? ⟨b, off + j, none⟩ = some (.int k l[j]))
theorem RN.later {k : IntKind} {w w' : World} {v : Value} {l : List Int} (h : RN k w v l) (ha : AnyLater w w') : RN k w' v l := by
  obtain ⟨A, cap, h1, h2, h3⟩ := h
  refine ⟨A, cap, h1, h2, fun h0 => ?_⟩
  obtain ⟨b, off, e, hb, hc⟩ := h3 h0
  exact ⟨b, off, e, Nat.lt_of_lt_of_le hb ha.below.size, fun j hj => (ha.below.cell hb).trans (hc j hj)⟩
theorem RN.form {k : IntKind} {w : World} {v : Value} {l : List Int} (h : RN k w v l) : ∃ A cap, v = .slice A l.length cap ∧ l.length ≤ cap := by
  obtain ⟨A, cap, h1, h2, _⟩ := h
  exact ⟨A, cap, h1, h2⟩
abbrev RI := RN .i64
theorem addr_add (b off n : Nat) : (⟨b, off, none⟩ : Addr).add n = ⟨b, off + n, none⟩ := by unfold Addr.add; split <;> simp_all
theorem RN.drop {k : IntKind} {w : World} {A : Option Addr} {cap : Nat} {l : List Int} (h : RN k w (.slice A l.length cap) l) (n : Nat) (hn : n ≤ l.length) : RN k w (.slice (if cap = n then A else A.map (fun x => x.add n)) (l.length - n) (cap - n)) (l.drop n) := by
  obtain ⟨A', cap', e, h2, h3⟩ := h
  cases e
  refine ⟨_, _, by rw [List.length_drop], by rw [List.length_drop]; omega, fun h0 => ?_⟩
  rw [List.length_drop] at h0
  obtain ⟨b, off, rfl, hb, hc⟩ := h3 (by omega)
  rw [if_neg (by omega)]
  refine ⟨b, off + n, by rw [Option.map_some, addr_add], hb, fun j hj => ?_⟩
  rw [List.length_drop] at hj
  rw [Nat.add_assoc, hc (n + j) (by omega), List.getElem_drop]
theorem RN.take {k : IntKind} {w : World} {A : Option Addr} {cap : Nat} {l : List Int} (h : RN k w (.slice A l.length cap) l) (n : Nat) (hn : n ≤ l.length) : RN k w (.slice A n cap) (l.take n) := by
  obtain ⟨A', cap', e, h2, h3⟩ := h
  cases e
  have hl : (l.take n).length = n := by rw [List.length_take]; omega
  refine ⟨A, cap, by rw [hl], by rw [hl]; omega, fun h0 => ?_⟩
  rw [hl] at h0
  obtain ⟨b, off, rfl, hb, hc⟩ := h3 (by omega)
  refine ⟨b, off, rfl, hb, fun j hj => ?_⟩
  rw [hl] at hj
  rw [hc j (by omega), List.getElem_take]

/-! ### rows that the call owns -/
abbrev ON (k : IntKind) (t : TypeId) (w : World) (B : Nat) (v : Value) (l : List Int) : Prop := w.ownsRow B t 1 v l.length (l.map (Value.int k))
theorem ON.rn {k : IntKind} {t : TypeId} {w : World} {B : Nat} {v : Value} {l : List Int} (h : ON k t w B v l) : RN k w v l := by
  rcases h.2 with ⟨rfl, h0⟩ | ⟨g, cap, cur, rfl, h1, h2, h3, h4, h5, h6⟩
  · exact ⟨none, 0, by rw [h0], by omega, fun h => by omega⟩
  · refine ⟨_, cap, rfl, h3, fun h0 => ⟨g, 0, rfl, own_lt h2, fun j hj => ?_⟩⟩
    rw [own_row h2, Nat.zero_add]
    have : (cur.toList.take (l.length * 1))[j]? = (l.map (Value.int k))[j]? := by rw [h6]
    rw [List.getElem?_take_of_lt (by omega), Array.getElem?_toList] at this
    rw [this]
    simp [hj]
theorem ON.form {k : IntKind} {t : TypeId} {w : World} {B : Nat} {v : Value} {l : List Int} (h : ON k t w B v l) : ∃ A cap, v = .slice A l.length cap ∧ l.length ≤ cap := h.rn.form
theorem ON.empty {k : IntKind} {t : TypeId} {w : World} {g B : Nat} (hB : B ≤ g) (h : w.heap[g]? = some (.cells #[] t)) : ON k t w B (.slice (some ⟨g, 0, none⟩) 0 0) [] := ⟨rfl, .inr ⟨g, 0, #[], rfl, hB, h, Nat.le_refl _, Nat.zero_le _, rfl, rfl⟩⟩
theorem ON.one {k : IntKind} {t : TypeId} {w : World} {g B : Nat} {x : Int} (hB : B ≤ g) (h : w.heap[g]? = some (.cells #[.int k x] t)) : ON k t w B (.slice (some ⟨g, 0, none⟩) 1 1) [x] := ⟨rfl, .inr ⟨g, 1, _, rfl, hB, h, Nat.le_refl _, by unfold maxLen; omega, rfl, rfl⟩⟩
theorem ON.later {k : IntKind} {t : TypeId} {w w' : World} {B : Nat} {v : Value} {l : List Int} (ha : AnyLater w w') (h : ON k t w B v l) : ON k t w' B v l := owns_later ha h
theorem ON.wide {k : IntKind} {t : TypeId} {w : World} {B C : Nat} {v : Value} {l : List Int} (hC : C ≤ B) (h : ON k t w B v l) : ON k t w C v l := by
  refine ⟨h.1, ?_⟩
  rcases h.2 with q | ⟨g, cap, cur, h0, h1, h2⟩
  · exact .inl q
  · exact .inr ⟨g, cap, cur, h0, by omega, h2⟩
theorem info_i64 : (Try.prog.info? 3).map (fun i => (i.zero, i.size, i.bytes)) = some (some (.int .i64 0), 1, 8) := by kernel_rfl
/-- append(v, u...) onto a row that the call owns -/
theorem appN {k : IntKind} {t s : TypeId} {by_ : Nat} (hs : Try.prog.underlying s = some (.slice t)) (hinfo : (Try.prog.info? t).map (fun i => (i.zero, i.size, i.bytes)) = some (some (.int k 0), 1, by_)) (hby : by_ ≤ 8)
    {w : World} {B : Nat} {v u : Value} {l m : List Int} (ho : ON k t w B v l) (hm : RN k w u m) (hB : B ≤ w.heap.size) (hlen : l.length + m.length ≤ 100000) :
    ∃ v' w', (Builtin.append_ #[s, s] s #[v, u]).run Try.prog w = .ok v' w' ∧ ON k t w' B v' (l ++ m) ∧ w.grownBy w' v.ownBlock := by
  obtain ⟨i0, hi0, hz0, hz1, hz2⟩ := info_parts hinfo
  obtain ⟨A, cap, rfl, h2, h3⟩ := hm
  cases A with
  | none =>
    have h0 : m = [] := by
      cases m with
      | nil => rfl
      | cons x t => obtain ⟨b, off, e, _⟩ := h3 (by simp); cases e
    subst h0
    obtain ⟨A2, c2, rfl, q2⟩ := ho.form
    have hsrc := Src.ofNil (P := Try.prog) w (size := i0.size) hs cap
    refine ⟨_, _, run_append_nothing (P := Try.prog) w s s s t i0 hs hi0 A2 l.length c2 q2 _ hsrc, by rw [List.append_nil]; exact ho, ⟨rfl, rfl, rfl, Nat.le_refl _, fun _ _ _ => rfl⟩⟩
  | some ad =>
    by_cases h0 : 0 < m.length
    · obtain ⟨b, off, e, hb, hc⟩ := h3 h0
      cases e
      have hnews : ∀ j x, (m.map (Value.int k))[j]? = some x → w.cell? ((⟨b, off, none⟩ : Addr).add j) = some x := by
        intro j x hx
        have hj : j < m.length := by
          rcases Nat.lt_or_ge j m.length with h | h
          · exact h
          · rw [List.getElem?_eq_none (by simpa using h)] at hx; cases hx
        rw [addr_add, hc j hj, ← hx]
        simp [hj]
      have hbb : (l.length + m.length) * by_ ≤ 140737488355328 := Nat.le_trans (Nat.mul_le_mul hlen hby) (by decide)
      obtain ⟨v', w', k1, k2, k3, _⟩ := run_append_own (P := Try.prog) w B s s t i0 (.int k 0) 1 by_ hs hi0 hz0 hz1 hz2 rfl (by decide) v l.length (l.map (Value.int k)) ho ⟨b, off, none⟩ m.length cap (m.map (Value.int k)) (by simp) hnews (by intro x hx; obtain ⟨z, _, rfl⟩ := List.mem_map.1 hx; rfl) (by unfold maxLen; omega) hbb hB
      refine ⟨v', w', k1, ?_, k3⟩
      show w'.ownsRow B t 1 v' (l ++ m).length ((l ++ m).map (Value.int k))
      rw [List.length_append, List.map_append]
      exact k2
    · obtain rfl := List.eq_nil_of_length_eq_zero (Nat.eq_zero_of_not_pos h0)
      obtain ⟨v', w', k1, k2, k3, _⟩ := run_append_own (P := Try.prog) w B s s t i0 (.int k 0) 1 by_ hs hi0 hz0 hz1 hz2 rfl (by decide) v l.length (l.map (Value.int k)) ho ad 0 cap [] (by simp) (fun j x hx => by simp at hx) (by intro x hx; simp at hx) (by unfold maxLen; omega) (Nat.le_trans (Nat.mul_le_mul (show l.length + 0 ≤ 100000 by simpa using hlen) hby) (by decide)) hB
      refine ⟨v', w', k1, ?_, k3⟩
      show w'.ownsRow B t 1 v' (l ++ []).length ((l ++ []).map (Value.int k))
      rw [List.append_nil]
      simpa using k2
theorem ON.grown {k : IntKind} {t : TypeId} {W w w2 : World} {B : Nat} {v : Value} {l : List Int} (ho : ON k t w B v l) (hW : W.heap.size ≤ B) (h : AnyLater W w) (hg : w.grownBy w2 v.ownBlock) : AnyLater W w2 :=
  grown_later h hg (fun q hq => Nat.le_trans hW (owns_base ho q hq))
/-- append(v, x), v a row of numbers of the call's own -/
theorem appI {w : World} {B : Nat} {v : Value} {l : List Int} (x : Int) (ho : ON .i64 3 w B v l) (hB : B ≤ w.heap.size) (hl : l.length ≤ 90000) :
    ∃ u w2, (Builtin.append_ #[55, 55] 55 #[v, .slice (some ⟨w.heap.size, 0, none⟩) 1 1]).run Try.prog (w.alloc (.cells #[.int .i64 x] 3)) = .ok u w2 ∧ ON .i64 3 w2 B u (l ++ [x]) ∧ ∀ W, W.heap.size ≤ B → AnyLater W w → AnyLater W w2 := by
  have a1 : AnyLater w (w.alloc (.cells #[.int .i64 x] 3)) := (AnyLater.refl w).alloc _
  have hm : RN .i64 (w.alloc (.cells #[.int .i64 x] 3)) (.slice (some ⟨w.heap.size, 0, none⟩) 1 1) [x] := (ON.one (B := 0) (Nat.zero_le _) (heap_new rfl)).rn
  have ho2 := ho.later a1
  obtain ⟨u, w2, k1, k2, k3⟩ := appN (s := 55) Try.underlying55 info_i64 (by decide) ho2 hm (Nat.le_trans hB a1.below.size) (by simp; omega)
  exact ⟨u, w2, k1, k2, fun W h1 h2 => ON.grown ho2 h1 (h2.trans a1) k3⟩
set_option maxRecDepth 100000 in
/-- v[n:], v a slice of numbers of 64 bits -/
theorem RN.cutI {w : World} {v : Value} {l : List Int} (h : RI w v l) (n : Nat) (hn : n ≤ l.length) : ∃ u, RI w u (l.drop n) ∧ ∀ w', (Instr.sliceAt 55 v (some (.int .i64 (n : Int))) none none).run Try.prog w' = .ok u w' := by
  obtain ⟨A, cap, rfl, h2, h3⟩ := h
  refine ⟨_, RN.drop ⟨A, cap, rfl, h2, h3⟩ n hn, fun w' => ?_⟩
  rw [run_sliceAt_slice w' _ _ _ _ _ Try.underlying55, run_slice_l w' _ A l.length cap Try.underlying55 .i64 (n : Int) (by omega) (by omega)]
  have hz : ∀ w, (Go.sizeOf (Try.prog.elem 55)).run Try.prog w = .ok 1 w := fun w => by simp [go_sem]
  rw [hz]
  simp [Result.andThen, sliced]
set_option maxRecDepth 100000 in
/-- v[:n] -/
theorem RN.uptoI {w : World} {v : Value} {l : List Int} (h : RI w v l) (n : Nat) (hn : n ≤ l.length) : ∃ A cap, RI w (.slice A n cap) (l.take n) ∧ ∀ w', (Instr.sliceAt 55 v none (some (.int .i64 (n : Int))) none).run Try.prog w' = .ok (.slice A n cap) w' := by
  obtain ⟨A, cap, rfl, h2, h3⟩ := h
  have hz : ∀ w, (Go.sizeOf (Try.prog.elem 55)).run Try.prog w = .ok 1 w := fun w => by simp [go_sem]
  have key : ∀ w', (Instr.sliceAt 55 (.slice A l.length cap) none (some (.int .i64 (n : Int))) none).run Try.prog w' = .ok (.slice (if cap = 0 then A else A.map (fun x => x.add 0)) n cap) w' := fun w' => by
    rw [run_sliceAt_slice w' _ _ _ _ _ Try.underlying55, run_slice_h w' _ A l.length cap Try.underlying55 .i64 (n : Int) (by omega) (by omega)]
    rw [hz]
    simp [Result.andThen, sliced]
  have eA : (if cap = 0 then A else A.map (fun x => x.add 0)) = A := by
    split
    · rfl
    · cases A with
      | none => rfl
      | some a => simp [Addr.add]
  rw [eA] at key
  exact ⟨A, cap, RN.take ⟨A, cap, rfl, h2, h3⟩ n hn, key⟩
/-- append([]int{}, v...): a row of the call's own -/
theorem copyI {w : World} {v : Value} {l : List Int} (hr : RI w v l) (hl : l.length ≤ 90000) :
    ∃ u w2, (Builtin.append_ #[55, 55] 55 #[.slice (some ⟨w.heap.size, 0, none⟩) 0 0, v]).run Try.prog (w.alloc (.cells #[] 3)) = .ok u w2 ∧ AnyLater w w2 ∧ ON .i64 3 w2 w.heap.size u l := by
  have a1 : AnyLater w (w.alloc (.cells #[] 3)) := (AnyLater.refl w).alloc _
  have ho : ON .i64 3 (w.alloc (.cells #[] 3)) w.heap.size (.slice (some ⟨w.heap.size, 0, none⟩) 0 0) [] := ON.empty (Nat.le_refl _) (heap_new rfl)
  obtain ⟨u, w2, k1, k2, k3⟩ := appN (s := 55) Try.underlying55 info_i64 (by decide) ho (hr.later a1) a1.below.size (by simp; omega)
  exact ⟨u, w2, k1, ON.grown ho (Nat.le_refl _) a1 k3, k2⟩
end Go.Proofs.Ytjoadlfkdkeomaa
