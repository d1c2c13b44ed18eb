/- rope: pieces and trees as they lie in memory; what is noted of a part, tied, told to be deeper: by contract. No condition but that a text is short. -/
import Derived.Test.YtiicaldnegcdiaaGreatRopA
import Derived.Test.YtiicaldnegcdiaaGreatWild
import Derived.Deep.QuietTactic
import Derived.BigQuiet
import Derived.Laws.StructEq
namespace Go.Proofs.YtiicaldnegcdiaaGreat
set_option linter.unusedSimpArgs false
set_option linter.unusedVariables false
set_option linter.unusedSectionVars false
open Go.RowKit

/-! ### rows of numbers in memory of their type -/
def RT (k : IntKind) (t : TypeId) (w : World) (v : Value) (l : List Int) : Prop := ∃ (A : Option Addr) (cap : Nat), v = .slice A l.length cap ∧ l.length ≤ cap ∧
  (0 < l.length → ∃ b off cs m, A = some ⟨b, off, none⟩ ∧ w.heap[b]? = some (.cells cs t m) ∧ ∀ (j : Nat) (h : j < l.length), cs[off + j]? = some (.int k l[j]))
theorem RT.rn {k : IntKind} {t : TypeId} {w : World} {v : Value} {l : List Int} (h : RT k t w v l) : RN k w v l := by
  obtain ⟨A, cap, h1, h2, h3⟩ := h
  refine ⟨A, cap, h1, h2, fun h0 => ?_⟩
  obtain ⟨b, off, cs, m, e, hb, hc⟩ := h3 h0
  refine ⟨b, off, e, own_lt hb, fun j hj => ?_⟩
  rw [← hc j hj]
  simp [World.cell?, hb]
theorem RT.later {k : IntKind} {t : TypeId} {w w' : World} {v : Value} {l : List Int} (h : RT k t w v l) (ha : AnyLater w w') : RT k t w' v l := by
  obtain ⟨A, cap, h1, h2, h3⟩ := h
  refine ⟨A, cap, h1, h2, fun h0 => ?_⟩
  obtain ⟨b, off, cs, m, e, hb, hc⟩ := h3 h0
  exact ⟨b, off, cs, m, e, any_own ha hb, hc⟩
/-- a store into memory of another type -/
theorem RT.far {k : IntKind} {t s : TypeId} {w : World} {v x : Value} {l : List Int} {g i : Nat} {cs : Array Value} {m : Nat × Nat} (h : RT k t w v l) (hg : w.heap[g]? = some (.cells cs s m)) (hne : s ≠ t) : RT k t (w.setCell ⟨g, i, none⟩ x) v l := by
  obtain ⟨A, cap, h1, h2, h3⟩ := h
  refine ⟨A, cap, h1, h2, fun h0 => ?_⟩
  obtain ⟨b, off, c2, m2, e, hb, hc⟩ := h3 h0
  refine ⟨b, off, c2, m2, e, heap_far (fun e2 => ?_) hb, hc⟩
  rw [e2, hg] at hb
  cases hb
  exact hne rfl
theorem RT.form {k : IntKind} {t : TypeId} {w : World} {v : Value} {l : List Int} (h : RT k t w v l) : ∃ A cap, v = .slice A l.length cap ∧ l.length ≤ cap := h.rn.form
theorem ON.rt {k : IntKind} {t : TypeId} {w : World} {B : Nat} {v : Value} {l : List Int} (h : ON k t w B v l) : RT k t w v l := by
  rcases h.2 with ⟨rfl, h0⟩ | ⟨g, cap, cur, rfl, h1, h2, h3, h4, h5, h6⟩
  · exact ⟨none, 0, by rw [h0], by omega, fun h => by omega⟩
  · refine ⟨_, cap, rfl, h3, fun h0 => ⟨g, 0, cur, _, rfl, h2, fun j hj => ?_⟩⟩
    have : (cur.toList.take (l.length * 1))[j]? = (l.map (Value.int k))[j]? := by rw [h6]
    rw [List.getElem?_take_of_lt (by omega), Array.getElem?_toList] at this
    rw [Nat.zero_add, this]
    simp [hj]
theorem RT.nil {k : IntKind} {t : TypeId} (w : World) : RT k t w (.slice none 0 0) [] := ⟨none, 0, rfl, Nat.le_refl _, fun h => absurd h (by decide)⟩

/-! ### pieces and trees -/
def RIsP (w : World) (bv fv : Value) (p : Pc) : Prop := RT .u8 5 w bv p.b ∧ RT .i32 21 w fv p.fs
theorem RIsP.later {w w' : World} {bv fv : Value} {p : Pc} (h : RIsP w bv fv p) (ha : AnyLater w w') : RIsP w' bv fv p := ⟨h.1.later ha, h.2.later ha⟩
def pcV (bv fv : Value) (p : Pc) : Value := .agg #[bv, fv, .int .i64 p.base]
def sumV (t : Tr) : Value := .agg #[.int .i64 (t.len : Int), .int .i64 (t.nf : Int), .int .i64 (t.np : Int), .int .i64 (t.lev : Int)]
def nodeC (lv rv bv fv : Value) (p : Pc) (t : Tr) : Array Value := #[lv, rv, bv, fv, .int .i64 p.base, .int .i64 (t.len : Int), .int .i64 (t.nf : Int), .int .i64 (t.np : Int), .int .i64 (t.lev : Int)]
def IsT (w : World) : Tr → Value → Prop
  | .nil, v => v = .pointer none
  | .node l p r, v => ∃ (k : Nat) (lv rv bv fv : Value), v = .pointer (some ⟨k, 0, none⟩) ∧ w.heap[k]? = some (.cells (nodeC lv rv bv fv p (.node l p r)) 105) ∧ IsT w l lv ∧ IsT w r rv ∧ RIsP w bv fv p
theorem IsT.later {w w' : World} (ha : AnyLater w w') : ∀ {t : Tr} {v : Value}, IsT w t v → IsT w' t v
  | .nil, _, h => h
  | .node l p r, v, h => by
    obtain ⟨k, lv, rv, bv, fv, h1, h2, h3, h4, h5⟩ := h
    exact ⟨k, lv, rv, bv, fv, h1, any_own ha h2, IsT.later ha h3, IsT.later ha h4, h5.later ha⟩
theorem IsT.ptr {w : World} : ∀ {t : Tr} {v : Value}, IsT w t v → ∃ q, v = .pointer q
  | .nil, _, h => ⟨none, h⟩
  | .node _ _ _, _, h => by
    obtain ⟨k, _, _, _, _, h1, _⟩ := h
    exact ⟨_, h1⟩
theorem IsT.far {w : World} {g i : Nat} {cs : Array Value} {s : TypeId} {m : Nat × Nat} {x : Value} (hg : w.heap[g]? = some (.cells cs s m)) (h8 : s ≠ 5) (h3 : s ≠ 21) (hn : s ≠ 105) :
    ∀ {t : Tr} {v : Value}, IsT w t v → IsT (w.setCell ⟨g, i, none⟩ x) t v
  | .nil, _, h => h
  | .node l p r, v, h => by
    obtain ⟨k, lv, rv, bv, fv, q1, q2, q3, q4, q5⟩ := h
    refine ⟨k, lv, rv, bv, fv, q1, heap_far (fun e => ?_) q2, IsT.far hg h8 h3 hn q3, IsT.far hg h8 h3 hn q4, q5.1.far hg h8, q5.2.far hg h3⟩
    rw [e, hg] at q2
    cases q2
    exact hn rfl

theorem RIsP.far {w : World} {g i : Nat} {cs : Array Value} {s : TypeId} {m : Nat × Nat} {x bv fv : Value} {p : Pc} (hg : w.heap[g]? = some (.cells cs s m)) (h8 : s ≠ 5) (h3 : s ≠ 21) (h : RIsP w bv fv p) : RIsP (w.setCell ⟨g, i, none⟩ x) bv fv p := ⟨h.1.far hg h8, h.2.far hg h3⟩
/-- three stores into a block that holds no part of a tree -/
theorem IsT.far3 {w : World} {g i j k : Nat} {cs : Array Value} {s : TypeId} {x y z : Value} (hg : w.heap[g]? = some (.cells cs s)) (h8 : s ≠ 5) (h3 : s ≠ 21) (hn : s ≠ 105) {t : Tr} {v : Value} (h : IsT w t v) :
    IsT (((w.setCell ⟨g, i, none⟩ x).setCell ⟨g, j, none⟩ y).setCell ⟨g, k, none⟩ z) t v := by
  have h1 := heap_at (i := i) (v := x) hg rfl
  have h2 := heap_at (i := j) (v := y) h1 rfl
  exact IsT.far h2 h8 h3 hn (IsT.far h1 h8 h3 hn (IsT.far hg h8 h3 hn h))
theorem RIsP.far3 {w : World} {g i j k : Nat} {cs : Array Value} {s : TypeId} {x y z bv fv : Value} {p : Pc} (hg : w.heap[g]? = some (.cells cs s)) (h8 : s ≠ 5) (h3 : s ≠ 21) (h : RIsP w bv fv p) :
    RIsP (((w.setCell ⟨g, i, none⟩ x).setCell ⟨g, j, none⟩ y).setCell ⟨g, k, none⟩ z) bv fv p := by
  have h1 := heap_at (i := i) (v := x) hg rfl
  have h2 := heap_at (i := j) (v := y) h1 rfl
  exact RIsP.far h2 h8 h3 (RIsP.far h1 h8 h3 (RIsP.far hg h8 h3 h))

/-! ### small functions -/
theorem run_maxN {P : Program} (w : World) (ts : Array TypeId) (t : TypeId) (p q : Nat) : (Builtin.max_ ts t #[.int .i64 (p : Int), .int .i64 (q : Int)]).run P w = .ok (.int .i64 ((max p q : Nat) : Int)) w := by
  rw [run_max_int2]; split <;> (congr 2; omega)
theorem noted_nil (w : World) : Calls Tryz.prog 66 #[.pointer none] w fun e w' => e = .returned (sumV .nil) ∧ AnyLater w w' := by
  go_enter Tryz.func66, Tryz.ntmps66
  go_wp2_with fail
  refine bodyPost_ret (v := sumV .nil) (by simp [results, Tryz.results66, go_sem, sumV, Tr.len, Tr.nf, Tr.np, Tr.lev]) rfl ⟨rfl, ?_⟩
  repeat' (first | with_reducible assumption | with_reducible exact AnyLater.refl _ | with_reducible apply AnyLater.setCell | with_reducible apply AnyLater.later | with_reducible apply AnyLater.drewN | with_reducible apply AnyLater.drew | with_reducible apply AnyLater.alloc | ((try simp only [World.size_alloc, World.size_setCell, World.size_drew]); (try dsimp only); omega))
theorem noted_node (k : Nat) (cs : Array Value) (a b c d : Nat) (x0 x1 x2 x3 x4 : Value) (w : World) (hk : w.heap[k]? = some (.cells #[x0, x1, x2, x3, x4, .int .i64 (a : Int), .int .i64 (b : Int), .int .i64 (c : Int), .int .i64 (d : Int)] 105)) :
    Calls Tryz.prog 66 #[.pointer (some ⟨k, 0, none⟩)] w fun e w' => e = .returned (.agg #[.int .i64 (a : Int), .int .i64 (b : Int), .int .i64 (c : Int), .int .i64 (d : Int)]) ∧ AnyLater w w' := by
  have s := hk
  have l := own_lt s
  have nl : w.heap.size ≠ k := by omega
  have r := own_row s
  have f := own_free s
  clear hk s
  go_enter Tryz.func66, Tryz.ntmps66
  go_wp2_with fail
  refine bodyPost_ret (v := .agg #[.int .i64 (a : Int), .int .i64 (b : Int), .int .i64 (c : Int), .int .i64 (d : Int)]) (by simp [results, Tryz.results66, go_sem, *]) rfl ⟨rfl, ?_⟩
  repeat' (first | with_reducible assumption | with_reducible exact AnyLater.refl _ | with_reducible apply AnyLater.setCell | with_reducible apply AnyLater.later | with_reducible apply AnyLater.drewN | with_reducible apply AnyLater.drew | with_reducible apply AnyLater.alloc | ((try simp only [World.size_alloc, World.size_setCell, World.size_drew]); (try dsimp only); omega))
theorem noted_any (t : Tr) (v : Value) (w : World) (h : IsT w t v) : Calls Tryz.prog 66 #[v] w fun e w' => e = .returned (sumV t) ∧ AnyLater w w' := by
  cases t with
  | nil =>
    obtain rfl : v = .pointer none := h
    exact noted_nil w
  | node l p r =>
    obtain ⟨k, lv, rv, bv, fv, rfl, h2, _⟩ := h
    exact noted_node k #[] _ _ _ _ lv rv bv fv _ w h2
end Go.Proofs.YtiicaldnegcdiaaGreat
