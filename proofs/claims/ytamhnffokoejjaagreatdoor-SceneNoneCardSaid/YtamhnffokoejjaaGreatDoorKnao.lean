/- what the proof stands on: Stays SeqB -/
import Derived.Deep.DeepAppendRoom
import Derived.Laws.IdiomCopy
import Derived.Lib.SliceRun
import Derived.Test.YtamhnffokoejjaaGreatDoorKnaj
import Derived.Deep.QuietTactic
import Derived.BigQuiet
import Derived.Laws.StructEq
import Derived.Test.YtamhnffokoejjaaGreatDoorKnal
import Derived.Test.YtamhnffokoejjaaGreatDoorKnae
namespace Go.Proofs.YtamhnffokoejjaaGreatDoor
set_option linter.unusedSimpArgs false
set_option linter.unusedVariables false
set_option linter.unusedSectionVars false
open Go.RowKit
structure Stays (S : Nat → Prop) (w w' : World) : Prop where
  os : w'.os = w.os
  tape : w'.tape = w.tape
  output : w'.output = w.output
  size : w.heap.size ≤ w'.heap.size
  block : ∀ k, k < w.heap.size → ¬ S k → w'.heap[k]? = w.heap[k]?
theorem Stays.refl (S : Nat → Prop) (w : World) : Stays S w w := ⟨rfl, rfl, rfl, Nat.le_refl _, fun _ _ _ => rfl⟩
theorem Stays.trans {S : Nat → Prop} {a b c : World} (h : Stays S a b) (k : Stays S b c) : Stays S a c :=
  ⟨k.os.trans h.os, k.tape.trans h.tape, k.output.trans h.output, Nat.le_trans h.size k.size, fun i hi hn => (k.block i (Nat.lt_of_lt_of_le hi h.size) hn).trans (h.block i hi hn)⟩
theorem Stays.of {S : Nat → Prop} {w w' : World} (h : AnyLater w w') : Stays S w w' := ⟨h.below.os, h.below.tape, h.below.output, h.below.size, fun k hk _ => h.below.block k hk⟩
theorem Stays.any {S : Nat → Prop} {W w w' : World} (hW : AnyLater W w) (hS : ∀ k, S k → W.heap.size ≤ k) (h : Stays S w w') : AnyLater W w' :=
  .of ⟨h.os.trans hW.below.os, h.tape.trans hW.below.tape, h.output.trans hW.below.output, Nat.le_trans hW.below.size h.size,
    fun k hk => (h.block k (Nat.lt_of_lt_of_le hk hW.below.size) (fun hs => by have := hS k hs; omega)).trans (hW.below.block k hk)⟩
theorem Stays.more {S T : Nat → Prop} {a b c : World} (h : Stays S a b) (k : Stays T b c) (ht : ∀ q, T q → S q ∨ a.heap.size ≤ q) : Stays S a c :=
  ⟨k.os.trans h.os, k.tape.trans h.tape, k.output.trans h.output, Nat.le_trans h.size k.size, fun i hi hn => (k.block i (Nat.lt_of_lt_of_le hi h.size) (fun e => (ht i e).elim hn (fun q => by omega))).trans (h.block i hi hn)⟩
theorem Stays.later {S : Nat → Prop} {a b c : World} (h : Stays S a b) (k : AnyLater b c) : Stays S a c := h.trans (.of k)
theorem Stays.wide {S S' : Nat → Prop} {w w' : World} (h : Stays S w w') (hs : ∀ k, k < w.heap.size → S k → S' k) : Stays S' w w' :=
  ⟨h.os, h.tape, h.output, h.size, fun k hk hn => h.block k hk (fun q => hn (hs k hk q))⟩
theorem Stays.setCell {S : Nat → Prop} {w w' : World} (h : Stays S w w') {b i : Nat} (hb : S b) (v : Value) : Stays S w (w'.setCell ⟨b, i, none⟩ v) :=
  ⟨h.os, h.tape, h.output, by rw [World.size_setCell]; exact h.size, fun k hk hn => (heap_far (fun e => hn (by rw [e]; exact hb)) (h.block k hk hn))⟩
theorem Stays.grown {S : Nat → Prop} {w w' : World} {row : Option Nat} (h : w.grownBy w' row) (hr : ∀ k, row = some k → S k) : Stays S w w' :=
  ⟨h.os, h.tape, h.output, h.size, fun k hk hn => h.block k hk (fun e => hn (hr k e.symm))⟩
theorem Stays.own {S : Nat → Prop} {w w' : World} {k : Nat} {o : Obj} (h : Stays S w w') (hk : w.heap[k]? = some o) (hn : ¬ S k) : w'.heap[k]? = some o := (h.block k (own_lt hk) hn).trans hk
theorem ON.at {w : World} {B : Nat} {v : Value} {l : List Int} (h : ON .i64 3 w B v l) (h0 : 0 < l.length) : ∃ g cap cur, v = .slice (some ⟨g, 0, none⟩) l.length cap ∧ B ≤ g ∧ w.heap[g]? = some (.cells cur 3) ∧ l.length ≤ cap ∧ cap ≤ maxLen ∧ cur.size = cap ∧ ∀ (j : Nat) (hj : j < l.length), cur[j]? = some (.int .i64 l[j]) := by
  rcases h.2 with ⟨_, e⟩ | ⟨g, cap, cur, rfl, h1, h2, h3, h4, h5, h6⟩
  · omega
  · refine ⟨g, cap, cur, rfl, h1, h2, h3, h4, by omega, fun j hj => ?_⟩
    have : (cur.toList.take (l.length * 1))[j]? = (l.map (Value.int .i64))[j]? := by rw [h6]
    rw [List.getElem?_take_of_lt (by omega), Array.getElem?_toList] at this
    rw [this]
    simp [hj]
theorem ON.of {w : World} {B g cap : Nat} {cur : Array Value} {l : List Int} (h1 : B ≤ g) (h2 : w.heap[g]? = some (.cells cur 3)) (h3 : l.length ≤ cap) (h4 : cap ≤ maxLen) (h5 : cur.size = cap) (h6 : ∀ (j : Nat) (hj : j < l.length), cur[j]? = some (.int .i64 l[j])) : ON .i64 3 w B (.slice (some ⟨g, 0, none⟩) l.length cap) l := by
  refine ⟨by simp, .inr ⟨g, cap, cur, rfl, h1, h2, h3, h4, by omega, ?_⟩⟩
  apply List.ext_getElem?
  intro j
  by_cases hj : j < l.length
  · rw [List.getElem?_take_of_lt (by omega), Array.getElem?_toList, h6 j hj]
    simp [hj]
  · rw [List.getElem?_eq_none (by rw [List.length_take]; omega), List.getElem?_eq_none (by simpa using hj)]
theorem ON.stays {S : Nat → Prop} {w w' : World} {B : Nat} {v : Value} {l : List Int} (h : ON .i64 3 w B v l) (hk : Stays S w w') (hn : ∀ k, v.ownBlock = some k → ¬ S k) : ON .i64 3 w' B v l := by
  refine ⟨h.1, ?_⟩
  rcases h.2 with q | ⟨g, cap, cur, rfl, h1, h2, h3⟩
  · exact .inl q
  · exact .inr ⟨g, cap, cur, rfl, h1, hk.own h2 (hn g rfl), h3⟩
theorem ON.set {w : World} {B g : Nat} {n cap : Nat} {l : List Int} {i : Nat} (x : Int) (h : ON .i64 3 w B (.slice (some ⟨g, 0, none⟩) n cap) l) : ON .i64 3 (w.setCell ⟨g, i, none⟩ (.int .i64 x)) B (.slice (some ⟨g, 0, none⟩) n cap) (l.set i x) := by
  rcases h.2 with ⟨e, _⟩ | ⟨g', cap', cur, e, h1, h2, h3, h4, h5, h6⟩
  · cases e
  · cases e
    have hc : ∀ (j : Nat) (hj : j < l.length), cur[j]? = some (.int .i64 l[j]) := fun j hj => by
      have : (cur.toList.take (l.length * 1))[j]? = (l.map (Value.int .i64))[j]? := by rw [h6]
      rw [List.getElem?_take_of_lt (by omega), Array.getElem?_toList] at this
      rw [this]
      simp [hj]
    have := ON.of (l := l.set i x) (cap := cap) h1 (heap_at (i := i) (v := .int .i64 x) h2 rfl) (by rw [List.length_set]; exact h3) h4 (by simpa using h5) (fun j hj => by
      rw [List.length_set] at hj
      rw [List.getElem_set]
      by_cases e : i = j
      · subst e
        rw [if_pos rfl, Array.getElem?_setIfInBounds_self, if_pos (by omega)]
      · rw [if_neg e, Array.getElem?_setIfInBounds_ne e]
        exact hc j hj)
    simpa using this
end Go.Proofs.YtamhnffokoejjaaGreatDoor
namespace Go.Proofs.YtamhnffokoejjaaGreatDoor
set_option linter.unusedSimpArgs false
set_option linter.unusedVariables false
set_option linter.unusedSectionVars false
open Go.RowKit
set_option maxRecDepth 100000 in
theorem pairTall : PairT 61 84 := ⟨Tryz.underlying84, by kernel_rfl, by kernel_rfl, fun w => by simp [go_sem]⟩
theorem flatQ_inj : ∀ {a b : Qs}, flatQ a = flatQ b → a = b
  | [], [], _ => rfl
  | [], x :: b, h => by rw [flatQ_nil, flatQ_cons] at h; cases h
  | x :: a, [], h => by rw [flatQ_nil, flatQ_cons] at h; cases h
  | x :: a, y :: b, h => by
    rw [flatQ_cons, flatQ_cons] at h
    obtain ⟨x1, x2⟩ := x
    obtain ⟨y1, y2⟩ := y
    simp only [List.cons.injEq, Value.int.injEq, true_and] at h
    rw [h.1, h.2.1, flatQ_inj h.2.2]
theorem OQ.tells {t : TypeId} {w : World} {B g n cap : Nat} {l : Qs} (h : OQ t w B (.slice (some ⟨g, 0, none⟩) n cap) l) : n = l.length ∧ ∃ cur, w.heap[g]? = some (.cells cur t) ∧ cur.size = cap * 2 ∧ l.length ≤ cap ∧ cap ≤ maxLen ∧ cur.toList.take (l.length * 2) = flatQ l := by
  rcases h.2 with ⟨e, _⟩ | ⟨g', cap', cur, e, h2, h3, h4, h5, h6, h7⟩
  · cases e
  · cases e
    exact ⟨rfl, cur, h3, h6, h4, h5, h7⟩
theorem OQ.only {t : TypeId} {w : World} {B C g n cap : Nat} {l m : Qs} (h : OQ t w B (.slice (some ⟨g, 0, none⟩) n cap) l) (k : OQ t w C (.slice (some ⟨g, 0, none⟩) n cap) m) : l = m := by
  obtain ⟨e1, c1, a1, _, _, _, d1⟩ := OQ.tells h
  obtain ⟨e2, c2, a2, _, _, _, d2⟩ := OQ.tells k
  rw [a1] at a2
  cases a2
  rw [← e1] at d1
  rw [← e2] at d2
  exact flatQ_inj (d1.symm.trans d2)
theorem OQ.kept {t : TypeId} {w w' : World} {B g n cap : Nat} {l : Qs} (h : OQ t w B (.slice (some ⟨g, 0, none⟩) n cap) l) (hk : w'.heap[g]? = w.heap[g]?) : OQ t w' B (.slice (some ⟨g, 0, none⟩) n cap) l := by
  refine ⟨h.1, ?_⟩
  rcases h.2 with q | ⟨g', cap', cur, e, h2, h3, h4⟩
  · exact .inl q
  · cases e
    exact .inr ⟨g, cap, cur, rfl, h2, hk.trans h3, h4⟩
def hnodeC (lv rv fv : Value) (t : Ht) : Array Value := #[lv, rv, fv, .int .i64 (t.hs.length : Int), .int .i64 (tlR t.hs), .int .i64 (tlH t.hs), .int .i64 (t.lev : Int)]
def IsH (w : World) : Ht → Value → List Nat → Prop
  | .nil, v, F => v = .pointer none ∧ F = []
  | .leaf b l, v, F => ∃ (k cap : Nat), v = .pointer (some ⟨k, 0, none⟩) ∧ F = [k, b] ∧ w.heap[k]? = some (.cells (hnodeC (.pointer none) (.pointer none) (.slice (some ⟨b, 0, none⟩) l.length cap) (.leaf b l)) 249) ∧ OQ 61 w 0 (.slice (some ⟨b, 0, none⟩) l.length cap) l
  | .node l r, v, F => ∃ (k : Nat) (lv rv : Value) (F1 F2 : List Nat), v = .pointer (some ⟨k, 0, none⟩) ∧ F = k :: (F1 ++ F2) ∧ l ≠ .nil ∧ r ≠ .nil ∧ w.heap[k]? = some (.cells (hnodeC lv rv (.slice none 0 0) (.node l r)) 249) ∧ IsH w l lv F1 ∧ IsH w r rv F2
theorem IsH.ptr {w : World} : ∀ {t : Ht} {v : Value} {F : List Nat}, IsH w t v F → ∃ q, v = .pointer q
  | .nil, _, _, h => ⟨none, h.1⟩
  | .leaf _ _, _, _, h => by obtain ⟨k, _, h1, _⟩ := h; exact ⟨_, h1⟩
  | .node _ _, _, _, h => by obtain ⟨k, _, _, _, _, h1, _⟩ := h; exact ⟨_, h1⟩
theorem IsH.there {w : World} : ∀ {t : Ht} {v : Value} {F : List Nat}, IsH w t v F → t ≠ .nil → ∃ k, v = .pointer (some ⟨k, 0, none⟩) ∧ k ∈ F
  | .nil, _, _, _, h => absurd rfl h
  | .leaf _ _, _, _, h, _ => by obtain ⟨k, _, h1, h2, _⟩ := h; exact ⟨k, h1, by rw [h2]; simp⟩
  | .node _ _, _, _, h, _ => by obtain ⟨k, _, _, _, _, h1, h2, _⟩ := h; exact ⟨k, h1, by rw [h2]; simp⟩
theorem IsH.frame {w w' : World} : ∀ {t : Ht} {v : Value} {F : List Nat}, IsH w t v F → (∀ b ∈ F, w'.heap[b]? = w.heap[b]?) → IsH w' t v F
  | .nil, _, _, h, _ => h
  | .leaf b l, _, _, h, k => by
    obtain ⟨a, cap, h1, h2, h3, h4⟩ := h
    subst h2
    exact ⟨a, cap, h1, rfl, (k a (by simp)).trans h3, OQ.kept h4 (k b (by simp))⟩
  | .node l r, _, _, h, k => by
    obtain ⟨a, lv, rv, F1, F2, h1, h2, n1, n2, h3, h4, h5⟩ := h
    subst h2
    exact ⟨a, lv, rv, F1, F2, h1, rfl, n1, n2, (k a (by simp)).trans h3, IsH.frame h4 (fun b hb => k b (by simp [hb])), IsH.frame h5 (fun b hb => k b (by simp [hb]))⟩
theorem IsH.kinds {w : World} : ∀ {t : Ht} {v : Value} {F : List Nat}, IsH w t v F → ∀ b ∈ F, (∃ cs, w.heap[b]? = some (.cells cs 249)) ∨ (b ∈ t.bks ∧ ∃ cs, w.heap[b]? = some (.cells cs 61))
  | .nil, _, _, h, b, hb => by rw [h.2] at hb; cases hb
  | .leaf r l, _, _, h, b, hb => by
    obtain ⟨a, cap, h1, h2, h3, h4⟩ := h
    subst h2
    rcases List.mem_cons.1 hb with rfl | hb
    · exact .inl ⟨_, h3⟩
    · rcases List.mem_cons.1 hb with rfl | hb
      · obtain ⟨_, cur, hc, _⟩ := OQ.tells h4
        exact .inr ⟨by simp [Ht.bks], cur, hc⟩
      · cases hb
  | .node l r, _, _, h, b, hb => by
    obtain ⟨a, lv, rv, F1, F2, h1, h2, n1, n2, h3, h4, h5⟩ := h
    subst h2
    rcases List.mem_cons.1 hb with rfl | hb
    · exact .inl ⟨_, h3⟩
    · rcases List.mem_append.1 hb with hb | hb
      · exact (IsH.kinds h4 b hb).imp id (fun q => ⟨by simp [Ht.bks, q.1], q.2⟩)
      · exact (IsH.kinds h5 b hb).imp id (fun q => ⟨by simp [Ht.bks, q.1], q.2⟩)
theorem IsH.lt {w : World} {t : Ht} {v : Value} {F : List Nat} (h : IsH w t v F) : ∀ b ∈ F, b < w.heap.size := fun b hb => by
  rcases h.kinds b hb with ⟨cs, hc⟩ | ⟨_, cs, hc⟩
  · exact own_lt hc
  · exact own_lt hc
theorem IsH.rows {w : World} : ∀ {t : Ht} {v : Value} {F : List Nat}, IsH w t v F → ∀ b ∈ t.bks, b ∈ F ∧ ∃ cs, w.heap[b]? = some (.cells cs 61)
  | .nil, _, _, _, b, hb => by cases hb
  | .leaf r l, _, _, h, b, hb => by
    obtain ⟨a, cap, h1, h2, h3, h4⟩ := h
    subst h2
    obtain rfl : b = r := by simpa [Ht.bks] using hb
    obtain ⟨_, cur, hc, _⟩ := OQ.tells h4
    exact ⟨by simp, cur, hc⟩
  | .node l r, _, _, h, b, hb => by
    obtain ⟨a, lv, rv, F1, F2, h1, h2, n1, n2, h3, h4, h5⟩ := h
    subst h2
    rcases List.mem_append.1 hb with hb | hb
    · obtain ⟨q1, q2⟩ := IsH.rows h4 b hb
      exact ⟨by simp [q1], q2⟩
    · obtain ⟨q1, q2⟩ := IsH.rows h5 b hb
      exact ⟨by simp [q1], q2⟩
theorem IsH.later {w w' : World} {t : Ht} {v : Value} {F : List Nat} (h : IsH w t v F) (a : AnyLater w w') : IsH w' t v F := h.frame (fun b hb => a.below.block b (h.lt b hb))
theorem IsH.stays {S : Nat → Prop} {w w' : World} {t : Ht} {v : Value} {F : List Nat} (h : IsH w t v F) (a : Stays S w w') (hn : ∀ b ∈ F, ¬ S b) : IsH w' t v F := h.frame (fun b hb => a.block b (h.lt b hb) (hn b hb))
theorem IsH.only {w : World} : ∀ {t s : Ht} {v : Value} {F G : List Nat}, IsH w t v F → IsH w s v G → t = s ∧ F = G
  | .nil, .nil, _, _, _, h, k => ⟨rfl, by rw [h.2, k.2]⟩
  | .nil, .leaf _ _, _, _, _, h, k => by
    obtain ⟨_, _, e, _⟩ := k
    rw [h.1] at e
    cases e
  | .nil, .node _ _, _, _, _, h, k => by
    obtain ⟨_, _, _, _, _, e, _⟩ := k
    rw [h.1] at e
    cases e
  | .leaf _ _, .nil, _, _, _, h, k => by
    obtain ⟨_, _, e, _⟩ := h
    rw [k.1] at e
    cases e
  | .node _ _, .nil, _, _, _, h, k => by
    obtain ⟨_, _, _, _, _, e, _⟩ := h
    rw [k.1] at e
    cases e
  | .leaf b l, .leaf c m, _, _, _, h, k => by
    obtain ⟨a1, cap1, rfl, rfl, h3, h4⟩ := h
    obtain ⟨a2, cap2, e, rfl, k3, k4⟩ := k
    cases e
    rw [h3] at k3
    simp only [Option.some.injEq, Obj.cells.injEq, hnodeC] at k3
    have e := congrArg (fun x : Array Value => x[2]?) k3.1
    simp at e
    obtain ⟨rfl, e2, rfl⟩ := e
    rw [← e2] at k4
    rw [OQ.only h4 k4]
    exact ⟨rfl, rfl⟩
  | .leaf b l, .node m r, _, _, _, h, k => by
    obtain ⟨a1, cap1, rfl, rfl, h3, h4⟩ := h
    obtain ⟨a2, lv, rv, F1, F2, e, rfl, n1, n2, k3, k4, k5⟩ := k
    cases e
    rw [h3] at k3
    simp only [Option.some.injEq, Obj.cells.injEq, hnodeC] at k3
    have e := congrArg (fun x : Array Value => x[0]?) k3.1
    simp at e
    obtain ⟨q, e3, _⟩ := IsH.there k4 n1
    rw [← e] at e3
    cases e3
  | .node m r, .leaf b l, _, _, _, k, h => by
    obtain ⟨a1, cap1, rfl, rfl, h3, h4⟩ := h
    obtain ⟨a2, lv, rv, F1, F2, e, rfl, n1, n2, k3, k4, k5⟩ := k
    cases e
    rw [h3] at k3
    simp only [Option.some.injEq, Obj.cells.injEq, hnodeC] at k3
    have e := congrArg (fun x : Array Value => x[0]?) k3.1
    simp at e
    obtain ⟨q, e3, _⟩ := IsH.there k4 n1
    rw [← e] at e3
    cases e3
  | .node m r, .node m2 r2, _, _, _, h, k => by
    obtain ⟨a1, lv, rv, F1, F2, rfl, rfl, _, _, h3, h4, h5⟩ := h
    obtain ⟨a2, lv2, rv2, F3, F4, e, rfl, n1, n2, k3, k4, k5⟩ := k
    cases e
    rw [h3] at k3
    simp only [Option.some.injEq, Obj.cells.injEq, hnodeC] at k3
    have e0 := congrArg (fun x : Array Value => x[0]?) k3.1
    have e1 := congrArg (fun x : Array Value => x[1]?) k3.1
    simp at e0 e1
    subst e0
    subst e1
    obtain ⟨rfl, rfl⟩ := IsH.only h4 k4
    obtain ⟨rfl, rfl⟩ := IsH.only h5 k5
    exact ⟨rfl, rfl⟩
theorem IsH.part {w : World} : ∀ {t : Ht} {v : Value} {F : List Nat}, IsH w t v F → ∀ b ∈ F, (b ∈ t.bks ∧ ∃ cs, w.heap[b]? = some (.cells cs 61)) ∨ ∃ (s : Ht) (G : List Nat), s ≠ .nil ∧ IsH w s (.pointer (some ⟨b, 0, none⟩)) G ∧ s.np ≤ t.np ∧ ∀ x ∈ s.bks, x ∈ t.bks
  | .nil, _, _, h, b, hb => by rw [h.2] at hb; cases hb
  | .leaf r l, v, F, h, b, hb => by
    obtain ⟨a, cap, h1, h2, h3, h4⟩ := id h
    rw [h2] at hb
    rcases List.mem_cons.1 hb with rfl | hb
    · exact .inr ⟨.leaf r l, F, by simp, by rw [← h1]; exact h, Nat.le_refl _, fun _ hx => hx⟩
    · rcases List.mem_cons.1 hb with rfl | hb
      · obtain ⟨_, cur, hc, _⟩ := OQ.tells h4
        exact .inl ⟨by simp [Ht.bks], cur, hc⟩
      · cases hb
  | .node l r, v, F, h, b, hb => by
    obtain ⟨a, lv, rv, F1, F2, h1, h2, n1, n2, h3, h4, h5⟩ := id h
    rw [h2] at hb
    rcases List.mem_cons.1 hb with rfl | hb
    · exact .inr ⟨.node l r, F, by simp, by rw [← h1]; exact h, Nat.le_refl _, fun _ hx => hx⟩
    · rcases List.mem_append.1 hb with hb | hb
      · rcases IsH.part h4 b hb with ⟨q1, q2⟩ | ⟨s, G, q1, q2, q3, q4⟩
        · exact .inl ⟨by simp [Ht.bks, q1], q2⟩
        · exact .inr ⟨s, G, q1, q2, by simp only [Ht.np]; omega, fun x hx => by simp [Ht.bks, q4 x hx]⟩
      · rcases IsH.part h5 b hb with ⟨q1, q2⟩ | ⟨s, G, q1, q2, q3, q4⟩
        · exact .inl ⟨by simp [Ht.bks, q1], q2⟩
        · exact .inr ⟨s, G, q1, q2, by simp only [Ht.np]; omega, fun x hx => by simp [Ht.bks, q4 x hx]⟩
theorem IsH.type {w : World} : ∀ {t : Ht} {b : Nat} {F : List Nat}, IsH w t (.pointer (some ⟨b, 0, none⟩)) F → ∃ cs, w.heap[b]? = some (.cells cs 249)
  | .nil, _, _, h => by cases h.1
  | .leaf _ _, _, _, h => by obtain ⟨k, _, e, _, h3, _⟩ := h; cases e; exact ⟨_, h3⟩
  | .node _ _, _, _, h => by obtain ⟨k, _, _, _, _, e, _, _, _, h3, _⟩ := h; cases e; exact ⟨_, h3⟩
theorem node_tall {w : World} {b : Nat} {cs ds : Array Value} (h : w.heap[b]? = some (.cells cs 249)) (k : w.heap[b]? = some (.cells ds 61)) : False := by
  rw [h] at k
  cases k
theorem IsH.bks_some {w : World} : ∀ {t : Ht} {v : Value} {F : List Nat}, IsH w t v F → t ≠ .nil → ∃ b, b ∈ t.bks
  | .nil, _, _, _, h => absurd rfl h
  | .leaf b _, _, _, _, _ => ⟨b, by simp [Ht.bks]⟩
  | .node l r, _, _, h, _ => by
    obtain ⟨_, _, _, _, _, _, _, n1, _, _, h4, _⟩ := h
    obtain ⟨b, hb⟩ := IsH.bks_some h4 n1
    exact ⟨b, by simp [Ht.bks, hb]⟩
theorem IsH.apart {w : World} {t s : Ht} {v u : Value} {F G : List Nat} (h : IsH w t v F) (k : IsH w s u G) (hd : ∀ b ∈ t.bks, b ∉ s.bks) : ∀ b ∈ F, b ∉ G := by
  intro b hF hG
  rcases h.part b hF with ⟨q1, cs, q2⟩ | ⟨t1, G1, n1, i1, _, m1⟩
  · rcases k.part b hG with ⟨q3, _⟩ | ⟨s1, G2, _, i2, _, _⟩
    · exact hd b q1 q3
    · obtain ⟨ds, hds⟩ := i2.type
      exact node_tall hds q2
  · rcases k.part b hG with ⟨_, cs, q2⟩ | ⟨s1, G2, n2, i2, _, m2⟩
    · obtain ⟨ds, hds⟩ := i1.type
      exact node_tall hds q2
    · obtain ⟨rfl, _⟩ := i1.only i2
      obtain ⟨x, hx⟩ := i1.bks_some n1
      exact hd x (m1 x hx) (m2 x hx)
def isH (B : Nat) (t : Ht) (v : Value) (w : World) : Prop := B ≤ w.heap.size ∧ ∃ F, IsH w t v F ∧ ∀ b ∈ F, B ≤ b
section
variable {B : Nat}
theorem isH_stays {t : Ht} {v : Value} {w w' : World} (h : AnyLater w w') (s : isH B t v w) : isH B t v w' := by
  obtain ⟨hB, F, hF, hb⟩ := s
  exact ⟨Nat.le_trans hB h.below.size, F, hF.later h, hb⟩
theorem isH.ptr {t : Ht} {v : Value} {w : World} (h : isH B t v w) : ∃ q, v = .pointer q := by
  obtain ⟨_, F, hF, _⟩ := h
  exact hF.ptr
theorem isH.mono {C : Nat} {t : Ht} {v : Value} {w : World} (h : isH B t v w) (hC : C ≤ B) : isH C t v w := by
  obtain ⟨hB, F, hF, hb⟩ := h
  exact ⟨Nat.le_trans hC hB, F, hF, fun b q => Nat.le_trans hC (hb b q)⟩
theorem isH.nil {v : Value} {w : World} (h : isH B .nil v w) : v = .pointer none := by
  obtain ⟨_, F, hF, _⟩ := h
  exact hF.1
theorem isH_none {w : World} (h : B ≤ w.heap.size) : isH B .nil (.pointer none) w := ⟨h, [], ⟨rfl, rfl⟩, fun b q => by cases q⟩
theorem isH.node {l r : Ht} {v : Value} {w : World} (h : isH B (.node l r) v w) : ∃ (k : Nat) (lv rv : Value), v = .pointer (some ⟨k, 0, none⟩) ∧ l ≠ .nil ∧ r ≠ .nil ∧ w.heap[k]? = some (.cells (hnodeC lv rv (.slice none 0 0) (.node l r)) 249) ∧ isH B l lv w ∧ isH B r rv w := by
  obtain ⟨hB, F, ⟨k, lv, rv, F1, F2, e, rfl, n1, n2, hk, hl, hr⟩, hb⟩ := h
  exact ⟨k, lv, rv, e, n1, n2, hk, ⟨hB, F1, hl, fun b q => hb b (by simp [q])⟩, hB, F2, hr, fun b q => hb b (by simp [q])⟩
theorem isH.leaf {b : Nat} {l : Qs} {v : Value} {w : World} (h : isH B (.leaf b l) v w) : ∃ (k cap : Nat), v = .pointer (some ⟨k, 0, none⟩) ∧ w.heap[k]? = some (.cells (hnodeC (.pointer none) (.pointer none) (.slice (some ⟨b, 0, none⟩) l.length cap) (.leaf b l)) 249) ∧ OQ 61 w 0 (.slice (some ⟨b, 0, none⟩) l.length cap) l := by
  obtain ⟨hB, F, ⟨k, cap, e, rfl, hk, ho⟩, hb⟩ := h
  exact ⟨k, cap, e, hk, ho⟩
theorem IsH.is0 {t : Ht} {v : Value} {w : World} {F : List Nat} (h : IsH w t v F) : isH 0 t v w := ⟨Nat.zero_le _, F, h, fun _ _ => Nat.zero_le _⟩
theorem isH.there {t : Ht} {v : Value} {w : World} (h : isH B t v w) (n : t ≠ .nil) : ∃ k, v = .pointer (some ⟨k, 0, none⟩) := by
  obtain ⟨_, F, hF, _⟩ := h
  obtain ⟨k, e, _⟩ := hF.there n
  exact ⟨k, e⟩
end
def HAns (is : Value → World → Prop) (w : World) (e : Ending) (w' : World) : Prop := ∃ u, e = .returned u ∧ AnyLater w w' ∧ is u w'
end Go.Proofs.YtamhnffokoejjaaGreatDoor
