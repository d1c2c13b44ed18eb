/- what the proof stands on: Nums UtfB RopA TxtA Pairs RopB -/
import Derived.Laws.BytesArg
import Derived.Deep.Upon
import Derived.Test.YtamhnffokoejjaaGreatDoorKnaf
import Derived.Test.YtamhnffokoejjaaGreatDoorRows
import Derived.Test.YtamhnffokoejjaaGreatDoorKnaa
import Derived.Deep.QuietTactic
import Derived.BigQuiet
import Derived.Laws.StructEq
import Derived.Test.YtamhnffokoejjaaGreatDoorKnae
namespace Go.Proofs.YtamhnffokoejjaaGreatDoor
set_option linter.unusedSimpArgs false
set_option linter.unusedVariables false
set_option linter.unusedSectionVars false
open Go.RowKit
def RN (k : IntKind) (w : World) (v : Value) (l : List Int) : Prop := ∃ (A : Option Addr) (cap : Nat), v = .slice A l.length cap ∧ l.length ≤ cap ∧ (0 < l.length → ∃ b off, A = some ⟨b, off, none⟩ ∧ b < w.heap.size ∧ ∀ (j : Nat) (h : j < l.length), w.cell? ⟨b, off + j, none⟩ = some (.int k l[j]))
theorem RN.later {k : IntKind} {w w' : World} {v : Value} {l : List Int} (h : RN k w v l) (ha : AnyLater w w') : RN k w' v l := by
  obtain ⟨A, cap, h1, h2, h3⟩ := h
  refine ⟨A, cap, h1, h2, fun h0 => ?_⟩
  obtain ⟨b, off, e, hb, hc⟩ := h3 h0
  exact ⟨b, off, e, Nat.lt_of_lt_of_le hb ha.below.size, fun j hj => (ha.below.cell hb).trans (hc j hj)⟩
theorem RN.form {k : IntKind} {w : World} {v : Value} {l : List Int} (h : RN k w v l) : ∃ A cap, v = .slice A l.length cap ∧ l.length ≤ cap := by
  obtain ⟨A, cap, h1, h2, _⟩ := h
  exact ⟨A, cap, h1, h2⟩
abbrev RI := RN .i64
theorem addr_add (b off n : Nat) : (⟨b, off, none⟩ : Addr).add n = ⟨b, off + n, none⟩ := by unfold Addr.add; split <;> simp_all
theorem RN.drop {k : IntKind} {w : World} {A : Option Addr} {cap : Nat} {l : List Int} (h : RN k w (.slice A l.length cap) l) (n : Nat) (hn : n ≤ l.length) : RN k w (.slice (if cap = n then A else A.map (fun x => x.add n)) (l.length - n) (cap - n)) (l.drop n) := by
  obtain ⟨A', cap', e, h2, h3⟩ := h
  cases e
  refine ⟨_, _, by rw [List.length_drop], by rw [List.length_drop]; omega, fun h0 => ?_⟩
  rw [List.length_drop] at h0
  obtain ⟨b, off, rfl, hb, hc⟩ := h3 (by omega)
  rw [if_neg (by omega)]
  refine ⟨b, off + n, by rw [Option.map_some, addr_add], hb, fun j hj => ?_⟩
  rw [List.length_drop] at hj
  rw [Nat.add_assoc, hc (n + j) (by omega), List.getElem_drop]
abbrev ON (k : IntKind) (t : TypeId) (w : World) (B : Nat) (v : Value) (l : List Int) : Prop := w.ownsRow B t 1 v l.length (l.map (Value.int k))
theorem ON.rn {k : IntKind} {t : TypeId} {w : World} {B : Nat} {v : Value} {l : List Int} (h : ON k t w B v l) : RN k w v l := by
  rcases h.2 with ⟨rfl, h0⟩ | ⟨g, cap, cur, rfl, h1, h2, h3, h4, h5, h6⟩
  · exact ⟨none, 0, by rw [h0], by omega, fun h => by omega⟩
  · refine ⟨_, cap, rfl, h3, fun h0 => ⟨g, 0, rfl, own_lt h2, fun j hj => ?_⟩⟩
    rw [own_row h2, Nat.zero_add]
    have : (cur.toList.take (l.length * 1))[j]? = (l.map (Value.int k))[j]? := by rw [h6]
    rw [List.getElem?_take_of_lt (by omega), Array.getElem?_toList] at this
    rw [this]
    simp [hj]
theorem ON.form {k : IntKind} {t : TypeId} {w : World} {B : Nat} {v : Value} {l : List Int} (h : ON k t w B v l) : ∃ A cap, v = .slice A l.length cap ∧ l.length ≤ cap := h.rn.form
theorem ON.empty {k : IntKind} {t : TypeId} {w : World} {g B : Nat} (hB : B ≤ g) (h : w.heap[g]? = some (.cells #[] t)) : ON k t w B (.slice (some ⟨g, 0, none⟩) 0 0) [] := ⟨rfl, .inr ⟨g, 0, #[], rfl, hB, h, Nat.le_refl _, Nat.zero_le _, rfl, rfl⟩⟩
theorem ON.one {k : IntKind} {t : TypeId} {w : World} {g B : Nat} {x : Int} (hB : B ≤ g) (h : w.heap[g]? = some (.cells #[.int k x] t)) : ON k t w B (.slice (some ⟨g, 0, none⟩) 1 1) [x] := ⟨rfl, .inr ⟨g, 1, _, rfl, hB, h, Nat.le_refl _, by unfold maxLen; omega, rfl, rfl⟩⟩
theorem ON.later {k : IntKind} {t : TypeId} {w w' : World} {B : Nat} {v : Value} {l : List Int} (ha : AnyLater w w') (h : ON k t w B v l) : ON k t w' B v l := owns_later ha h
theorem ON.wide {k : IntKind} {t : TypeId} {w : World} {B C : Nat} {v : Value} {l : List Int} (hC : C ≤ B) (h : ON k t w B v l) : ON k t w C v l := by
  refine ⟨h.1, ?_⟩
  rcases h.2 with q | ⟨g, cap, cur, h0, h1, h2⟩
  · exact .inl q
  · exact .inr ⟨g, cap, cur, h0, by omega, h2⟩
theorem info_i64 : (Tryz.prog.info? 3).map (fun i => (i.zero, i.size, i.bytes)) = some (some (.int .i64 0), 1, 8) := by kernel_rfl
theorem appN {k : IntKind} {t s : TypeId} {by_ : Nat} (hs : Tryz.prog.underlying s = some (.slice t)) (hinfo : (Tryz.prog.info? t).map (fun i => (i.zero, i.size, i.bytes)) = some (some (.int k 0), 1, by_)) (hby : by_ ≤ 8)
    {w : World} {B : Nat} {v u : Value} {l m : List Int} (ho : ON k t w B v l) (hm : RN k w u m) (hB : B ≤ w.heap.size) (hlen : l.length + m.length ≤ 100000) :
    ∃ v' w', (Builtin.append_ #[s, s] s #[v, u]).run Tryz.prog w = .ok v' w' ∧ ON k t w' B v' (l ++ m) ∧ w.grownBy w' v.ownBlock := by
  obtain ⟨i0, hi0, hz0, hz1, hz2⟩ := info_parts hinfo
  obtain ⟨A, cap, rfl, h2, h3⟩ := hm
  cases A with
  | none =>
    have h0 : m = [] := by
      cases m with
      | nil => rfl
      | cons x t => obtain ⟨b, off, e, _⟩ := h3 (by simp); cases e
    subst h0
    obtain ⟨A2, c2, rfl, q2⟩ := ho.form
    have hsrc := Src.ofNil (P := Tryz.prog) w (size := i0.size) hs cap
    refine ⟨_, _, run_append_nothing (P := Tryz.prog) w s s s t i0 hs hi0 A2 l.length c2 q2 _ hsrc, by rw [List.append_nil]; exact ho, ⟨rfl, rfl, rfl, Nat.le_refl _, fun _ _ _ => rfl⟩⟩
  | some ad =>
    by_cases h0 : 0 < m.length
    · obtain ⟨b, off, e, hb, hc⟩ := h3 h0
      cases e
      have hnews : ∀ j x, (m.map (Value.int k))[j]? = some x → w.cell? ((⟨b, off, none⟩ : Addr).add j) = some x := by
        intro j x hx
        have hj : j < m.length := by
          rcases Nat.lt_or_ge j m.length with h | h
          · exact h
          · rw [List.getElem?_eq_none (by simpa using h)] at hx; cases hx
        rw [addr_add, hc j hj, ← hx]
        simp [hj]
      have hbb : (l.length + m.length) * by_ ≤ 140737488355328 := Nat.le_trans (Nat.mul_le_mul hlen hby) (by decide)
      obtain ⟨v', w', k1, k2, k3, _⟩ := run_append_own (P := Tryz.prog) w B s s t i0 (.int k 0) 1 by_ hs hi0 hz0 hz1 hz2 rfl (by decide) v l.length (l.map (Value.int k)) ho ⟨b, off, none⟩ m.length cap (m.map (Value.int k)) (by simp) hnews (by intro x hx; obtain ⟨z, _, rfl⟩ := List.mem_map.1 hx; rfl) (by unfold maxLen; omega) hbb hB
      refine ⟨v', w', k1, ?_, k3⟩
      show w'.ownsRow B t 1 v' (l ++ m).length ((l ++ m).map (Value.int k))
      rw [List.length_append, List.map_append]
      exact k2
    · obtain rfl := List.eq_nil_of_length_eq_zero (Nat.eq_zero_of_not_pos h0)
      obtain ⟨v', w', k1, k2, k3, _⟩ := run_append_own (P := Tryz.prog) w B s s t i0 (.int k 0) 1 by_ hs hi0 hz0 hz1 hz2 rfl (by decide) v l.length (l.map (Value.int k)) ho ad 0 cap [] (by simp) (fun j x hx => by simp at hx) (by intro x hx; simp at hx) (by unfold maxLen; omega) (Nat.le_trans (Nat.mul_le_mul (show l.length + 0 ≤ 100000 by simpa using hlen) hby) (by decide)) hB
      refine ⟨v', w', k1, ?_, k3⟩
      show w'.ownsRow B t 1 v' (l ++ []).length ((l ++ []).map (Value.int k))
      rw [List.append_nil]
      simpa using k2
theorem ON.grown {k : IntKind} {t : TypeId} {W w w2 : World} {B : Nat} {v : Value} {l : List Int} (ho : ON k t w B v l) (hW : W.heap.size ≤ B) (h : AnyLater W w) (hg : w.grownBy w2 v.ownBlock) : AnyLater W w2 :=
  grown_later h hg (fun q hq => Nat.le_trans hW (owns_base ho q hq))
theorem appI {w : World} {B : Nat} {v : Value} {l : List Int} (x : Int) (ho : ON .i64 3 w B v l) (hB : B ≤ w.heap.size) (hl : l.length ≤ 90000) :
    ∃ u w2, (Builtin.append_ #[42, 42] 42 #[v, .slice (some ⟨w.heap.size, 0, none⟩) 1 1]).run Tryz.prog (w.alloc (.cells #[.int .i64 x] 3)) = .ok u w2 ∧ ON .i64 3 w2 B u (l ++ [x]) ∧ ∀ W, W.heap.size ≤ B → AnyLater W w → AnyLater W w2 := by
  have a1 : AnyLater w (w.alloc (.cells #[.int .i64 x] 3)) := (AnyLater.refl w).alloc _
  have hm : RN .i64 (w.alloc (.cells #[.int .i64 x] 3)) (.slice (some ⟨w.heap.size, 0, none⟩) 1 1) [x] := (ON.one (B := 0) (Nat.zero_le _) (heap_new rfl)).rn
  have ho2 := ho.later a1
  obtain ⟨u, w2, k1, k2, k3⟩ := appN (s := 42) Tryz.underlying42 info_i64 (by decide) ho2 hm (Nat.le_trans hB a1.below.size) (by simp; omega)
  exact ⟨u, w2, k1, k2, fun W h1 h2 => ON.grown ho2 h1 (h2.trans a1) k3⟩
end Go.Proofs.YtamhnffokoejjaaGreatDoor
namespace Go.Proofs.YtamhnffokoejjaaGreatDoor
set_option linter.unusedSimpArgs false
set_option linter.unusedVariables false
set_option linter.unusedSectionVars false
open Go.RowKit
abbrev RU8 := RN .u8
set_option maxRecDepth 100000 in
theorem RN.cut {w : World} {v : Value} {l : List Int} (h : RU8 w v l) (n : Nat) (hn : n ≤ l.length) : ∃ u, RU8 w u (l.drop n) ∧ ∀ w', (Instr.sliceAt 22 v (some (.int .i64 (n : Int))) none none).run Tryz.prog w' = .ok u w' := by
  obtain ⟨A, cap, rfl, h2, h3⟩ := h
  refine ⟨_, RN.drop ⟨A, cap, rfl, h2, h3⟩ n hn, fun w' => ?_⟩
  rw [run_sliceAt_slice w' _ _ _ _ _ Tryz.underlying22, run_slice_l w' _ A l.length cap Tryz.underlying22 .i64 (n : Int) (by omega) (by omega)]
  have hz : ∀ w, (Go.sizeOf (Tryz.prog.elem 22)).run Tryz.prog w = .ok 1 w := fun w => by simp [go_sem]
  rw [hz]
  simp [Result.andThen, sliced]
theorem info_u8 : (Tryz.prog.info? 5).map (fun i => (i.zero, i.size, i.bytes)) = some (some (.int .u8 0), 1, 1) := by kernel_rfl
theorem copy8 {w : World} {v : Value} {l : List Int} (hr : RU8 w v l) (hl : l.length ≤ 90000) :
    ∃ u w2, (Builtin.append_ #[22, 22] 22 #[.slice (some ⟨w.heap.size, 0, none⟩) 0 0, v]).run Tryz.prog (w.alloc (.cells #[] 5)) = .ok u w2 ∧ AnyLater w w2 ∧ ON .u8 5 w2 w.heap.size u l := by
  have a1 : AnyLater w (w.alloc (.cells #[] 5)) := (AnyLater.refl w).alloc _
  have ho : ON .u8 5 (w.alloc (.cells #[] 5)) w.heap.size (.slice (some ⟨w.heap.size, 0, none⟩) 0 0) [] := ON.empty (Nat.le_refl _) (heap_new rfl)
  obtain ⟨u, w2, k1, k2, k3⟩ := appN (s := 22) Tryz.underlying22 info_u8 (by decide) ho (hr.later a1) a1.below.size (by simp; omega)
  exact ⟨u, w2, k1, ON.grown ho (Nat.le_refl _) a1 k3, k2⟩
end Go.Proofs.YtamhnffokoejjaaGreatDoor
namespace Go.Proofs.YtamhnffokoejjaaGreatDoor
set_option linter.unusedSimpArgs false
set_option linter.unusedVariables false
set_option linter.unusedSectionVars false
def feN (i : Int) : List Int → List Int
  | [] => []
  | x :: t => if x = 10 then i :: feN (i + 1) t else feN (i + 1) t
theorem feN_append : ∀ (a b : List Int) (i : Int), feN i (a ++ b) = feN i a ++ feN (i + a.length) b
  | [], b, i => by simp [feN]
  | x :: a, b, i => by
    rw [List.cons_append, feN, feN, feN_append a b (i + 1), List.length_cons, show i + 1 + (a.length : Int) = i + ((a.length + 1 : Nat) : Int) by omega]
    split <;> simp
theorem feN_shift (d : Int) : ∀ (a : List Int) (i : Int), feN (i + d) a = (feN i a).map (· + d)
  | [], i => rfl
  | x :: a, i => by
    rw [feN, feN, show i + d + 1 = i + 1 + d by omega, feN_shift d a (i + 1)]
    split <;> simp
theorem feN_base (a : List Int) (i : Int) : feN i a = (feN 0 a).map (· + i) := by
  have := feN_shift i a 0
  rwa [Int.zero_add] at this
theorem feN_mem : ∀ (a : List Int) (i x : Int), x ∈ feN i a → i ≤ x ∧ x < i + a.length
  | [], i, x, h => by cases h
  | y :: a, i, x, h => by
    rw [feN] at h
    rw [List.length_cons]
    split at h
    · rcases List.mem_cons.1 h with rfl | h
      · omega
      · have := feN_mem a (i + 1) x h; omega
    · have := feN_mem a (i + 1) x h; omega
theorem feN_sorted : ∀ (a : List Int) (i : Int), (feN i a).Pairwise (· < ·)
  | [], i => by simp [feN]
  | y :: a, i => by
    rw [feN]
    split
    · exact List.pairwise_cons.2 ⟨fun x hx => by have := feN_mem a _ x hx; omega, feN_sorted a _⟩
    · exact feN_sorted a _
theorem feN_length (a : List Int) (i : Int) : (feN i a).length = (feN 0 a).length := by rw [feN_base, List.length_map]
theorem feN_le : ∀ (a : List Int) (i : Int), (feN i a).length ≤ a.length
  | [], i => by simp [feN]
  | y :: a, i => by
    have := feN_le a (i + 1)
    rw [feN]
    split <;> simp <;> omega
def below (x : Int) (l : List Int) : Nat := (l.takeWhile (fun y => decide (y < x))).length
theorem below_append (x : Int) (a b : List Int) (ha : ∀ y ∈ a, y < x) (hb : ∀ y ∈ b, x ≤ y) : below x (a ++ b) = a.length := by
  unfold below
  rw [List.takeWhile_append_of_pos (by simpa using ha)]
  cases b with
  | nil => simp
  | cons y b =>
    have := hb y (by simp)
    rw [List.takeWhile_cons_of_neg (by simp; omega)]; simp
theorem feN_split (b : List Int) (i : Int) (n : Nat) : feN i b = feN i (b.take n) ++ feN (i + (b.take n).length) (b.drop n) := by
  conv => lhs; rw [← List.take_append_drop n b]
  rw [feN_append]
theorem feN_below (b : List Int) (i : Int) (n : Nat) (hn : n ≤ b.length) : below (i + n) (feN i b) = (feN i (b.take n)).length := by
  have hl : (b.take n).length = n := by rw [List.length_take]; omega
  rw [feN_split b i n, below_append]
  · intro y hy
    have := feN_mem _ _ _ hy
    omega
  · intro y hy
    have := feN_mem _ _ _ hy
    omega
theorem feN_drop (b : List Int) (i : Int) (n : Nat) (hn : n ≤ b.length) : (feN i b).drop (feN i (b.take n)).length = feN (i + n) (b.drop n) := by
  have hl : (b.take n).length = n := by rw [List.length_take]; omega
  rw [feN_split b i n, List.drop_left, hl]
theorem feN_take (b : List Int) (i : Int) (n : Nat) : (feN i b).take (feN i (b.take n)).length = feN i (b.take n) := by
  conv => lhs; rw [feN_split b i n]
  rw [List.take_left]
structure Pc where
  b : List Int
  base : Int
def Pc.fs (p : Pc) : List Int := feN p.base p.b
def Pc.cut (p : Pc) (f t : Nat) : Pc := ⟨(p.b.drop f).take (t - f), p.base + f⟩
def Pc.Fair (p : Pc) : Prop := 0 < p.b.length ∧ 0 ≤ p.base ∧ p.base + p.b.length ≤ 90000 ∧ ∀ x ∈ p.b, 0 ≤ x ∧ x ≤ 255
theorem Pc.Fair.cut {p : Pc} (h : p.Fair) {f t : Nat} (hf : f < t) (ht : t ≤ p.b.length) : (p.cut f t).Fair := by
  obtain ⟨h1, h2, h3, h4⟩ := h
  unfold Pc.Fair Pc.cut
  simp only [List.length_take, List.length_drop]
  exact ⟨by omega, by omega, by omega, fun x hx => h4 x (List.mem_of_mem_drop (List.mem_of_mem_take hx))⟩
inductive Tr where
  | nil
  | node (l : Tr) (p : Pc) (r : Tr)
namespace Tr
def len : Tr → Nat
  | nil => 0
  | node l p r => l.len + p.b.length + r.len
def nf : Tr → Nat
  | nil => 0
  | node l p r => l.nf + p.fs.length + r.nf
def np : Tr → Nat
  | nil => 0
  | node l _ r => l.np + 1 + r.np
def lev : Tr → Nat
  | nil => 0
  | node l _ r => 1 + max l.lev r.lev
def ps : Tr → List Pc
  | nil => []
  | node l p r => l.ps ++ p :: r.ps
def bs : Tr → List Int
  | nil => []
  | node l p r => l.bs ++ (p.b ++ r.bs)
def Even : Tr → Prop
  | nil => True
  | node l _ r => l.lev ≤ r.lev + 2 ∧ r.lev ≤ l.lev + 2 ∧ l.Even ∧ r.Even
def Fair : Tr → Prop
  | nil => True
  | node l p r => l.Fair ∧ p.Fair ∧ r.Fair
theorem len_bs : ∀ t : Tr, t.bs.length = t.len
  | nil => rfl
  | node l p r => by rw [bs, len, List.length_append, List.length_append, len_bs l, len_bs r]; omega
theorem nf_bs : ∀ t : Tr, (feN 0 t.bs).length = t.nf
  | nil => rfl
  | node l p r => by
    rw [bs, nf, feN_append, feN_append, List.length_append, List.length_append, nf_bs l, feN_length p.b, feN_length r.bs, nf_bs r, Pc.fs, feN_length p.b p.base]; omega
theorem bs_ps : ∀ t : Tr, t.bs = t.ps.flatMap Pc.b
  | nil => rfl
  | node l p r => by rw [bs, ps, List.flatMap_append, List.flatMap_cons, bs_ps l, bs_ps r]
theorem fair_ps : ∀ t : Tr, t.Fair ↔ ∀ p ∈ t.ps, p.Fair
  | nil => by simp [Fair, ps]
  | node l p r => by
    simp only [Fair, ps, fair_ps l, fair_ps r, List.mem_append, List.mem_cons]
    constructor
    · rintro ⟨h1, h2, h3⟩ q (h | rfl | h)
      · exact h1 q h
      · exact h2
      · exact h3 q h
    · intro h
      exact ⟨fun q hq => h q (.inl hq), h p (.inr (.inl rfl)), fun q hq => h q (.inr (.inr hq))⟩
theorem nf_le : ∀ t : Tr, t.nf ≤ t.len
  | nil => Nat.le_refl _
  | node l p r => by
    have h1 := nf_le l
    have h2 := nf_le r
    have h3 := feN_le p.b p.base
    unfold nf len Pc.fs; omega
theorem np_le : ∀ t : Tr, t.Fair → t.np ≤ t.len
  | nil, _ => Nat.le_refl _
  | node l p r, h => by
    have h1 := np_le l h.1
    have h2 := np_le r h.2.2
    have h3 := h.2.1.1
    unfold np len; omega
theorem lev_le : ∀ t : Tr, t.lev ≤ t.np
  | nil => Nat.le_refl _
  | node l p r => by
    have h1 := lev_le l
    have h2 := lev_le r
    unfold np lev; omega
def turnR : Tr → Pc → Tr → Tr
  | node a q (node b s c), p, r => if (node b s c).lev ≤ a.lev then node a q (node (node b s c) p r) else node (node a q b) s (node c p r)
  | node a q nil, p, r => node a q (node nil p r)
  | nil, p, r => node nil p r
def turnL (l : Tr) (p : Pc) : Tr → Tr
  | node (node b s c) q a => if (node b s c).lev ≤ a.lev then node (node l p (node b s c)) q a else node (node l p b) s (node c q a)
  | node nil q a => node (node l p nil) q a
  | nil => node l p nil
def even (l : Tr) (p : Pc) (r : Tr) : Tr := if r.lev + 2 < l.lev then turnR l p r else if l.lev + 2 < r.lev then turnL l p r else node l p r
theorem turnR_node (a b c r : Tr) (q s p : Pc) : turnR (node a q (node b s c)) p r = if (node b s c).lev ≤ a.lev then node a q (node (node b s c) p r) else node (node a q b) s (node c p r) := rfl
theorem turnL_node (a b c l : Tr) (q s p : Pc) : turnL l p (node (node b s c) q a) = if (node b s c).lev ≤ a.lev then node (node l p (node b s c)) q a else node (node l p b) s (node c q a) := rfl
theorem ps_turnR (l : Tr) (p : Pc) (r : Tr) : (turnR l p r).ps = l.ps ++ p :: r.ps := by
  match l with
  | nil => simp [turnR, ps]
  | node a q nil => simp [turnR, ps]
  | node a q (node b s c) => rw [turnR_node]; split <;> simp [ps]
theorem ps_turnL (l : Tr) (p : Pc) (r : Tr) : (turnL l p r).ps = l.ps ++ p :: r.ps := by
  match r with
  | nil => simp [turnL, ps]
  | node nil q a => simp [turnL, ps]
  | node (node b s c) q a => rw [turnL_node]; split <;> simp [ps]
theorem ps_even (l : Tr) (p : Pc) (r : Tr) : (even l p r).ps = l.ps ++ p :: r.ps := by
  unfold even
  split
  · exact ps_turnR l p r
  · split
    · exact ps_turnL l p r
    · rfl
theorem even_even (l : Tr) (p : Pc) (r : Tr) (hl : l.Even) (hr : r.Even) (h1 : l.lev ≤ r.lev + 3) (h2 : r.lev ≤ l.lev + 3) :
    (even l p r).Even ∧ (l.lev ≤ r.lev + 2 → r.lev ≤ l.lev + 2 → (even l p r).lev = 1 + max l.lev r.lev) ∧ max l.lev r.lev ≤ (even l p r).lev ∧ (even l p r).lev ≤ 1 + max l.lev r.lev := by
  unfold even
  split
  · rename_i hc
    match l, hl with
    | nil, _ => simp [lev] at hc
    | node a q nil, hl =>
      simp only [Even, lev] at hl hc h1
      refine ⟨⟨?_, ?_, hl.2.2.1, ?_, ?_, trivial, hr⟩, fun _ _ => ?_, ?_, ?_⟩ <;> simp only [turnR, lev] at * <;> omega
    | node a q (node b s c), hl =>
      simp only [Even, lev] at hl hc h1 ⊢
      rw [turnR_node]
      split
      · rename_i h
        simp only [lev] at h
        refine ⟨?_, ?_⟩
        · simp only [Even, lev]
          refine ⟨?_, ?_, hl.2.2.1, ?_, ?_, hl.2.2.2, hr⟩ <;> omega
        · simp only [lev]; omega
      · rename_i h
        simp only [lev] at h
        refine ⟨?_, ?_⟩
        · simp only [Even, lev]
          refine ⟨?_, ?_, ⟨?_, ?_, hl.2.2.1, hl.2.2.2.2.2.1⟩, ?_, ?_, hl.2.2.2.2.2.2, hr⟩ <;> omega
        · simp only [lev]; omega
  · rename_i hc
    split
    · rename_i hd
      match r, hr with
      | nil, _ => simp [lev] at hd
      | node nil q a, hr =>
        simp only [Even, lev] at hr hd h2
        refine ⟨⟨?_, ?_, ⟨?_, ?_, hl, trivial⟩, hr.2.2.2⟩, fun _ _ => ?_, ?_, ?_⟩ <;> simp only [turnL, lev] at * <;> omega
      | node (node b s c) q a, hr =>
        simp only [Even, lev] at hr hd h2 hc ⊢
        rw [turnL_node]
        split
        · rename_i h
          simp only [lev] at h
          refine ⟨?_, ?_⟩
          · simp only [Even, lev]
            refine ⟨?_, ?_, ⟨?_, ?_, hl, hr.2.2.1⟩, hr.2.2.2⟩ <;> omega
          · simp only [lev]; omega
        · rename_i h
          simp only [lev] at h
          refine ⟨?_, ?_⟩
          · simp only [Even, lev]
            refine ⟨?_, ?_, ⟨?_, ?_, hl, hr.2.2.1.2.2.1⟩, ?_, ?_, hr.2.2.1.2.2.2, hr.2.2.2⟩ <;> omega
          · simp only [lev]; omega
    · exact ⟨⟨by omega, by omega, hl, hr⟩, fun _ _ => by simp only [lev], by simp only [lev]; omega, by simp only [lev]; omega⟩
def join (l : Tr) (p : Pc) (r : Tr) : Tr :=
  if r.lev + 2 < l.lev then
    match l with
    | node a q b => even a q (join b p r)
    | nil => node nil p r
  else if l.lev + 2 < r.lev then
    match r with
    | node a q b => even (join l p a) q b
    | nil => node l p nil
  else node l p r
termination_by l.np + r.np
decreasing_by all_goals (simp only [np]; omega)
theorem join_left (a b : Tr) (q p : Pc) (r : Tr) (h : r.lev + 2 < (node a q b).lev) : join (node a q b) p r = even a q (join b p r) := by rw [join.eq_def, if_pos h]
theorem join_right (l : Tr) (a b : Tr) (q p : Pc) (h : ¬ (node a q b).lev + 2 < l.lev) (h2 : l.lev + 2 < (node a q b).lev) : join l p (node a q b) = even (join l p a) q b := by rw [join.eq_def, if_neg h, if_pos h2]
theorem join_tie (l : Tr) (p : Pc) (r : Tr) (h : ¬ r.lev + 2 < l.lev) (h2 : ¬ l.lev + 2 < r.lev) : join l p r = node l p r := by rw [join.eq_def, if_neg h, if_neg h2]
theorem join_ps : ∀ (n : Nat) (l : Tr) (p : Pc) (r : Tr), l.np + r.np ≤ n → (join l p r).ps = l.ps ++ p :: r.ps := by
  intro n
  induction n with
  | zero =>
    intro l p r h
    have h3 := lev_le l
    have h4 := lev_le r
    rw [join_tie _ _ _ (by omega) (by omega)]; rfl
  | succ n ih =>
    intro l p r h
    by_cases h1 : r.lev + 2 < l.lev
    · match l with
      | nil => simp [lev] at h1
      | node a q b =>
        rw [join_left _ _ _ _ _ h1, ps_even, ih b p r (by simp only [np] at h; omega)]
        simp [ps]
    · by_cases h2 : l.lev + 2 < r.lev
      · match r with
        | nil => simp [lev] at h2
        | node a q b =>
          rw [join_right _ _ _ _ _ h1 h2, ps_even, ih l p a (by simp only [np] at h; omega)]
          simp [ps]
      · rw [join_tie _ _ _ h1 h2]; rfl
theorem ps_join (l : Tr) (p : Pc) (r : Tr) : (join l p r).ps = l.ps ++ p :: r.ps := join_ps _ l p r (Nat.le_refl _)
theorem join_ev : ∀ (n : Nat) (l : Tr) (p : Pc) (r : Tr), l.np + r.np ≤ n → l.Even → r.Even → (join l p r).Even ∧ max l.lev r.lev ≤ (join l p r).lev ∧ (join l p r).lev ≤ 1 + max l.lev r.lev := by
  intro n
  induction n with
  | zero =>
    intro l p r h hl hr
    have h3 := lev_le l
    have h4 := lev_le r
    rw [join_tie _ _ _ (by omega) (by omega)]
    refine ⟨⟨by omega, by omega, hl, hr⟩, ?_⟩
    simp only [lev]; omega
  | succ n ih =>
    intro l p r h hl hr
    by_cases h1 : r.lev + 2 < l.lev
    · match l, hl with
      | nil, _ => simp [lev] at h1
      | node a q b, hl =>
        rw [join_left _ _ _ _ _ h1]
        obtain ⟨i1, i2, i3⟩ := ih b p r (by simp only [np] at h; omega) hl.2.2.2 hr
        obtain ⟨e1, e2, e3, e4⟩ := hl
        simp only [lev] at h1 ⊢
        obtain ⟨k1, k2, k3, k4⟩ := even_even a q (join b p r) e3 i1 (by omega) (by omega)
        refine ⟨k1, ?_, ?_⟩
        · by_cases hh : (join b p r).lev ≤ a.lev + 2
          · have := k2 (by omega) hh; omega
          · omega
        · omega
    · by_cases h2 : l.lev + 2 < r.lev
      · match r, hr with
        | nil, _ => simp [lev] at h2
        | node a q b, hr =>
          rw [join_right _ _ _ _ _ h1 h2]
          obtain ⟨i1, i2, i3⟩ := ih l p a (by simp only [np] at h; omega) hl hr.2.2.1
          obtain ⟨e1, e2, e3, e4⟩ := hr
          simp only [lev] at h2 ⊢
          obtain ⟨k1, k2, k3, k4⟩ := even_even (join l p a) q b i1 e4 (by omega) (by omega)
          refine ⟨k1, ?_, ?_⟩
          · by_cases hh : (join l p a).lev ≤ b.lev + 2
            · have := k2 hh (by omega); omega
            · omega
          · omega
      · rw [join_tie _ _ _ h1 h2]
        refine ⟨⟨by omega, by omega, hl, hr⟩, ?_⟩
        simp only [lev]; omega
theorem even_join (l : Tr) (p : Pc) (r : Tr) (hl : l.Even) (hr : r.Even) : (join l p r).Even := (join_ev _ l p r (Nat.le_refl _) hl hr).1
def split : Tr → Nat → Tr × Tr
  | nil, _ => (nil, nil)
  | node l p r, at_ =>
    if at_ ≤ l.len then ((split l at_).1, join (split l at_).2 p r)
    else if l.len + p.b.length ≤ at_ then (join l p (split r (at_ - (l.len + p.b.length))).1, (split r (at_ - (l.len + p.b.length))).2)
    else (join l (p.cut 0 (at_ - l.len)) nil, join nil (p.cut (at_ - l.len) p.b.length) r)
theorem even_split : ∀ (t : Tr) (i : Nat), t.Even → (split t i).1.Even ∧ (split t i).2.Even
  | nil, _, _ => ⟨trivial, trivial⟩
  | node l p r, i, h => by
    unfold split
    obtain ⟨e1, e2, e3, e4⟩ := h
    split
    · exact ⟨(even_split l i e3).1, even_join _ _ _ (even_split l i e3).2 e4⟩
    · split
      · exact ⟨even_join _ _ _ e3 (even_split r _ e4).1, (even_split r _ e4).2⟩
      · exact ⟨even_join _ _ _ e3 trivial, even_join _ _ _ trivial e4⟩
theorem fair_join {l r : Tr} {p : Pc} (hl : l.Fair) (hp : p.Fair) (hr : r.Fair) : (join l p r).Fair := by
  rw [fair_ps] at *
  rw [ps_join]
  intro q hq
  rcases List.mem_append.1 hq with h | h
  · exact hl q h
  · rcases List.mem_cons.1 h with rfl | h
    · exact hp
    · exact hr q h
theorem bs_join (l r : Tr) (p : Pc) : (join l p r).bs = l.bs ++ (p.b ++ r.bs) := by
  rw [bs_ps, ps_join, List.flatMap_append, List.flatMap_cons, bs_ps l, bs_ps r]
theorem len_join (l r : Tr) (p : Pc) : (join l p r).len = l.len + p.b.length + r.len := by
  rw [← len_bs, bs_join, List.length_append, List.length_append, len_bs, len_bs]; omega
theorem fair_split : ∀ (t : Tr) (i : Nat), t.Fair → (split t i).1.Fair ∧ (split t i).2.Fair
  | nil, _, _ => ⟨trivial, trivial⟩
  | node l p r, i, h => by
    unfold split
    obtain ⟨e1, e2, e3⟩ := h
    split
    · exact ⟨(fair_split l i e1).1, fair_join (fair_split l i e1).2 e2 e3⟩
    · split
      · exact ⟨fair_join e1 e2 (fair_split r _ e3).1, (fair_split r _ e3).2⟩
      · exact ⟨fair_join e1 (e2.cut (by omega) (by omega)) trivial, fair_join trivial (e2.cut (by omega) (Nat.le_refl _)) e3⟩
theorem bs_split : ∀ (t : Tr) (i : Nat), (split t i).1.bs = t.bs.take i ∧ (split t i).2.bs = t.bs.drop i
  | nil, _ => by simp [split, bs]
  | node l p r, i => by
    have hl := len_bs l
    unfold split
    split
    · rename_i h
      obtain ⟨i1, i2⟩ := bs_split l i
      refine ⟨?_, ?_⟩
      · rw [i1, bs, List.take_append_of_le_length (by omega)]
      · rw [bs_join, i2, bs, List.drop_append_of_le_length (by omega)]
    · split
      · rename_i h h2
        obtain ⟨i1, i2⟩ := bs_split r (i - (l.len + p.b.length))
        have e : i = (l.bs ++ p.b).length + (i - (l.len + p.b.length)) := by rw [List.length_append]; omega
        refine ⟨?_, ?_⟩
        · rw [bs_join, i1, bs, ← List.append_assoc, ← List.append_assoc]
          conv => rhs; rw [e]
          rw [List.take_length_add_append]
        · rw [i2, bs, ← List.append_assoc]
          conv => rhs; rw [e]
          rw [List.drop_length_add_append]
      · rename_i h h2
        have e : i = l.bs.length + (i - l.len) := by omega
        refine ⟨?_, ?_⟩
        · rw [bs_join]
          conv => rhs; rw [bs, e, List.take_length_add_append, List.take_append_of_le_length (by omega)]
          simp [Pc.cut, bs]
        · rw [bs_join]
          conv => rhs; rw [bs, e, List.drop_length_add_append, List.drop_append_of_le_length (by omega)]
          simp only [Pc.cut, bs, List.nil_append]
          rw [List.take_of_length_le (by rw [List.length_drop]; omega)]
theorem len_split (t : Tr) (i : Nat) (h : i ≤ t.len) : (split t i).1.len = i ∧ (split t i).2.len = t.len - i := by
  obtain ⟨h1, h2⟩ := bs_split t i
  rw [← len_bs, ← len_bs, h1, h2, List.length_take, List.length_drop, len_bs]; omega
end Tr
end Go.Proofs.YtamhnffokoejjaaGreatDoor
namespace Go.Proofs.YtamhnffokoejjaaGreatDoor
set_option linter.unusedSimpArgs false
set_option linter.unusedVariables false
set_option linter.unusedSectionVars false
open Go.RowKit
def lnS (F : List Int) (k : Nat) : Int := if k = 0 then 0 else F.getD (k - 1) 0 + 1
def lnE (F : List Int) (n : Int) (k : Nat) : Int := if k < F.length then F.getD k 0 else n
structure FeedsOk (F : List Int) (n : Int) : Prop where
  up : ∀ i j, i < j → j < F.length → F.getD i 0 < F.getD j 0
  lo : ∀ i, i < F.length → 0 ≤ F.getD i 0
  hi : ∀ i, i < F.length → F.getD i 0 < n
  n0 : 0 ≤ n
  nn : (F.length : Int) ≤ n
theorem getD_in {F : List Int} {i : Nat} (h : i < F.length) : F.getD i 0 = F[i] := by simp [List.getD_eq_getElem?_getD, h]
theorem feedsOk (L : List Int) : FeedsOk (feN 0 L) L.length := by
  refine ⟨fun i j hij hj => ?_, fun i h => ?_, fun i h => ?_, by omega, by have := feN_le L 0; omega⟩
  · rw [getD_in (Nat.lt_trans hij hj), getD_in hj]
    exact List.pairwise_iff_getElem.1 (feN_sorted L 0) i j (Nat.lt_trans hij hj) hj hij
  · rw [getD_in h]
    exact (feN_mem L 0 _ (List.getElem_mem h)).1
  · rw [getD_in h]
    have := (feN_mem L 0 _ (List.getElem_mem h)).2
    omega
theorem FeedsOk.s0 {F : List Int} {n : Int} (h : FeedsOk F n) {k : Nat} (hk : k ≤ F.length) : 0 ≤ lnS F k := by
  unfold lnS
  split
  · exact Int.le_refl _
  · have := h.lo (k - 1) (by omega)
    omega
theorem FeedsOk.se {F : List Int} {n : Int} (h : FeedsOk F n) {k : Nat} (hk : k ≤ F.length) : lnS F k ≤ lnE F n k := by
  unfold lnS lnE
  split
  · split
    · exact h.lo k (by assumption)
    · exact h.n0
  · split
    · have := h.up (k - 1) k (by omega) (by assumption)
      omega
    · have := h.hi (k - 1) (by omega)
      omega
theorem FeedsOk.en {F : List Int} {n : Int} (h : FeedsOk F n) {k : Nat} (hk : k ≤ F.length) : lnE F n k ≤ n := by
  unfold lnE
  split
  · have := h.hi k (by assumption)
    omega
  · exact Int.le_refl _
theorem below_lt : ∀ (F : List Int) (x : Int) (j : Nat), j < below x F → j < F.length ∧ F.getD j 0 < x
  | [], x, j, h => absurd h (by simp [below])
  | f :: F, x, j, h => by
    unfold below at h
    by_cases hf : f < x
    · rw [List.takeWhile_cons_of_pos (by simpa using hf)] at h
      cases j with
      | zero => exact ⟨by simp, by simpa using hf⟩
      | succ j =>
        have := below_lt F x j (by unfold below; simpa using h)
        exact ⟨by simpa using this.1, by simpa using this.2⟩
    · rw [List.takeWhile_cons_of_neg (by simpa using hf)] at h
      exact absurd h (by simp)
theorem below_le : ∀ (F : List Int) (x : Int), below x F ≤ F.length
  | [], x => by simp [below]
  | f :: F, x => by
    unfold below
    by_cases hf : f < x
    · rw [List.takeWhile_cons_of_pos (by simpa using hf), List.length_cons, List.length_cons]
      exact Nat.succ_le_succ (below_le F x)
    · rw [List.takeWhile_cons_of_neg (by simpa using hf)]; simp
theorem below_at : ∀ (F : List Int) (x : Int), below x F < F.length → x ≤ F.getD (below x F) 0
  | [], x, h => absurd h (by simp)
  | f :: F, x, h => by
    by_cases hf : f < x
    · have e : below x (f :: F) = below x F + 1 := by unfold below; rw [List.takeWhile_cons_of_pos (by simpa using hf)]; rfl
      rw [e] at h ⊢
      have := below_at F x (by simpa using h)
      simpa using this
    · have e : below x (f :: F) = 0 := by unfold below; rw [List.takeWhile_cons_of_neg (by simpa using hf)]; rfl
      rw [e]
      simp; omega
end Go.Proofs.YtamhnffokoejjaaGreatDoor
namespace Go.Proofs.YtamhnffokoejjaaGreatDoor
set_option linter.unusedSimpArgs false
set_option linter.unusedVariables false
set_option linter.unusedSectionVars false
open Go.RowKit
abbrev Qs := List (Int × Int)
def QR (w : World) (v : Value) (l : Qs) : Prop := ∃ (A : Option Addr) (cap : Nat), v = .slice A l.length cap ∧ l.length ≤ cap ∧ (0 < l.length → ∃ b off, A = some ⟨b, off, none⟩ ∧ b < w.heap.size ∧ ∀ (j : Nat) (h : j < l.length), w.cell? ⟨b, off + j * 2, none⟩ = some (.int .i64 l[j].1) ∧ w.cell? ⟨b, off + j * 2 + 1, none⟩ = some (.int .i64 l[j].2))
theorem QR.later {w w' : World} {v : Value} {l : Qs} (h : QR w v l) (ha : AnyLater w w') : QR w' v l := by
  obtain ⟨A, cap, h1, h2, h3⟩ := h
  refine ⟨A, cap, h1, h2, fun h0 => ?_⟩
  obtain ⟨b, off, e, hb, hc⟩ := h3 h0
  exact ⟨b, off, e, Nat.lt_of_lt_of_le hb ha.below.size, fun j hj => ⟨(ha.below.cell hb).trans (hc j hj).1, (ha.below.cell hb).trans (hc j hj).2⟩⟩
theorem QR.form {w : World} {v : Value} {l : Qs} (h : QR w v l) : ∃ A cap, v = .slice A l.length cap ∧ l.length ≤ cap := by
  obtain ⟨A, cap, h1, h2, _⟩ := h
  exact ⟨A, cap, h1, h2⟩
theorem QR.void (w : World) (A : Option Addr) (cap : Nat) : QR w (.slice A 0 cap) [] := ⟨A, cap, rfl, Nat.zero_le _, fun h => absurd h (by decide)⟩
theorem QR.at {w : World} {A : Option Addr} {n cap : Nat} {l : Qs} (h : QR w (.slice A n cap) l) (j : Nat) (hj : j < l.length) : ∃ b off, A = some ⟨b, off, none⟩ ∧ b < w.heap.size ∧ w.cell? ⟨b, off + j * 2, none⟩ = some (.int .i64 l[j].1) ∧ w.cell? ⟨b, off + j * 2 + 1, none⟩ = some (.int .i64 l[j].2) := by
  obtain ⟨A', cap', e, h2, h3⟩ := h
  cases e
  obtain ⟨b, off, e, hb, hc⟩ := h3 (by omega)
  exact ⟨b, off, e, hb, hc j hj⟩
theorem qaddr_add (b off n : Nat) : (⟨b, off, none⟩ : Addr).add n = ⟨b, off + n, none⟩ := by unfold Addr.add; split <;> simp_all
theorem QR.drop {w : World} {A : Option Addr} {cap : Nat} {l : Qs} (h : QR w (.slice A l.length cap) l) (n : Nat) (hn : n ≤ l.length) : QR w (.slice (if cap = n then A else A.map (fun x => x.add (n * 2))) (l.length - n) (cap - n)) (l.drop n) := by
  obtain ⟨A', cap', e, h2, h3⟩ := h
  cases e
  refine ⟨_, _, by rw [List.length_drop], by rw [List.length_drop]; omega, fun h0 => ?_⟩
  rw [List.length_drop] at h0
  obtain ⟨b, off, rfl, hb, hc⟩ := h3 (by omega)
  rw [if_neg (by omega)]
  refine ⟨b, off + n * 2, by rw [Option.map_some, qaddr_add], hb, fun j hj => ?_⟩
  rw [List.length_drop] at hj
  have := hc (n + j) (by omega)
  rw [show off + n * 2 + j * 2 = off + (n + j) * 2 by omega, List.getElem_drop]
  exact this
theorem QR.take {w : World} {A : Option Addr} {cap : Nat} {l : Qs} (h : QR w (.slice A l.length cap) l) (n : Nat) (hn : n ≤ l.length) : QR w (.slice A n cap) (l.take n) := by
  obtain ⟨A', cap', e, h2, h3⟩ := h
  cases e
  have hl : (l.take n).length = n := by rw [List.length_take]; omega
  refine ⟨A, cap, by rw [hl], by rw [hl]; omega, fun h0 => ?_⟩
  rw [hl] at h0
  obtain ⟨b, off, rfl, hb, hc⟩ := h3 (by omega)
  refine ⟨b, off, rfl, hb, fun j hj => ?_⟩
  rw [hl] at hj
  rw [List.getElem_take]
  exact hc j (by omega)
def flatQ (l : Qs) : List Value := l.flatMap fun b => [.int .i64 b.1, .int .i64 b.2]
theorem flatQ_nil : flatQ [] = [] := rfl
theorem flatQ_cons (b : Int × Int) (l : Qs) : flatQ (b :: l) = .int .i64 b.1 :: .int .i64 b.2 :: flatQ l := rfl
theorem flatQ_append (a b : Qs) : flatQ (a ++ b) = flatQ a ++ flatQ b := by unfold flatQ; rw [List.flatMap_append]
theorem flatQ_length : ∀ l : Qs, (flatQ l).length = l.length * 2
  | [] => rfl
  | b :: l => by rw [flatQ_cons, List.length_cons, List.length_cons, flatQ_length l, List.length_cons]; omega
theorem flatQ_0 : ∀ (l : Qs) (j : Nat), (flatQ l)[j * 2]? = (l[j]?).map fun b => .int .i64 b.1
  | [], j => by simp [flatQ_nil]
  | b :: l, 0 => rfl
  | b :: l, j + 1 => by
    rw [flatQ_cons, show (j + 1) * 2 = j * 2 + 1 + 1 by omega, List.getElem?_cons_succ, List.getElem?_cons_succ, flatQ_0 l j, List.getElem?_cons_succ]
theorem flatQ_1 : ∀ (l : Qs) (j : Nat), (flatQ l)[j * 2 + 1]? = (l[j]?).map fun b => .int .i64 b.2
  | [], j => by simp [flatQ_nil]
  | b :: l, 0 => rfl
  | b :: l, j + 1 => by
    rw [flatQ_cons, show (j + 1) * 2 + 1 = j * 2 + 1 + 1 + 1 by omega, List.getElem?_cons_succ, List.getElem?_cons_succ, flatQ_1 l j, List.getElem?_cons_succ]
theorem flatQ_one (l : Qs) : ∀ u ∈ flatQ l, u.oneCell' = true := by
  intro u hu
  obtain ⟨b, _, hb⟩ := List.mem_flatMap.1 hu
  rcases List.mem_cons.1 hb with rfl | hb
  · rfl
  · rcases List.mem_cons.1 hb with rfl | hb
    · rfl
    · cases hb
abbrev OQ (t : TypeId) (w : World) (B : Nat) (v : Value) (l : Qs) : Prop := w.ownsRow B t 2 v l.length (flatQ l)
theorem OQ.rq {t : TypeId} {w : World} {B : Nat} {v : Value} {l : Qs} (h : OQ t w B v l) : QR w v l := by
  rcases h.2 with ⟨rfl, h0⟩ | ⟨g, cap, cur, rfl, h2, h3, h4, h5, h6, h7⟩
  · refine ⟨none, 0, by rw [h0], by omega, fun hp => by omega⟩
  · refine ⟨some ⟨g, 0, none⟩, cap, rfl, h4, fun _ => ⟨g, 0, rfl, own_lt h3, fun j hj => ?_⟩⟩
    have e : ∀ k, k < l.length * 2 → cur[k]? = (flatQ l)[k]? := fun k hk => by
      have : (cur.toList.take (l.length * 2))[k]? = (flatQ l)[k]? := by rw [h7]
      rw [List.getElem?_take_of_lt hk] at this
      simpa using this
    rw [Nat.zero_add, own_row h3, own_row h3, e _ (by omega), e _ (by omega), flatQ_0, flatQ_1, List.getElem?_eq_getElem hj]
    exact ⟨rfl, rfl⟩
theorem OQ.later {t : TypeId} {w w' : World} {B : Nat} {v : Value} {l : Qs} (ha : AnyLater w w') (h : OQ t w B v l) : OQ t w' B v l := owns_later ha h
theorem OQ.form {t : TypeId} {w : World} {B : Nat} {v : Value} {l : Qs} (h : OQ t w B v l) : ∃ A cap, v = .slice A l.length cap ∧ l.length ≤ cap := (OQ.rq h).form
theorem OQ.wide {t : TypeId} {w : World} {B C : Nat} {v : Value} {l : Qs} (hC : C ≤ B) (h : OQ t w B v l) : OQ t w C v l := by
  refine ⟨h.1, ?_⟩
  rcases h.2 with q | ⟨g, cap, cur, h0, h1, h2⟩
  · exact .inl q
  · exact .inr ⟨g, cap, cur, h0, by omega, h2⟩
theorem OQ.grown {t : TypeId} {W w w2 : World} {B : Nat} {v : Value} {l : Qs} (ho : OQ t w B v l) (hW : W.heap.size ≤ B) (h : AnyLater W w) (hg : w.grownBy w2 v.ownBlock) : AnyLater W w2 :=
  grown_later h hg (fun q hq => Nat.le_trans hW (owns_base ho q hq))
theorem OQ.empty {t : TypeId} {w : World} {g B : Nat} (hB : B ≤ g) (h : w.heap[g]? = some (.cells #[] t)) : OQ t w B (.slice (some ⟨g, 0, none⟩) 0 0) [] := ⟨rfl, .inr ⟨g, 0, #[], rfl, hB, h, Nat.le_refl _, Nat.zero_le _, rfl, rfl⟩⟩
theorem OQ.nil (t : TypeId) (w : World) (B : Nat) : OQ t w B (.slice none 0 0) [] := ⟨rfl, .inl ⟨rfl, rfl⟩⟩
theorem OQ.one {t : TypeId} {w : World} {g B : Nat} {r : Int × Int} (hB : B ≤ g) (h : w.heap[g]? = some (.cells #[.int .i64 r.1, .int .i64 r.2] t)) : OQ t w B (.slice (some ⟨g, 0, none⟩) 1 1) [r] := ⟨rfl, .inr ⟨g, 1, _, rfl, hB, h, Nat.le_refl _, by unfold maxLen; omega, rfl, rfl⟩⟩
theorem QR.cells {w : World} {b off : Nat} {l : Qs} (hc : ∀ (j : Nat) (h : j < l.length), w.cell? ⟨b, off + j * 2, none⟩ = some (.int .i64 l[j].1) ∧ w.cell? ⟨b, off + j * 2 + 1, none⟩ = some (.int .i64 l[j].2)) :
    ∀ (j : Nat) (u : Value), (flatQ l)[j]? = some u → w.cell? ((⟨b, off, none⟩ : Addr).add j) = some u := by
  intro j u hu
  have hj : j < l.length * 2 := by
    rcases Nat.lt_or_ge j (l.length * 2) with h | h
    · exact h
    · rw [List.getElem?_eq_none (by rw [flatQ_length]; exact h)] at hu; cases hu
  have hk : j / 2 < l.length := by omega
  rw [qaddr_add]
  rcases Nat.mod_two_eq_zero_or_one j with hm | hm
  · have e : j = j / 2 * 2 := by omega
    rw [e] at hu ⊢
    rw [flatQ_0, List.getElem?_eq_getElem hk] at hu
    rw [(hc _ hk).1]; exact hu
  · have e : j = j / 2 * 2 + 1 := by omega
    rw [e] at hu ⊢
    rw [flatQ_1, List.getElem?_eq_getElem hk] at hu
    rw [← Nat.add_assoc, (hc _ hk).2]; exact hu
structure PairT (t s : TypeId) : Prop where
  und : Tryz.prog.underlying s = some (.slice t)
  el : Tryz.prog.elem s = t
  info : (Tryz.prog.info? t).map (fun i => (i.zero, i.size, i.bytes)) = some (some (.agg #[.int .i64 0, .int .i64 0]), 2, 16)
  size : ∀ w, (Go.sizeOf (Tryz.prog.elem s)).run Tryz.prog w = .ok 2 w
theorem PairT.und' {t s : TypeId} (T : PairT t s) : Tryz.prog.underlying s = some (.slice (Tryz.prog.elem s)) := by rw [T.el]; exact T.und
theorem appQ {t s : TypeId} (T : PairT t s) {w : World} {B : Nat} {v u : Value} {l m : Qs} (ho : OQ t w B v l) (hm : QR w u m) (hB : B ≤ w.heap.size) (hlen : l.length + m.length ≤ 200000) :
    ∃ v' w', (Builtin.append_ #[s, s] s #[v, u]).run Tryz.prog w = .ok v' w' ∧ OQ t w' B v' (l ++ m) ∧ w.grownBy w' v.ownBlock := by
  obtain ⟨i0, hi0, hz0, hz1, hz2⟩ := info_parts T.info
  obtain ⟨A, cap, rfl, h2, h3⟩ := hm
  cases A with
  | none =>
    have h0 : m = [] := by
      cases m with
      | nil => rfl
      | cons x t => obtain ⟨b, off, e, _⟩ := h3 (by simp); cases e
    subst h0
    obtain ⟨A2, c2, rfl, q2⟩ := ho.form
    have hsrc := Src.ofNil (P := Tryz.prog) w (size := i0.size) T.und cap
    refine ⟨_, _, run_append_nothing (P := Tryz.prog) w s s s t i0 T.und hi0 A2 l.length c2 q2 _ hsrc, by rw [List.append_nil]; exact ho, ⟨rfl, rfl, rfl, Nat.le_refl _, fun _ _ _ => rfl⟩⟩
  | some ad =>
    by_cases h0 : 0 < m.length
    · obtain ⟨b, off, e, hb, hc⟩ := h3 h0
      cases e
      obtain ⟨v', w', k1, k2, k3, _⟩ := run_append_own (P := Tryz.prog) w B s s t i0 (.agg #[.int .i64 0, .int .i64 0]) 2 16 T.und hi0 hz0 hz1 hz2 rfl (by decide) v l.length (flatQ l) ho ⟨b, off, none⟩ m.length cap (flatQ m) (by rw [flatQ_length]) (QR.cells hc) (flatQ_one m) (by unfold maxLen; omega) (by omega) hB
      refine ⟨v', w', k1, ?_, k3⟩
      show w'.ownsRow B t 2 v' (l ++ m).length (flatQ (l ++ m))
      rw [List.length_append, flatQ_append]
      exact k2
    · obtain rfl := List.eq_nil_of_length_eq_zero (Nat.eq_zero_of_not_pos h0)
      obtain ⟨v', w', k1, k2, k3, _⟩ := run_append_own (P := Tryz.prog) w B s s t i0 (.agg #[.int .i64 0, .int .i64 0]) 2 16 T.und hi0 hz0 hz1 hz2 rfl (by decide) v l.length (flatQ l) ho ad 0 cap [] (by simp) (fun j x hx => by simp at hx) (by intro x hx; simp at hx) (by unfold maxLen; omega) (by simp at hlen; omega) hB
      refine ⟨v', w', k1, ?_, k3⟩
      show w'.ownsRow B t 2 v' (l ++ []).length (flatQ (l ++ []))
      rw [List.append_nil]
      simpa using k2
theorem appQ1 {t s : TypeId} (T : PairT t s) {w : World} {B : Nat} {v : Value} {l : Qs} (r : Int × Int) (ho : OQ t w B v l) (hB : B ≤ w.heap.size) (hl : l.length ≤ 190000) :
    ∃ u w2, (Builtin.append_ #[s, s] s #[v, .slice (some ⟨w.heap.size, 0, none⟩) 1 1]).run Tryz.prog (w.alloc (.cells #[.int .i64 r.1, .int .i64 r.2] t)) = .ok u w2 ∧ OQ t w2 B u (l ++ [r]) ∧ ∀ W, W.heap.size ≤ B → AnyLater W w → AnyLater W w2 := by
  have a1 : AnyLater w (w.alloc (.cells #[.int .i64 r.1, .int .i64 r.2] t)) := (AnyLater.refl w).alloc _
  have hm : QR (w.alloc (.cells #[.int .i64 r.1, .int .i64 r.2] t)) (.slice (some ⟨w.heap.size, 0, none⟩) 1 1) [r] := OQ.rq (OQ.one (B := 0) (Nat.zero_le _) (heap_new rfl))
  have ho2 := OQ.later a1 ho
  obtain ⟨u, w2, k1, k2, k3⟩ := appQ T ho2 hm (Nat.le_trans hB a1.below.size) (by simp; omega)
  exact ⟨u, w2, k1, k2, fun W h1 h2 => OQ.grown ho2 h1 (h2.trans a1) k3⟩
theorem copyQ {t s : TypeId} (T : PairT t s) {w : World} {v : Value} {l : Qs} (hr : QR w v l) (hl : l.length ≤ 190000) :
    ∃ u w2, (Builtin.append_ #[s, s] s #[.slice (some ⟨w.heap.size, 0, none⟩) 0 0, v]).run Tryz.prog (w.alloc (.cells #[] t)) = .ok u w2 ∧ AnyLater w w2 ∧ OQ t w2 w.heap.size u l := by
  have a1 : AnyLater w (w.alloc (.cells #[] t)) := (AnyLater.refl w).alloc _
  have ho : OQ t (w.alloc (.cells #[] t)) w.heap.size (.slice (some ⟨w.heap.size, 0, none⟩) 0 0) [] := OQ.empty (Nat.le_refl _) (heap_new rfl)
  obtain ⟨u, w2, k1, k2, k3⟩ := appQ T ho (hr.later a1) a1.below.size (by simp; omega)
  exact ⟨u, w2, k1, OQ.grown ho (Nat.le_refl _) a1 k3, k2⟩
set_option maxRecDepth 100000 in
theorem QR.cutQ {t s : TypeId} (T : PairT t s) {w : World} {v : Value} {l : Qs} (h : QR w v l) (n : Nat) (hn : n ≤ l.length) : ∃ u, QR w u (l.drop n) ∧ ∀ w', (Instr.sliceAt s v (some (.int .i64 (n : Int))) none none).run Tryz.prog w' = .ok u w' := by
  obtain ⟨A, cap, rfl, h2, h3⟩ := h
  refine ⟨_, QR.drop ⟨A, cap, rfl, h2, h3⟩ n hn, fun w' => ?_⟩
  rw [run_sliceAt_slice w' _ _ _ _ _ T.und', run_slice_l w' _ A l.length cap T.und' .i64 (n : Int) (by omega) (by omega)]
  rw [T.size]
  simp [Result.andThen, sliced]
set_option maxRecDepth 100000 in
theorem QR.uptoQ {t s : TypeId} (T : PairT t s) {w : World} {v : Value} {l : Qs} (h : QR w v l) (n : Nat) (hn : n ≤ l.length) : ∃ A cap, QR w (.slice A n cap) (l.take n) ∧ ∀ w', (Instr.sliceAt s v none (some (.int .i64 (n : Int))) none).run Tryz.prog w' = .ok (.slice A n cap) w' := by
  obtain ⟨A, cap, rfl, h2, h3⟩ := h
  have key : ∀ w', (Instr.sliceAt s (.slice A l.length cap) none (some (.int .i64 (n : Int))) none).run Tryz.prog w' = .ok (.slice (if cap = 0 then A else A.map (fun x => x.add 0)) n cap) w' := fun w' => by
    rw [run_sliceAt_slice w' _ _ _ _ _ T.und', run_slice_h w' _ A l.length cap T.und' .i64 (n : Int) (by omega) (by omega)]
    rw [T.size]
    simp [Result.andThen, sliced]
  have eA : (if cap = 0 then A else A.map (fun x => x.add 0)) = A := by
    split
    · rfl
    · cases A with
      | none => rfl
      | some a => simp [Addr.add]
  rw [eA] at key
  exact ⟨A, cap, QR.take ⟨A, cap, rfl, h2, h3⟩ n hn, key⟩
end Go.Proofs.YtamhnffokoejjaaGreatDoor
namespace Go.Proofs.YtamhnffokoejjaaGreatDoor
set_option linter.unusedSimpArgs false
set_option linter.unusedVariables false
set_option linter.unusedSectionVars false
open Go.RowKit
def RT (k : IntKind) (t : TypeId) (w : World) (v : Value) (l : List Int) : Prop := ∃ (A : Option Addr) (cap : Nat), v = .slice A l.length cap ∧ l.length ≤ cap ∧
  (0 < l.length → ∃ b off cs m, A = some ⟨b, off, none⟩ ∧ w.heap[b]? = some (.cells cs t m) ∧ ∀ (j : Nat) (h : j < l.length), cs[off + j]? = some (.int k l[j]))
theorem RT.rn {k : IntKind} {t : TypeId} {w : World} {v : Value} {l : List Int} (h : RT k t w v l) : RN k w v l := by
  obtain ⟨A, cap, h1, h2, h3⟩ := h
  refine ⟨A, cap, h1, h2, fun h0 => ?_⟩
  obtain ⟨b, off, cs, m, e, hb, hc⟩ := h3 h0
  refine ⟨b, off, e, own_lt hb, fun j hj => ?_⟩
  rw [← hc j hj]
  simp [World.cell?, hb]
theorem RT.later {k : IntKind} {t : TypeId} {w w' : World} {v : Value} {l : List Int} (h : RT k t w v l) (ha : AnyLater w w') : RT k t w' v l := by
  obtain ⟨A, cap, h1, h2, h3⟩ := h
  refine ⟨A, cap, h1, h2, fun h0 => ?_⟩
  obtain ⟨b, off, cs, m, e, hb, hc⟩ := h3 h0
  exact ⟨b, off, cs, m, e, any_own ha hb, hc⟩
theorem RT.far {k : IntKind} {t s : TypeId} {w : World} {v x : Value} {l : List Int} {g i : Nat} {cs : Array Value} {m : Nat × Nat} (h : RT k t w v l) (hg : w.heap[g]? = some (.cells cs s m)) (hne : s ≠ t) : RT k t (w.setCell ⟨g, i, none⟩ x) v l := by
  obtain ⟨A, cap, h1, h2, h3⟩ := h
  refine ⟨A, cap, h1, h2, fun h0 => ?_⟩
  obtain ⟨b, off, c2, m2, e, hb, hc⟩ := h3 h0
  refine ⟨b, off, c2, m2, e, heap_far (fun e2 => ?_) hb, hc⟩
  rw [e2, hg] at hb
  cases hb
  exact hne rfl
theorem RT.form {k : IntKind} {t : TypeId} {w : World} {v : Value} {l : List Int} (h : RT k t w v l) : ∃ A cap, v = .slice A l.length cap ∧ l.length ≤ cap := h.rn.form
theorem ON.rt {k : IntKind} {t : TypeId} {w : World} {B : Nat} {v : Value} {l : List Int} (h : ON k t w B v l) : RT k t w v l := by
  rcases h.2 with ⟨rfl, h0⟩ | ⟨g, cap, cur, rfl, h1, h2, h3, h4, h5, h6⟩
  · exact ⟨none, 0, by rw [h0], by omega, fun h => by omega⟩
  · refine ⟨_, cap, rfl, h3, fun h0 => ⟨g, 0, cur, _, rfl, h2, fun j hj => ?_⟩⟩
    have : (cur.toList.take (l.length * 1))[j]? = (l.map (Value.int k))[j]? := by rw [h6]
    rw [List.getElem?_take_of_lt (by omega), Array.getElem?_toList] at this
    rw [Nat.zero_add, this]
    simp [hj]
theorem RT.nil {k : IntKind} {t : TypeId} (w : World) : RT k t w (.slice none 0 0) [] := ⟨none, 0, rfl, Nat.le_refl _, fun h => absurd h (by decide)⟩
def RIsP (w : World) (bv fv : Value) (p : Pc) : Prop := RT .u8 5 w bv p.b ∧ RT .i32 21 w fv p.fs
theorem RIsP.later {w w' : World} {bv fv : Value} {p : Pc} (h : RIsP w bv fv p) (ha : AnyLater w w') : RIsP w' bv fv p := ⟨h.1.later ha, h.2.later ha⟩
def pcV (bv fv : Value) (p : Pc) : Value := .agg #[bv, fv, .int .i64 p.base]
def sumV (t : Tr) : Value := .agg #[.int .i64 (t.len : Int), .int .i64 (t.nf : Int), .int .i64 (t.np : Int), .int .i64 (t.lev : Int)]
def nodeC (lv rv bv fv : Value) (p : Pc) (t : Tr) : Array Value := #[lv, rv, bv, fv, .int .i64 p.base, .int .i64 (t.len : Int), .int .i64 (t.nf : Int), .int .i64 (t.np : Int), .int .i64 (t.lev : Int)]
def IsT (w : World) : Tr → Value → Prop
  | .nil, v => v = .pointer none
  | .node l p r, v => ∃ (k : Nat) (lv rv bv fv : Value), v = .pointer (some ⟨k, 0, none⟩) ∧ w.heap[k]? = some (.cells (nodeC lv rv bv fv p (.node l p r)) 193) ∧ IsT w l lv ∧ IsT w r rv ∧ RIsP w bv fv p
theorem IsT.later {w w' : World} (ha : AnyLater w w') : ∀ {t : Tr} {v : Value}, IsT w t v → IsT w' t v
  | .nil, _, h => h
  | .node l p r, v, h => by
    obtain ⟨k, lv, rv, bv, fv, h1, h2, h3, h4, h5⟩ := h
    exact ⟨k, lv, rv, bv, fv, h1, any_own ha h2, IsT.later ha h3, IsT.later ha h4, h5.later ha⟩
theorem IsT.ptr {w : World} : ∀ {t : Tr} {v : Value}, IsT w t v → ∃ q, v = .pointer q
  | .nil, _, h => ⟨none, h⟩
  | .node _ _ _, _, h => by
    obtain ⟨k, _, _, _, _, h1, _⟩ := h
    exact ⟨_, h1⟩
theorem IsT.far {w : World} {g i : Nat} {cs : Array Value} {s : TypeId} {m : Nat × Nat} {x : Value} (hg : w.heap[g]? = some (.cells cs s m)) (h8 : s ≠ 5) (h3 : s ≠ 21) (hn : s ≠ 193) :
    ∀ {t : Tr} {v : Value}, IsT w t v → IsT (w.setCell ⟨g, i, none⟩ x) t v
  | .nil, _, h => h
  | .node l p r, v, h => by
    obtain ⟨k, lv, rv, bv, fv, q1, q2, q3, q4, q5⟩ := h
    refine ⟨k, lv, rv, bv, fv, q1, heap_far (fun e => ?_) q2, IsT.far hg h8 h3 hn q3, IsT.far hg h8 h3 hn q4, q5.1.far hg h8, q5.2.far hg h3⟩
    rw [e, hg] at q2
    cases q2
    exact hn rfl
theorem RIsP.far {w : World} {g i : Nat} {cs : Array Value} {s : TypeId} {m : Nat × Nat} {x bv fv : Value} {p : Pc} (hg : w.heap[g]? = some (.cells cs s m)) (h8 : s ≠ 5) (h3 : s ≠ 21) (h : RIsP w bv fv p) : RIsP (w.setCell ⟨g, i, none⟩ x) bv fv p := ⟨h.1.far hg h8, h.2.far hg h3⟩
theorem RIsP.far3 {w : World} {g i j k : Nat} {cs : Array Value} {s : TypeId} {x y z bv fv : Value} {p : Pc} (hg : w.heap[g]? = some (.cells cs s)) (h8 : s ≠ 5) (h3 : s ≠ 21) (h : RIsP w bv fv p) :
    RIsP (((w.setCell ⟨g, i, none⟩ x).setCell ⟨g, j, none⟩ y).setCell ⟨g, k, none⟩ z) bv fv p := by
  have h1 := heap_at (i := i) (v := x) hg rfl
  have h2 := heap_at (i := j) (v := y) h1 rfl
  exact RIsP.far h2 h8 h3 (RIsP.far h1 h8 h3 (RIsP.far hg h8 h3 h))
theorem run_maxN {P : Program} (w : World) (ts : Array TypeId) (t : TypeId) (p q : Nat) : (Builtin.max_ ts t #[.int .i64 (p : Int), .int .i64 (q : Int)]).run P w = .ok (.int .i64 ((max p q : Nat) : Int)) w := by
  rw [run_max_int2]; split <;> (congr 2; omega)
theorem noted_nil (w : World) : Calls Tryz.prog 155 #[.pointer none] w fun e w' => e = .returned (sumV .nil) ∧ AnyLater w w' := by
  go_enter Tryz.func155, Tryz.ntmps155
  go_wp2_with fail
  refine bodyPost_ret (v := sumV .nil) (by simp [results, Tryz.results155, go_sem, sumV, Tr.len, Tr.nf, Tr.np, Tr.lev]) rfl ⟨rfl, ?_⟩
  repeat' (first | with_reducible assumption | with_reducible exact AnyLater.refl _ | with_reducible apply AnyLater.setCell | with_reducible apply AnyLater.later | with_reducible apply AnyLater.drewN | with_reducible apply AnyLater.drew | with_reducible apply AnyLater.alloc | ((try simp only [World.size_alloc, World.size_setCell, World.size_drew]); (try dsimp only); omega))
theorem noted_node (k : Nat) (cs : Array Value) (a b c d : Nat) (x0 x1 x2 x3 x4 : Value) (w : World) (hk : w.heap[k]? = some (.cells #[x0, x1, x2, x3, x4, .int .i64 (a : Int), .int .i64 (b : Int), .int .i64 (c : Int), .int .i64 (d : Int)] 193)) :
    Calls Tryz.prog 155 #[.pointer (some ⟨k, 0, none⟩)] w fun e w' => e = .returned (.agg #[.int .i64 (a : Int), .int .i64 (b : Int), .int .i64 (c : Int), .int .i64 (d : Int)]) ∧ AnyLater w w' := by
  have s := hk
  have l := own_lt s
  have nl : w.heap.size ≠ k := by omega
  have r := own_row s
  have f := own_free s
  clear hk s
  go_enter Tryz.func155, Tryz.ntmps155
  go_wp2_with fail
  refine bodyPost_ret (v := .agg #[.int .i64 (a : Int), .int .i64 (b : Int), .int .i64 (c : Int), .int .i64 (d : Int)]) (by simp [results, Tryz.results155, go_sem, *]) rfl ⟨rfl, ?_⟩
  repeat' (first | with_reducible assumption | with_reducible exact AnyLater.refl _ | with_reducible apply AnyLater.setCell | with_reducible apply AnyLater.later | with_reducible apply AnyLater.drewN | with_reducible apply AnyLater.drew | with_reducible apply AnyLater.alloc | ((try simp only [World.size_alloc, World.size_setCell, World.size_drew]); (try dsimp only); omega))
theorem noted_any (t : Tr) (v : Value) (w : World) (h : IsT w t v) : Calls Tryz.prog 155 #[v] w fun e w' => e = .returned (sumV t) ∧ AnyLater w w' := by
  cases t with
  | nil =>
    obtain rfl : v = .pointer none := h
    exact noted_nil w
  | node l p r =>
    obtain ⟨k, lv, rv, bv, fv, rfl, h2, _⟩ := h
    exact noted_node k #[] _ _ _ _ lv rv bv fv _ w h2
end Go.Proofs.YtamhnffokoejjaaGreatDoor
