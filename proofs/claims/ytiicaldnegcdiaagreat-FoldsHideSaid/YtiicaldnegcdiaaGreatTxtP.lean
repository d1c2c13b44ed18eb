/- text: rows of pairs of numbers in memory; the document's lines, and the line of a place: by contract. -/
import Derived.Test.YtiicaldnegcdiaaGreatRopS
import Derived.Test.YtiicaldnegcdiaaGreatTxtA
import Derived.Test.YtiicaldnegcdiaaGreatChecked
import Derived.Deep.LoopGhost
import Derived.LoopN
namespace Go.Proofs.YtiicaldnegcdiaaGreat
set_option linter.unusedSimpArgs false
set_option linter.unusedVariables false
set_option linter.unusedSectionVars false
open Go.RowKit

abbrev Prs := List (Int × Int)
/-- a slice that reads as these pairs -/
def PR (w : World) (v : Value) (l : Prs) : Prop := ∃ (A : Option Addr) (cap : Nat), v = .slice A l.length cap ∧ l.length ≤ cap ∧ (0 < l.length → ∃ b off, A = some ⟨b, off, none⟩ ∧ b < w.heap.size ∧ ∀ (j : Nat) (h : j < l.length), w.cell? ⟨b, off + j * 2, none⟩ = some (.int .i64 l[j].1) ∧ w.cell? ⟨b, off + j * 2 + 1, none⟩ = some (.int .i64 l[j].2))
theorem PR.later {w w' : World} {v : Value} {l : Prs} (h : PR w v l) (ha : AnyLater w w') : PR w' v l := by
  obtain ⟨A, cap, h1, h2, h3⟩ := h
  refine ⟨A, cap, h1, h2, fun h0 => ?_⟩
  obtain ⟨b, off, e, hb, hc⟩ := h3 h0
  exact ⟨b, off, e, Nat.lt_of_lt_of_le hb ha.below.size, fun j hj => ⟨(ha.below.cell hb).trans (hc j hj).1, (ha.below.cell hb).trans (hc j hj).2⟩⟩
theorem PR.form {w : World} {v : Value} {l : Prs} (h : PR w v l) : ∃ A cap, v = .slice A l.length cap ∧ l.length ≤ cap := by
  obtain ⟨A, cap, h1, h2, _⟩ := h
  exact ⟨A, cap, h1, h2⟩
def flatP (l : Prs) : List Value := l.flatMap fun b => [.int .i64 b.1, .int .i64 b.2]
theorem flatP_nil : flatP [] = [] := rfl
theorem flatP_cons (b : Int × Int) (l : Prs) : flatP (b :: l) = .int .i64 b.1 :: .int .i64 b.2 :: flatP l := rfl
theorem flatP_append (a b : Prs) : flatP (a ++ b) = flatP a ++ flatP b := by unfold flatP; rw [List.flatMap_append]
theorem flatP_length : ∀ l : Prs, (flatP l).length = l.length * 2
  | [] => rfl
  | b :: l => by rw [flatP_cons, List.length_cons, List.length_cons, flatP_length l, List.length_cons]; omega
theorem flatP_0 : ∀ (l : Prs) (j : Nat), (flatP l)[j * 2]? = (l[j]?).map fun b => .int .i64 b.1
  | [], j => by simp [flatP_nil]
  | b :: l, 0 => rfl
  | b :: l, j + 1 => by
    rw [flatP_cons, show (j + 1) * 2 = j * 2 + 1 + 1 by omega, List.getElem?_cons_succ, List.getElem?_cons_succ, flatP_0 l j, List.getElem?_cons_succ]
theorem flatP_1 : ∀ (l : Prs) (j : Nat), (flatP l)[j * 2 + 1]? = (l[j]?).map fun b => .int .i64 b.2
  | [], j => by simp [flatP_nil]
  | b :: l, 0 => rfl
  | b :: l, j + 1 => by
    rw [flatP_cons, show (j + 1) * 2 + 1 = j * 2 + 1 + 1 + 1 by omega, List.getElem?_cons_succ, List.getElem?_cons_succ, flatP_1 l j, List.getElem?_cons_succ]
theorem flatP_one (l : Prs) : ∀ u ∈ flatP l, u.oneCell' = true := by
  intro u hu
  obtain ⟨b, _, hb⟩ := List.mem_flatMap.1 hu
  rcases List.mem_cons.1 hb with rfl | hb
  · rfl
  · rcases List.mem_cons.1 hb with rfl | hb
    · rfl
    · cases hb
/-- a row of pairs that a call made itself -/
def OP (w : World) (B : Nat) (v : Value) (l : Prs) : Prop := w.ownsRow B 53 2 v l.length (flatP l)
theorem OP.reads {w : World} {B : Nat} {v : Value} {l : Prs} (h : OP w B v l) : PR w v l := by
  rcases h.2 with ⟨rfl, h0⟩ | ⟨g, cap, cur, rfl, h2, h3, h4, h5, h6, h7⟩
  · refine ⟨none, 0, by rw [h0], by omega, fun hp => by omega⟩
  · refine ⟨some ⟨g, 0, none⟩, cap, rfl, h4, fun _ => ⟨g, 0, rfl, own_lt h3, fun j hj => ?_⟩⟩
    have e : ∀ k, k < l.length * 2 → cur[k]? = (flatP l)[k]? := fun k hk => by
      have : (cur.toList.take (l.length * 2))[k]? = (flatP l)[k]? := by rw [h7]
      rw [List.getElem?_take_of_lt hk] at this
      simpa using this
    rw [Nat.zero_add, own_row h3, own_row h3, e _ (by omega), e _ (by omega), flatP_0, flatP_1, List.getElem?_eq_getElem hj]
    exact ⟨rfl, rfl⟩
theorem OP.later {w w' : World} {B : Nat} {v : Value} {l : Prs} (h : OP w B v l) (ha : AnyLater w w') : OP w' B v l := owns_later ha h
theorem PR.cells {w : World} {b off : Nat} {l : Prs} (hc : ∀ (j : Nat) (h : j < l.length), w.cell? ⟨b, off + j * 2, none⟩ = some (.int .i64 l[j].1) ∧ w.cell? ⟨b, off + j * 2 + 1, none⟩ = some (.int .i64 l[j].2)) :
    ∀ (j : Nat) (u : Value), (flatP l)[j]? = some u → w.cell? ((⟨b, off, none⟩ : Addr).add j) = some u := by
  intro j u hu
  have hj : j < l.length * 2 := by
    rcases Nat.lt_or_ge j (l.length * 2) with h | h
    · exact h
    · rw [List.getElem?_eq_none (by rw [flatP_length]; exact h)] at hu; cases hu
  have hk : j / 2 < l.length := by omega
  rw [addr_add]
  rcases Nat.mod_two_eq_zero_or_one j with hm | hm
  · have e : j = j / 2 * 2 := by omega
    rw [e] at hu ⊢
    rw [flatP_0, List.getElem?_eq_getElem hk] at hu
    rw [(hc _ hk).1]; exact hu
  · have e : j = j / 2 * 2 + 1 := by omega
    rw [e] at hu ⊢
    rw [flatP_1, List.getElem?_eq_getElem hk] at hu
    rw [← Nat.add_assoc, (hc _ hk).2]; exact hu
theorem info_pr : (Tryz.prog.info? 53).map (fun i => (i.zero, i.size, i.bytes)) = some (some (.agg #[.int .i64 0, .int .i64 0]), 2, 16) := by kernel_rfl
theorem OP.empty {w : World} {g B : Nat} (hB : B ≤ g) (h : w.heap[g]? = some (.cells #[] 53)) : OP w B (.slice (some ⟨g, 0, none⟩) 0 0) [] := ⟨rfl, .inr ⟨g, 0, #[], rfl, hB, h, Nat.le_refl _, Nat.zero_le _, rfl, rfl⟩⟩
theorem OP.one {w : World} {g B : Nat} {r : Int × Int} (hB : B ≤ g) (h : w.heap[g]? = some (.cells #[.int .i64 r.1, .int .i64 r.2] 53)) : OP w B (.slice (some ⟨g, 0, none⟩) 1 1) [r] := ⟨rfl, .inr ⟨g, 1, _, rfl, hB, h, Nat.le_refl _, by unfold maxLen; omega, rfl, rfl⟩⟩
/-- append(v, p), v a row of pairs of the call's own -/
theorem appP {w : World} {B : Nat} {v : Value} {l : Prs} (r : Int × Int) (ho : OP w B v l) (hB : B ≤ w.heap.size) (hl : l.length ≤ 90000) :
    ∃ u w2, (Builtin.append_ #[30, 30] 30 #[v, .slice (some ⟨w.heap.size, 0, none⟩) 1 1]).run Tryz.prog (w.alloc (.cells #[.int .i64 r.1, .int .i64 r.2] 53)) = .ok u w2 ∧ OP w2 B u (l ++ [r]) ∧ ∀ W, W.heap.size ≤ B → AnyLater W w → AnyLater W w2 := by
  have a1 : AnyLater w (w.alloc (.cells #[.int .i64 r.1, .int .i64 r.2] 53)) := (AnyLater.refl w).alloc _
  obtain ⟨i0, hi0, hz0, hz1, hz2⟩ := info_parts info_pr
  obtain ⟨A, cap, e, h2, h3⟩ := (OP.one (B := 0) (Nat.zero_le _) (heap_new rfl) : OP (w.alloc (.cells #[.int .i64 r.1, .int .i64 r.2] 53)) 0 (.slice (some ⟨w.heap.size, 0, none⟩) 1 1) [r]).reads
  obtain ⟨b, off, eA, hb, hc⟩ := h3 (by simp)
  have ho2 := ho.later a1
  have e2 : b = w.heap.size ∧ off = 0 := by
    rw [eA] at e
    simp only [Value.slice.injEq, Option.some.injEq, Addr.mk.injEq] at e
    exact ⟨e.1.1.symm, e.1.2.1.symm⟩
  obtain ⟨rfl, rfl⟩ := e2
  obtain ⟨v', w', k1, k2, k3, _⟩ := run_append_own (P := Tryz.prog) _ B 30 30 53 i0 (.agg #[.int .i64 0, .int .i64 0]) 2 16 Tryz.underlying30 hi0 hz0 hz1 hz2 rfl (by decide) v l.length (flatP l) ho2 ⟨w.heap.size, 0, none⟩ 1 1 (flatP [r]) rfl (PR.cells hc) (flatP_one [r]) (by unfold maxLen; omega) (by omega) (Nat.le_trans hB a1.below.size)
  refine ⟨v', w', k1, ?_, fun W h1 h4 => grown_later (h4.trans a1) k3 (fun q hq => Nat.le_trans h1 (owns_base ho2 q hq))⟩
  show w'.ownsRow B 53 2 v' (l ++ [r]).length (flatP (l ++ [r]))
  rw [List.length_append, flatP_append]
  exact k2

/-! ### the document's lines -/
theorem feT_snoc (l : List Int) (i : Nat) (hi : i < l.length) : feN 0 (l.take (i + 1)) = feN 0 (l.take i) ++ (if l.getD i 0 = 10 then [(i : Int)] else []) := by rw [feN_snoc l i hi]; simp [List.getD_eq_getElem?_getD, hi]
theorem lnT_range (l : List Int) (i : Nat) (hi : i ≤ l.length) : 0 ≤ lnT 0 (feN 0 (l.take i)) ∧ lnT 0 (feN 0 (l.take i)) ≤ i := by
  have hf := feedsOk (l.take i)
  have hli : (l.take i).length = i := by rw [List.length_take]; omega
  rw [hli] at hf
  rw [lnT_eq]
  split
  · omega
  · rename_i h
    have h1 := hf.lo ((feN 0 (l.take i)).length - 1) (by omega)
    have h2 := hf.hi ((feN 0 (l.take i)).length - 1) (by omega)
    omega
set_option maxRecDepth 100000 in
set_option maxHeartbeats 1600000 in
theorem xlines_any (v : Value) (l : List Int) (M : Prs) (w : World) (hM : lnL (feN 0 l) l.length = M) (hv : RN .u8 w v l) (hl : l.length ≤ 60000) : Calls Tryz.prog 8 #[v] w fun e w' => ∃ u, e = .returned u ∧ AnyLater w w' ∧ OP w' w.heap.size u M := by
  obtain ⟨A, cap, rfl, h2, h3⟩ := hv
  have HCC : Hid (∀ (i : Nat), i < l.length → ∃ b off, A = some ⟨b, off, none⟩ ∧ b < w.heap.size ∧ w.cell? ⟨b, off + i, none⟩ = some (.int .u8 (l.getD i 0))) := Lib.hid (fun i hi => by
    obtain ⟨b, off, e, hb, hc⟩ := h3 (by omega)
    exact ⟨b, off, e, hb, by rw [hc i hi]; simp [List.getD_eq_getElem?_getD, hi]⟩)
  have HSn : Hid (∀ i, i < l.length → feN 0 (l.take (i + 1)) = feN 0 (l.take i) ++ (if l.getD i 0 = 10 then [(i : Int)] else [])) := Lib.hid (fun i hi => feT_snoc l i hi)
  have HFl : Hid (∀ i, (lnP 0 (feN 0 (l.take i))).length ≤ 60000) := Lib.hid (fun i => by
    rw [lnP_length]
    have := feN_le (l.take i) 0
    rw [List.length_take] at this; omega)
  have HR : Hid (∀ i, i ≤ l.length → 0 ≤ lnT 0 (feN 0 (l.take i)) ∧ lnT 0 (feN 0 (l.take i)) ≤ i) := Lib.hid (lnT_range l)
  have HEnd : Hid (l.take l.length = l) := Lib.hid (List.take_length)
  have HM := Lib.hid hM
  have HO0 : Hid (OP (w.alloc (.cells #[] 53)) w.heap.size (.slice (some ⟨w.heap.size, 0, none⟩) 0 0) []) := Lib.hid (OP.empty (Nat.le_refl _) (heap_new rfl))
  clear h3 hM
  generalize l.length = n at *
  go_enter Tryz.func8, Tryz.ntmps8
  go_wp2_with fail
  go_loopg [3, 4, 5] n (fun kk ov fv iv wr => ∃ (i : Nat), kk = n - i ∧ i ≤ n ∧ iv = .int .i64 (i : Int) ∧ fv = .int .i64 (lnT 0 (feN 0 (l.take i))) ∧ AnyLater w wr ∧ OP wr w.heap.size ov (lnP 0 (feN 0 (l.take i))))
  case atStart => exact ⟨0, by omega, by omega, rfl, rfl, by repeat' (first | with_reducible assumption | with_reducible exact AnyLater.refl _ | with_reducible apply AnyLater.setCell | with_reducible apply AnyLater.later | with_reducible apply AnyLater.drewN | with_reducible apply AnyLater.drew | with_reducible apply AnyLater.alloc | ((try simp only [World.size_alloc, World.size_setCell, World.size_drew]); (try dsimp only); omega)), HO0.out⟩
  case round =>
    obtain ⟨i, hk, hi, rfl, rfl, a_wr, ho⟩ := hrel
    have HO := Lib.hid ho
    have HA := Lib.hid a_wr
    obtain ⟨A4, cap4, rfl, -⟩ := ho.reads.form
    have hr := HR.out i hi
    by_cases hlt : i < n
    · have d0 : (i : Int) < (n : Int) := by omega
      obtain ⟨b, off, rfl, hbb, hcc⟩ := HCC.out i hlt
      have c0 : wr.cell? ⟨b, off + i, none⟩ = some (.int .u8 (l.getD i 0)) := (a_wr.below.cell hbb).trans hcc
      have hsn := HSn.out i hlt
      generalize l.getD i 0 = c at *
      by_cases h10 : c = 10
      · subst h10
        rw [if_pos rfl] at hsn
        obtain ⟨u, wx, k1, k2, k3⟩ := appP (lnT 0 (feN 0 (l.take i)), (i : Int)) ho a_wr.below.size (by have := HFl.out i; omega)
        have K1 := Lib.hid k1
        have K2 : Hid (AnyLater w wx ∧ OP wx w.heap.size u (lnP 0 (feN 0 (l.take (i + 1)))) ∧ lnT 0 (feN 0 (l.take (i + 1))) = (i : Int) + 1) := Lib.hid ⟨k3 w (Nat.le_refl _) a_wr, by rw [hsn, lnP_snoc]; exact k2, by rw [hsn, lnT_snoc]⟩
        clear k1 k2 k3 ho hsn a_wr
        generalize (lnP 0 (feN 0 (l.take i))).length = m at *
        generalize lnT 0 (feN 0 (l.take i)) = z at *
        go_wp2_with (at_builtin; refine Lib.wpList_append_run _ rfl _ _ _ _ rfl _ _ rfl rfl _ _ K1.out ?_)
        go_roundg (n - (i + 1))
        case measure => omega
        case rel => exact ⟨i + 1, rfl, hlt, by go_num, by rw [K2.out.2.2], K2.out.1, K2.out.2.1⟩
      · have hc2 : (c == 10) = false := by simpa using h10
        rw [if_neg h10, List.append_nil] at hsn
        have K2 : Hid (OP wr w.heap.size (.slice A4 (lnP 0 (feN 0 (l.take i))).length cap4) (lnP 0 (feN 0 (l.take (i + 1)))) ∧ lnT 0 (feN 0 (l.take (i + 1))) = lnT 0 (feN 0 (l.take i))) := Lib.hid (by rw [hsn]; exact ⟨ho, rfl⟩)
        clear ho h10 hsn a_wr
        generalize (lnP 0 (feN 0 (l.take i))).length = m at *
        generalize lnT 0 (feN 0 (l.take i)) = z at *
        go_wp2_with fail
        go_roundg (n - (i + 1))
        case measure => omega
        case rel => exact ⟨i + 1, rfl, hlt, by go_num, by rw [K2.out.2], HA.out, K2.out.1⟩
    · obtain rfl : i = n := by omega
      obtain ⟨u, wx, k1, k2, k3⟩ := appP (lnT 0 (feN 0 (l.take i)), (i : Int)) ho a_wr.below.size (by have := HFl.out i; omega)
      have K1 := Lib.hid k1
      have K2 : Hid (AnyLater w wx ∧ OP wx w.heap.size u M) := Lib.hid ⟨k3 w (Nat.le_refl _) a_wr, by rw [← HM.out]; unfold lnL; rw [HEnd.out] at k2; exact k2⟩
      clear ho a_wr hlt hk HO k1 k2 k3
      generalize (lnP 0 (feN 0 (l.take i))).length = m at *
      generalize lnT 0 (feN 0 (l.take i)) = z at *
      go_wp2_with (at_builtin; refine Lib.wpList_append_run _ rfl _ _ _ _ rfl _ _ rfl rfl _ _ K1.out ?_)
      go_ret
      exact ⟨_, rfl, K2.out.1, K2.out.2⟩
end Go.Proofs.YtiicaldnegcdiaaGreat
