/- heights: the library's Repeat of one height: by contract. Up to 90000 heights. -/
import Derived.Test.YtjoadlfkdkeomaaHgtM1
import Derived.Test.YtjoadlfkdkeomaaActs
import Derived.Laws.BitsAll
import Derived.Laws.CopyRow
import Derived.Laws.MakeOwn
import Derived.LoopN
import Derived.Deep.LoopGhost
import Derived.BigRegion
import Derived.RegionTactic
import Derived.Shelf.Abstract
import Derived.ChangeKeysEq
import Derived.Deep.DeepCutAuto
import Derived.Deep.CutBlock
namespace Go.Proofs.Ytjoadlfkdkeomaa
set_option linter.unusedSimpArgs false
set_option linter.unusedVariables false
set_option linter.unusedSectionVars false
open Go.RowKit
variable {B : Nat}

/-! ### one times n, of two words -/
set_option maxRecDepth 100000 in
theorem mul64_one (n : Nat) (hn : n < 4294967296) (w : World) : Calls Try.prog 71 #[.int .u64 1, .int .u64 (n : Int)] w fun e w' => e = .returned (.tuple #[.int .u64 0, .int .u64 (n : Int)]) ∧ AnyLater w w' := by
  have h1 : bits .and .u64 (n : Int) 4294967295 = (n : Int) := by
    have := bits_mask .u64 63 (by decide) (fun x h0 h1 => by rw [IntKind.wrap_u64]; omega) 32 (by decide) (n : Int) (by omega) (by omega)
    have e : (2 : Int) ^ 32 - 1 = 4294967295 := by decide
    have e2 : (2 : Int) ^ 32 = 4294967296 := by decide
    rw [e, e2] at this
    rw [this]; omega
  have h2 : bits .and .u64 1 4294967295 = 1 := by decide
  have h3 : bits .and .u64 0 4294967295 = 0 := by decide
  have h4 : (n : Int) / 4294967296 = 0 := by omega
  go_enter Try.func71, Try.ntmps71
  go_wp2_with fail
  refine bodyPost_ret (v := .tuple #[.int .u64 0, .int .u64 (n : Int)]) (by simp [results, Try.results71, go_sem, *]) rfl ⟨rfl, ?_⟩
  repeat' (first | with_reducible assumption | with_reducible exact AnyLater.refl _ | with_reducible apply AnyLater.setCell | with_reducible apply AnyLater.later | with_reducible apply AnyLater.drewN | with_reducible apply AnyLater.drew | with_reducible apply AnyLater.alloc | ((try simp only [World.size_alloc, World.size_setCell, World.size_drew]); (try dsimp only); omega))
set_option maxRecDepth 100000 in
theorem mul_one_any (n : Nat) (hn : n < 4294967296) (w : World) : Calls Try.prog 54 #[.int .u64 1, .int .u64 (n : Int)] w fun e w' => e = .returned (.tuple #[.int .u64 0, .int .u64 (n : Int)]) ∧ AnyLater w w' := by
  have HM := Lib.hid (fun (w' : World) => mul64_one n hn w')
  go_enter Try.func54, Try.ntmps54
  go_wp2_with fail
  refine (HM.out _).mono ?_
  rintro e w1 ⟨rfl, b_w1⟩
  have z_w1 := b_w1.below.size
  have a_w1 := b_w1
  go_wp2_with fail
  refine bodyPost_ret (v := .tuple #[.int .u64 0, .int .u64 (n : Int)]) (by simp [results, Try.results54, go_sem, *]) rfl ⟨rfl, ?_⟩
  exact a_w1
/-! ### heights copied -/
theorem run_copy_row2 (w : World) (dT sT ty elem : TypeId) (g o dLen dCap : Nat) (a : Addr) (sLen sCap n : Nat) (cur : Array Value) (t : TypeId) (cs : List Value)
    (hu : Try.prog.underlying dT = some (.slice elem)) (hs : (Try.prog.info? elem).map (·.size) = some 2)
    (hg : w.heap[g]? = some (.cells cur t)) (hn : Nat.min sLen dLen = n) (hc : cs.length = n * 2)
    (hsrc : ∀ j v, cs[j]? = some v → w.cell? (a.add j) = some v) (hfit : o + cs.length ≤ cur.size) (h1 : ∀ v ∈ cs, v.oneCell' = true) :
    (Builtin.copy_ #[dT, sT] ty #[.slice (some ⟨g, o, none⟩) dLen dCap, .slice (some a) sLen sCap]).run Try.prog w =
      .ok (.int .i64 (n : Int)) (w.setRow g (cur.toList.take o ++ cs ++ cur.toList.drop (o + cs.length)).toArray) := by
  have hl := run_loadCells_list (P := Try.prog) w a cs hsrc
  have hst := run_storeCells_at Try.prog g o t cs 0 cur w hg (by simpa using hfit) h1
  rw [hc] at hl
  cases hq : Try.prog.info? elem with
  | none => simp [hq] at hs
  | some i =>
    have hi : i.size = 2 := by simpa [hq] using hs
    simp [Builtin.copy_, run_underlying hu, Builtin.lenOf, Builtin.firstCells, sizeOf, typeInfo, hq, hi, hn, hl, hst, goInt]
theorem info_tall : (Try.prog.info? 33).map (fun i => (i.zero, i.size, i.bytes)) = some (some (.agg #[.int .i64 0, .int .i64 0]), 2, 16) := by kernel_rfl
theorem size_tall : (Try.prog.info? 33).map (·.size) = some 2 := by kernel_rfl
/-- a row of n heights, of which the first k are x -/
def RepAt (G n k : Nat) (x : Int × Int) (w : World) : Prop := ∃ cur, w.heap[G]? = some (.cells cur 33) ∧ cur.size = n * 2 ∧ k ≤ n ∧ cur.toList.take (k * 2) = flatQ (List.replicate k x)
theorem flatQ_rep (x : Int × Int) (m k : Nat) (h : m ≤ k) : (flatQ (List.replicate k x)).take (m * 2) = flatQ (List.replicate m x) := by
  obtain ⟨d, rfl⟩ := Nat.exists_eq_add_of_le h
  rw [← List.replicate_append_replicate, flatQ_append, List.take_append_of_le_length (by rw [flatQ_length, List.length_replicate]; omega), List.take_of_length_le (by rw [flatQ_length, List.length_replicate]; omega)]
theorem rep_put {w : World} {G n k m : Nat} {x : Int × Int} {a : Addr} {sLen sCap : Nat} (h : RepAt G n k x w) (hm : Nat.min sLen (n - k) = m) (hsrc : ∀ j u, (flatQ (List.replicate m x))[j]? = some u → w.cell? (a.add j) = some u) (dCap : Nat) :
    ∃ w2, (∀ ty, (Builtin.copy_ #[22, 22] ty #[.slice (some ⟨G, k * 2, none⟩) (n - k) dCap, .slice (some a) sLen sCap]).run Try.prog w = .ok (.int .i64 (m : Int)) w2) ∧ RepAt G n (k + m) x w2 ∧ Stays (fun b => b = G) w w2 := by
  obtain ⟨cur, hg, hs, hk, ht⟩ := h
  have hmn : m ≤ n - k := by rw [← hm]; exact Nat.min_le_right _ _
  have hl : (flatQ (List.replicate m x)).length = m * 2 := by rw [flatQ_length, List.length_replicate]
  have hcl : cur.toList.length = n * 2 := by simpa using hs
  refine ⟨_, fun ty => run_copy_row2 w 22 22 ty 33 G (k * 2) (n - k) dCap a sLen sCap m cur 33 (flatQ (List.replicate m x)) Try.underlying22 size_tall hg hm hl hsrc (by rw [hl]; omega) (flatQ_one _), ⟨_, setRow_heap w G cur _ 33 (0, 0) hg, ?_, by omega, ?_⟩, ?_⟩
  · simp only [List.size_toArray, List.length_append, List.length_take, List.length_drop, hl, hcl]; omega
  · simp only []
    rw [ht, ← List.replicate_append_replicate, flatQ_append, List.take_append_of_le_length (by rw [List.length_append, flatQ_length, flatQ_length, List.length_replicate, List.length_replicate]; omega), List.take_of_length_le (by rw [List.length_append, flatQ_length, flatQ_length, List.length_replicate, List.length_replicate]; omega)]
  · refine ⟨rfl, rfl, rfl, by simp [World.setRow], fun q hq hne => ?_⟩
    unfold World.setRow
    simp only [Array.getElem?_modify]
    rw [if_neg (fun e => hne e.symm)]
theorem RepAt.done {w : World} {G n C : Nat} {x : Int × Int} (h : RepAt G n n x w) (hC : C ≤ G) (hn : n ≤ 90000) : OQ 33 w C (.slice (some ⟨G, 0, none⟩) n n) (List.replicate n x) := by
  obtain ⟨cur, hg, hs, _, ht⟩ := h
  show w.ownsRow C 33 2 _ (List.replicate n x).length _
  rw [List.length_replicate]
  exact ⟨by rw [flatQ_length, List.length_replicate], .inr ⟨G, n, cur, rfl, hC, hg, Nat.le_refl _, by unfold maxLen; omega, hs, ht⟩⟩
theorem RepAt.src {w : World} {G n k m : Nat} {x : Int × Int} (h : RepAt G n k x w) (hm : m ≤ k) : ∀ j u, (flatQ (List.replicate m x))[j]? = some u → w.cell? ((⟨G, 0, none⟩ : Addr).add j) = some u := by
  obtain ⟨cur, hg, hs, hk, ht⟩ := h
  intro j u hu
  rw [qaddr_add, Nat.zero_add, own_row hg]
  have hj : j < m * 2 := by
    rcases Nat.lt_or_ge j (m * 2) with q | q
    · exact q
    · rw [List.getElem?_eq_none (by rw [flatQ_length, List.length_replicate]; exact q)] at hu; cases hu
  rw [← flatQ_rep x m k hm, ← ht, List.take_take, List.getElem?_take_of_lt (by omega), Array.getElem?_toList] at hu
  exact hu
theorem RepAt.drew {w : World} {G n k : Nat} {x : Int × Int} (h : RepAt G n k x w) : RepAt G n k x w.drew := h
theorem rep_made (n : Nat) (hn : n ≤ 90000) (x : Int × Int) (w : World) : (Instr.makeSlice 22 (.int .i64 (n : Int)) (.int .i64 (n : Int))).run Try.prog w = .ok (.slice (some ⟨w.heap.size, 0, none⟩) n n) (w.alloc (.cells (madeCells #[.int .i64 0, .int .i64 0] (n * 2)) 33)) ∧ RepAt w.heap.size n 0 x (w.alloc (.cells (madeCells #[.int .i64 0, .int .i64 0] (n * 2)) 33)) := by
  obtain ⟨i0, hi0, hz0, hz1, hz2⟩ := info_parts info_tall
  have h := run_make (P := Try.prog) w 22 33 i0 (.agg #[.int .i64 0, .int .i64 0]) Try.underlying22 hi0 hz0 .i64 .i64 (n : Int) (n : Int) (by omega) (Int.le_refl _) (by rw [hz2]; omega) (by omega)
  rw [hz1] at h
  simp only [Int.toNat_natCast] at h
  exact ⟨h, _, heap_new rfl, by rw [size_madeCells], Nat.zero_le _, by simp [flatQ]⟩
set_option maxRecDepth 100000 in
/-- v[:i] -/
theorem tall_upto (A : Option Addr) (n cap i : Nat) (h2 : i ≤ cap) (w : World) : (Instr.sliceAt 22 (.slice A n cap) none (some (.int .i64 (i : Int))) none).run Try.prog w = .ok (.slice A i cap) w := by
  have eA : (if cap = 0 then A else A.map (fun x => x.add 0)) = A := by
    split
    · rfl
    · cases A with
      | none => rfl
      | some a => simp [Addr.add]
  rw [run_sliceAt_slice w _ _ _ _ _ pairTall.und', run_slice_h w _ A n cap pairTall.und' .i64 (i : Int) (by omega) (by omega)]
  rw [pairTall.size]
  simp only [Result.andThen, sliced, Int.toNat_natCast, Nat.sub_zero, Nat.zero_mul]
  rw [eA]
set_option maxRecDepth 100000 in
/-- v[i:] -/
theorem tall_from (g o n cap i : Nat) (h1 : i ≤ n) (h2 : n ≤ cap) (w : World) : (Instr.sliceAt 22 (.slice (some ⟨g, o, none⟩) n cap) (some (.int .i64 (i : Int))) none none).run Try.prog w = .ok (.slice (some ⟨g, if cap = i then o else o + i * 2, none⟩) (n - i) (cap - i)) w := by
  rw [run_sliceAt_slice w _ _ _ _ _ pairTall.und', run_slice_l w _ (some ⟨g, o, none⟩) n cap pairTall.und' .i64 (i : Int) (by omega) (by omega)]
  rw [pairTall.size]
  simp only [Result.andThen, sliced, Int.toNat_natCast]
  split
  · rfl
  · rw [Option.map_some, addr_add]
set_option maxRecDepth 100000 in
set_option maxHeartbeats 1600000 in
theorem hgrep_any (A0 : Option Addr) (cap0 : Nat) (x : Int × Int) (n : Nat) (w : World) (hu : QR w (.slice A0 1 cap0) [x]) (hn : n ≤ 45000) : Calls Try.prog 43 #[.slice A0 1 cap0, .int .i64 (n : Int)] w fun e w' => ∃ z, e = .returned z ∧ AnyLater w w' ∧ OQ 33 w' w.heap.size z (List.replicate n x) := by
  obtain ⟨A1, c1, e, _, hc⟩ := id hu
  cases e
  obtain ⟨b, off, rfl, hb, hcell⟩ := hc (by simp)
  have HM := Lib.hid (fun (w' : World) => mul_one_any n (by omega) w')
  have HMk := Lib.hid (fun (w' : World) (a : AnyLater w w') => rep_made n (by omega) x w')
  have HC1 : Hid (∀ (w1 : World) (G : Nat), AnyLater w w1 → RepAt G n 0 x w1 → ∃ w2, (∀ ty, (Builtin.copy_ #[22, 22] ty #[.slice (some ⟨G, 0, none⟩) n n, .slice (some ⟨b, off, none⟩) 1 cap0]).run Try.prog w1 = .ok (.int .i64 ((Nat.min 1 n : Nat) : Int)) w2) ∧ RepAt G n (Nat.min 1 n) x w2 ∧ Stays (fun b => b = G) w1 w2) := Lib.hid (fun w1 G a h => by
    have hq := QR.cells (l := [x]) (fun j hj => by
      obtain ⟨A9, c9, e9, _, hc9⟩ := hu.later a
      cases e9
      obtain ⟨b', off', e', _, hc'⟩ := hc9 (by simp)
      cases e'
      exact hc' j hj)
    have := rep_put (m := Nat.min 1 n) (sLen := 1) (sCap := cap0) (a := ⟨b, off, none⟩) h (by rw [Nat.sub_zero]) (fun j u hj => hq j u (by
      have e1 : Nat.min 1 n ≤ 1 := Nat.min_le_left _ _
      have e2 : flatQ (List.replicate 1 x) = flatQ [x] := rfl
      rw [← e2]
      rw [← flatQ_rep x _ 1 e1] at hj
      rw [List.getElem?_take] at hj
      split at hj
      · exact hj
      · cases hj)) n
    simpa using this)
  have HC2 : Hid (∀ (w1 : World) (G k m : Nat), RepAt G n k x w1 → k < n → Nat.min k (n - k) = m → ∃ w2, (∀ ty, (Builtin.copy_ #[22, 22] ty #[.slice (some ⟨G, k * 2, none⟩) (n - k) (n - k), .slice (some ⟨G, 0, none⟩) k n]).run Try.prog w1 = .ok (.int .i64 (m : Int)) w2) ∧ RepAt G n (k + m) x w2 ∧ Stays (fun b => b = G) w1 w2) := Lib.hid (fun w1 G k m h hk hm => rep_put h hm (h.src (by rw [← hm]; exact Nat.min_le_left _ _)) (n - k))
  clear hu hc hcell
  go_enter Try.func43, Try.ntmps43
  go_wp2_with fail
  refine (HM.out _).mono ?_
  rintro e w1 ⟨rfl, b_w1⟩
  have z_w1 := b_w1.below.size
  have a_w1 := b_w1
  obtain ⟨k1, k2⟩ := HMk.out w1 a_w1
  obtain ⟨w2, hw2⟩ : ∃ w2, w1.alloc (.cells (madeCells #[.int .i64 0, .int .i64 0] (n * 2)) 33) = w2 := ⟨_, rfl⟩
  rw [hw2] at k1 k2
  obtain ⟨G, hG⟩ : ∃ G, w1.heap.size = G := ⟨_, rfl⟩
  have hGw : w.heap.size ≤ G := by rw [← hG]; exact a_w1.below.size
  rw [hG] at k1 k2
  have a_w2 : AnyLater w w2 := by rw [← hw2]; exact a_w1.alloc _
  obtain ⟨w3, k3, k4, k5⟩ := HC1.out w2 G a_w2 k2
  have a_w3 : AnyLater w w3 := k5.any a_w2 (fun q hq => by rw [hq]; exact hGw)
  obtain ⟨m0, hm0⟩ : ∃ m0, Nat.min 1 n = m0 := ⟨_, rfl⟩
  have hm1 : m0 ≤ n ∧ (0 < n → 0 < m0) := by
    rw [← hm0]
    exact ⟨Nat.min_le_right _ _, fun h => Nat.lt_of_lt_of_le (Nat.lt_min.2 ⟨Nat.zero_lt_one, h⟩) (Nat.le_refl _)⟩
  rw [hm0] at k3 k4
  clear hm0 k2 k5 hw2
  have hmk : ∀ ty, (Builtin.copy_ #[22, 22] ty #[.slice (some ⟨G, 0, none⟩) n n, .slice (some ⟨b, off, none⟩) 1 cap0]).run Try.prog w2 = .ok (.int .i64 (m0 : Int)) w3 := k3
  clear k3
  have H4 := Lib.hid k4
  clear k4
  go_wp2_with fail
  go_loopg [8] (n - m0) (fun kk i wr => ∃ k : Nat, kk = n - k ∧ k ≤ n ∧ i = .int .i64 k ∧ (0 < n → 0 < k) ∧ AnyLater w wr ∧ RepAt G n k x wr)
  case atStart => exact ⟨m0, rfl, hm1.1, rfl, hm1.2, a_w3, H4.out⟩
  case round =>
    obtain ⟨k, hkk, hk, rfl, hpos, a_wr, hrep⟩ := hrel
    have HREP := Lib.hid hrep
    clear hrep
    by_cases hlt : k < n
    · obtain ⟨m, hm⟩ : ∃ m, Nat.min k (n - k) = m := ⟨_, rfl⟩
      have hmb : 0 < m ∧ m ≤ n - k := by
        rw [← hm]
        exact ⟨Nat.lt_min.2 ⟨hpos (by omega), by omega⟩, Nat.min_le_right _ _⟩
      obtain ⟨w4, k1, k2, k3⟩ := HC2.out wr.drew G k m HREP.out.drew hlt hm
      have a_w4 : AnyLater w w4 := k3.any a_wr.drew (fun q hq => by rw [hq]; exact hGw)
      have HZ := Lib.hid (And.intro a_w4 k2)
      have HK := Lib.hid k1
      have s1 := tall_from G 0 n n k (by omega) (Nat.le_refl _)
      rw [if_neg (by omega), Nat.zero_add] at s1
      have s2 := tall_upto (some ⟨G, 0, none⟩) n n k (by omega)
      clear k1 k2 k3 a_w4 hm hpos
      go_wp2_with fail
      apply wp_region_acts 10 [(7, .int .i64 (m : Int))] (fun _ => True) (stL [fun w' => w' = wr.drew, fun w' => w' = w4]) (by kernel_rfl) (by kernel_rfl) (by kernel_rfl) trivial rfl
      case hlex =>
        intro U hU
        simp only [actFrom, actOp, List.lookup, Nat.reduceBEq, Nat.reduceLeDiff, Nat.reduceAdd, if_false, if_true]
        repeat (go_big_quiet_step (fail))
        exact wpQuiet_nil rfl
      case hact =>
        intro jj hjj o ho
        obtain rfl : jj = 0 := by simp at hjj; omega
        cases ho
        refine ⟨rfl, fun w' hC hS => ?_⟩
        obtain rfl : w' = wr.drew := hS
        refine act_value (w' := w4) ?_ ⟨trivial, rfl⟩
        have k1 := HK.out
        simp [go_sem, execOp, k1]
      case htail =>
        intro w' hC hS
        obtain rfl : w' = w4 := hS
        simp only [List.drop_succ_cons, List.drop_zero, List.drop_nil]
        go_wp2_with fail
        go_roundg (n - (k + m))
        case measure => omega
        case rel => exact ⟨k + m, rfl, by omega, by go_num, fun _ => by omega, HZ.out.1, HZ.out.2⟩
    · obtain rfl : k = n := by omega
      have HZ := Lib.hid (HREP.out.done (C := w.heap.size) hGw (by omega))
      go_wp2_with fail
      go_ret
      exact ⟨_, rfl, a_wr, HZ.out⟩
end Go.Proofs.Ytjoadlfkdkeomaa
