/- heights: the library's Chunk of few heights: its contract, whatever the loop's body, which keeps the iterator's own boxes. Up to 45000 heights. -/
import Derived.Test.YtjoadlfkdkeomaaHgtG
import Derived.RangeFuncNested
import Derived.RangeFuncBound
import Derived.RangeFuncCalls
import Derived.RangeFuncLeaves
import Derived.Shelf.Abstract
import Derived.OwnWalkIn
import Derived.TacticsInMore
import Derived.LoopNIn
import Derived.LoopIn
import Derived.Shelf.RegionOpen
namespace Go.Proofs.Ytjoadlfkdkeomaa
set_option linter.unusedSimpArgs false
set_option linter.unusedVariables false
set_option linter.unusedSectionVars false
open Go.RowKit Go.Shelf
attribute [local go_sem] Oper.semAt_some
variable {B : Nat}

set_option maxRecDepth 100000 in
/-- v[0:n:n] -/
theorem tall_all (A : Option Addr) (n cap : Nat) (h1 : n ≤ cap) (h0 : 0 < n) (w : World) : (Instr.sliceAt 22 (.slice A n cap) (some (.int .i64 0)) (some (.int .i64 (n : Int))) (some (.int .i64 (n : Int)))).run Try.prog w = .ok (.slice A n n) w := by
  have eA : (if n = 0 then A else A.map (fun x => x.add 0)) = A := by
    split
    · rfl
    · cases A with
      | none => rfl
      | some a => simp [Addr.add]
  rw [run_sliceAt_slice w _ _ _ _ _ pairTall.und', run_slice_lhm w _ A n cap pairTall.und' .i64 .i64 .i64 0 (n : Int) (n : Int) (by omega) (by omega) (by omega) (by omega)]
  rw [pairTall.size]
  simp only [Result.andThen, sliced, Int.toNat_natCast, Int.toNat_zero, Nat.sub_zero, Nat.zero_mul]
  rw [eA]
set_option maxRecDepth 100000 in
/-- v[0:] -/
theorem tall_rest (A : Option Addr) (n cap : Nat) (h1 : n ≤ cap) (w : World) : (Instr.sliceAt 22 (.slice A n cap) (some (.int .i64 0)) none none).run Try.prog w = .ok (.slice A n cap) w := by
  have eA : (if cap = 0 then A else A.map (fun x => x.add 0)) = A := by
    split
    · rfl
    · cases A with
      | none => rfl
      | some a => simp [Addr.add]
  rw [run_sliceAt_slice w _ _ _ _ _ pairTall.und', run_slice_l w _ A n cap pairTall.und' .i64 0 (by omega) (by omega)]
  rw [pairTall.size]
  simp only [Result.andThen, sliced, Int.toNat_zero, Nat.sub_zero, Nat.zero_mul]
  rw [eA]
/-- what a round keeps: the iterator's two boxes -/
def KpC (Bs Bn : Nat) (W W' : World) : Prop := W'.heap[Bs]? = W.heap[Bs]? ∧ W'.heap[Bn]? = W.heap[Bn]?
theorem KpC.refl (Bs Bn : Nat) (W : World) : KpC Bs Bn W W := ⟨rfl, rfl⟩
theorem KpC.trans {Bs Bn : Nat} {X Y Z : World} (h : KpC Bs Bn X Y) (k : KpC Bs Bn Y Z) : KpC Bs Bn X Z := ⟨k.1.trans h.1, k.2.trans h.2⟩
theorem KpC.turn {Bs Bn : Nat} {w : World} (h1 : Bs < w.heap.size) (h2 : Bn < w.heap.size) (W : World) (l : Nat) (o o' : Obj) (hl : w.heap.size ≤ l) (h : W.heap[l]? = some o) (c1 : o.isCells = false) (c2 : o.isWalk = false) : KpC Bs Bn W (W.putObj l o') :=
  ⟨World.putObj_heap_other (by omega), World.putObj_heap_other (by omega)⟩
/-- slices.Chunk(v, 8388608) -/
theorem chunk_any (A : Option Addr) (n cap : Nat) (w : World) : Calls Try.prog 52 #[.slice A n cap, .int .i64 8388608] w fun e w' => e = .returned (.func (.func 67) #[] #[.pointer (some ⟨w.heap.size, 0, none⟩), .pointer (some ⟨w.heap.size + 1, 0, none⟩)]) ∧ w' = (w.alloc (.cells #[.slice A n cap] 22)).alloc (.cells #[.int .i64 8388608] 3) := by
  go_enter Try.func52, Try.ntmps52
  go_wp2_with fail
  go_ret
  exact ⟨rfl, rfl⟩
theorem chunk_enters : ∀ args w, (callFunc 67 args).run Try.prog w = .ok (.enter 67 args) w := enters_of Try.func67 (by kernel_rfl) rfl
set_option maxRecDepth 100000 in
set_option maxHeartbeats 3200000 in
theorem chunk_in (n : Nat) (hn : 1 ≤ n) (l Bs Bn : Nat) (A : Option Addr) (cap m : Nat) (hm : m ≤ 45000) (hc : m ≤ cap) (J Jx : List Unit → World → Prop)
    (hY : ∀ pre x W, J pre W → pre.length < 1 → YieldAt Fence.wide (n - 1) Try.prog l #[.slice A m m] W fun e W' =>
      (e = .returned (.bool true) ∧ J (pre ++ [x]) W' ∧ KpC Bs Bn W W') ∨ (e = .returned (.bool false) ∧ Jx (pre ++ [x]) W'))
    (W : World) (hBs : W.cell? ⟨Bs, 0, none⟩ = some (.slice A m cap)) (hBn : W.cell? ⟨Bn, 0, none⟩ = some (.int .i64 8388608)) (h0 : J [] W) (hd : J [] W.drew) :
    CallsIn Fence.wide n Try.prog 67 #[.func (.yield l) #[] #[], .pointer (some ⟨Bs, 0, none⟩), .pointer (some ⟨Bn, 0, none⟩)] W fun e W' => (∃ v, e = .returned v) ∧
      ((∃ ys, ys = List.replicate (min m 1) () ∧ J ys W') ∨ (∃ pre, True ∧ Jx pre W')) := by
  refine callsIn_of_wp Try.func67 rfl trivial ?_ rfl
  simp only [Try.ntmps67, List.size_toArray, List.length_cons, List.length_nil, Nat.reduceAdd, Nat.reduceSub, Array.replicate_succ, Array.replicate_zero, List.push_toArray, List.append_toArray, List.nil_append, List.cons_append]
  rcases Nat.eq_zero_or_pos m with hz | hpos
  · subst hz
    gi_wp2
    refine wpIn_loop_rounds 1 ?_
    rw [roundsIn_succ]
    gi_wp2
    go_end0
    exact ⟨⟨_, rfl⟩, .inl ⟨[], rfl, h0⟩⟩
  · obtain ⟨fn, tmps, assign, body, hy, hRR⟩ := hY [] () W.drew hd (by simp)
    have HRR := Lib.hid hRR
    have HJ : Hid (List.replicate (min m 1) () = [] ++ [()]) := Lib.hid (by rw [Nat.min_eq_right (by omega)]; rfl)
    have s1 := tall_all A m cap hc hpos
    have s2 := tall_rest A m cap hc
    have hmn : ∀ (w : World) (ts : Array TypeId) (ty : TypeId), (Builtin.min_ ts ty #[.int .i64 8388608, .int .i64 (m : Int)]).run Try.prog w = .ok (.int .i64 (m : Int)) w := fun w ts ty => by rw [hrun_min, Int.min_eq_right (by omega)]
    have hmo : Try.prog.follows Departure.mixedOrders = true := by kernel_rfl
    clear hY hRR h0
    gi_wp2
    refine wpIn_loop_rounds 2 ?_
    rw [roundsIn_succ]
    gi_wp2
    gi_region_o
    gi_wp2
    refine HRR.out.mono ?_
    rintro e W3 (⟨rfl, hJ3, hk3⟩ | ⟨rfl, hJx3⟩)
    · have c1 : W3.cell? ⟨Bs, 0, none⟩ = some (.slice A m cap) := (World.cell?_of_block (w := W.drew) hk3.1).trans hBs
      have c2 : W3.cell? ⟨Bn, 0, none⟩ = some (.int .i64 8388608) := (World.cell?_of_block (w := W.drew) hk3.2).trans hBn
      gi_wp2
      rw [roundsIn_succ]
      gi_wp2
      go_end0
      exact ⟨⟨_, rfl⟩, .inl ⟨_, HJ.out.symm, hJ3⟩⟩
    · gi_wp2
      refine bodyPost_ret (results_none rfl _ _ _) rfl ?_
      exact ⟨⟨_, rfl⟩, .inr ⟨_, trivial, hJx3⟩⟩
theorem chunk_stops (n : Nat) (hn : 1 ≤ n) (Bs Bn : Nat) (A : Option Addr) (cap m : Nat) (hm : m ≤ 45000) (hc : m ≤ cap) (w : World) (hBs : w.cell? ⟨Bs, 0, none⟩ = some (.slice A m cap)) (hBn : w.cell? ⟨Bn, 0, none⟩ = some (.int .i64 8388608)) :
    SeqStopsK Fence.wide n Try.prog 67 #[.pointer (some ⟨Bs, 0, none⟩), .pointer (some ⟨Bn, 0, none⟩)] (fun (_ : Unit) => #[.slice A m m]) (KpC Bs Bn) (fun ys => ys = List.replicate (min m 1) ()) (fun _ => True) 1 w := fun l J Jx W hW hJ _ hY h0 =>
  chunk_in n hn l Bs Bn A cap m hm hc J Jx hY W ((hW.cell (p := ⟨Bs, 0, none⟩) (World.block_lt_of_cell? w ⟨Bs, 0, none⟩ hBs)).trans hBs) ((hW.cell (p := ⟨Bn, 0, none⟩) (World.block_lt_of_cell? w ⟨Bn, 0, none⟩ hBn)).trans hBn) h0
    (hJ [] W W.drew none h0 ⟨rfl, rfl, rfl, Nat.le_refl _, fun _ _ _ => rfl⟩ (fun r e => by cases e))
end Go.Proofs.Ytjoadlfkdkeomaa
