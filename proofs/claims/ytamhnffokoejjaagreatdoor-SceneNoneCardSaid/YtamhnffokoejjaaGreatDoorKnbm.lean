/- what the proof stands on: HgtH HgtI HgtJ HgtK HgtKk -/
import Derived.RangeFuncNested
import Derived.RangeFuncBound
import Derived.RangeFuncCalls
import Derived.RangeFuncLeaves
import Derived.Shelf.Abstract
import Derived.OwnWalkIn
import Derived.TacticsInMore
import Derived.LoopNIn
import Derived.LoopIn
import Derived.Shelf.RegionOpen
import Derived.Test.YtamhnffokoejjaaGreatDoorKnbb
import Derived.LoopN
import Derived.Deep.LoopGhost
import Derived.BigRegion
import Derived.RegionTactic
import Derived.ChangeKeysEq
import Derived.Deep.DeepCutAuto
import Derived.Deep.CutBlock
namespace Go.Proofs.YtamhnffokoejjaaGreatDoor
set_option linter.unusedSimpArgs false
set_option linter.unusedVariables false
set_option linter.unusedSectionVars false
open Go.RowKit Go.Shelf
attribute [local go_sem] Oper.semAt_some
variable {B : Nat}
set_option maxRecDepth 100000 in
theorem tall_all (A : Option Addr) (n cap : Nat) (h1 : n ≤ cap) (h0 : 0 < n) (w : World) : (Instr.sliceAt 84 (.slice A n cap) (some (.int .i64 0)) (some (.int .i64 (n : Int))) (some (.int .i64 (n : Int)))).run Tryz.prog w = .ok (.slice A n n) w := by
  have eA : (if n = 0 then A else A.map (fun x => x.add 0)) = A := by
    split
    · rfl
    · cases A with
      | none => rfl
      | some a => simp [Addr.add]
  rw [run_sliceAt_slice w _ _ _ _ _ pairTall.und', run_slice_lhm w _ A n cap pairTall.und' .i64 .i64 .i64 0 (n : Int) (n : Int) (by omega) (by omega) (by omega) (by omega)]
  rw [pairTall.size]
  simp only [Result.andThen, sliced, Int.toNat_natCast, Int.toNat_zero, Nat.sub_zero, Nat.zero_mul]
  rw [eA]
set_option maxRecDepth 100000 in
theorem tall_rest (A : Option Addr) (n cap : Nat) (h1 : n ≤ cap) (w : World) : (Instr.sliceAt 84 (.slice A n cap) (some (.int .i64 0)) none none).run Tryz.prog w = .ok (.slice A n cap) w := by
  have eA : (if cap = 0 then A else A.map (fun x => x.add 0)) = A := by
    split
    · rfl
    · cases A with
      | none => rfl
      | some a => simp [Addr.add]
  rw [run_sliceAt_slice w _ _ _ _ _ pairTall.und', run_slice_l w _ A n cap pairTall.und' .i64 0 (by omega) (by omega)]
  rw [pairTall.size]
  simp only [Result.andThen, sliced, Int.toNat_zero, Nat.sub_zero, Nat.zero_mul]
  rw [eA]
def KpC (Bs Bn : Nat) (W W' : World) : Prop := W'.heap[Bs]? = W.heap[Bs]? ∧ W'.heap[Bn]? = W.heap[Bn]?
theorem KpC.refl (Bs Bn : Nat) (W : World) : KpC Bs Bn W W := ⟨rfl, rfl⟩
theorem KpC.trans {Bs Bn : Nat} {X Y Z : World} (h : KpC Bs Bn X Y) (k : KpC Bs Bn Y Z) : KpC Bs Bn X Z := ⟨k.1.trans h.1, k.2.trans h.2⟩
theorem KpC.turn {Bs Bn : Nat} {w : World} (h1 : Bs < w.heap.size) (h2 : Bn < w.heap.size) (W : World) (l : Nat) (o o' : Obj) (hl : w.heap.size ≤ l) (h : W.heap[l]? = some o) (c1 : o.isCells = false) (c2 : o.isWalk = false) : KpC Bs Bn W (W.putObj l o') :=
  ⟨World.putObj_heap_other (by omega), World.putObj_heap_other (by omega)⟩
theorem chunk_any (A : Option Addr) (n cap : Nat) (w : World) : Calls Tryz.prog 180 #[.slice A n cap, .int .i64 8388608] w fun e w' => e = .returned (.func (.func 226) #[] #[.pointer (some ⟨w.heap.size, 0, none⟩), .pointer (some ⟨w.heap.size + 1, 0, none⟩)]) ∧ w' = (w.alloc (.cells #[.slice A n cap] 84)).alloc (.cells #[.int .i64 8388608] 3) := by
  go_enter Tryz.func180, Tryz.ntmps180
  go_wp2_with fail
  go_ret
  exact ⟨rfl, rfl⟩
theorem chunk_enters : ∀ args w, (callFunc 226 args).run Tryz.prog w = .ok (.enter 226 args) w := enters_of Tryz.func226 (by kernel_rfl) rfl
set_option maxRecDepth 100000 in
set_option maxHeartbeats 3200000 in
theorem chunk_in (n : Nat) (hn : 1 ≤ n) (l Bs Bn : Nat) (A : Option Addr) (cap m : Nat) (hm : m ≤ 45000) (hc : m ≤ cap) (J Jx : List Unit → World → Prop)
    (hY : ∀ pre x W, J pre W → pre.length < 1 → YieldAt Fence.wide (n - 1) Tryz.prog l #[.slice A m m] W fun e W' =>
      (e = .returned (.bool true) ∧ J (pre ++ [x]) W' ∧ KpC Bs Bn W W') ∨ (e = .returned (.bool false) ∧ Jx (pre ++ [x]) W'))
    (W : World) (hBs : W.cell? ⟨Bs, 0, none⟩ = some (.slice A m cap)) (hBn : W.cell? ⟨Bn, 0, none⟩ = some (.int .i64 8388608)) (h0 : J [] W) (hd : J [] W.drew) :
    CallsIn Fence.wide n Tryz.prog 226 #[.func (.yield l) #[] #[], .pointer (some ⟨Bs, 0, none⟩), .pointer (some ⟨Bn, 0, none⟩)] W fun e W' => (∃ v, e = .returned v) ∧
      ((∃ ys, ys = List.replicate (min m 1) () ∧ J ys W') ∨ (∃ pre, True ∧ Jx pre W')) := by
  refine callsIn_of_wp Tryz.func226 rfl trivial ?_ rfl
  simp only [Tryz.ntmps226, List.size_toArray, List.length_cons, List.length_nil, Nat.reduceAdd, Nat.reduceSub, Array.replicate_succ, Array.replicate_zero, List.push_toArray, List.append_toArray, List.nil_append, List.cons_append]
  rcases Nat.eq_zero_or_pos m with hz | hpos
  · subst hz
    gi_wp2
    refine wpIn_loop_rounds 1 ?_
    rw [roundsIn_succ]
    gi_wp2
    go_end0
    exact ⟨⟨_, rfl⟩, .inl ⟨[], rfl, h0⟩⟩
  · obtain ⟨fn, tmps, assign, body, hy, hRR⟩ := hY [] () W.drew hd (by simp)
    have HRR := Lib.hid hRR
    have HJ : Hid (List.replicate (min m 1) () = [] ++ [()]) := Lib.hid (by rw [Nat.min_eq_right (by omega)]; rfl)
    have s1 := tall_all A m cap hc hpos
    have s2 := tall_rest A m cap hc
    have hmn : ∀ (w : World) (ts : Array TypeId) (ty : TypeId), (Builtin.min_ ts ty #[.int .i64 8388608, .int .i64 (m : Int)]).run Tryz.prog w = .ok (.int .i64 (m : Int)) w := fun w ts ty => by rw [hrun_min, Int.min_eq_right (by omega)]
    have hmo : Tryz.prog.follows Departure.mixedOrders = true := by kernel_rfl
    clear hY hRR h0
    gi_wp2
    refine wpIn_loop_rounds 2 ?_
    rw [roundsIn_succ]
    gi_wp2
    gi_region_o
    gi_wp2
    refine HRR.out.mono ?_
    rintro e W3 (⟨rfl, hJ3, hk3⟩ | ⟨rfl, hJx3⟩)
    · have c1 : W3.cell? ⟨Bs, 0, none⟩ = some (.slice A m cap) := (World.cell?_of_block (w := W.drew) hk3.1).trans hBs
      have c2 : W3.cell? ⟨Bn, 0, none⟩ = some (.int .i64 8388608) := (World.cell?_of_block (w := W.drew) hk3.2).trans hBn
      gi_wp2
      rw [roundsIn_succ]
      gi_wp2
      go_end0
      exact ⟨⟨_, rfl⟩, .inl ⟨_, HJ.out.symm, hJ3⟩⟩
    · gi_wp2
      refine bodyPost_ret (results_none rfl _ _ _) rfl ?_
      exact ⟨⟨_, rfl⟩, .inr ⟨_, trivial, hJx3⟩⟩
theorem chunk_stops (n : Nat) (hn : 1 ≤ n) (Bs Bn : Nat) (A : Option Addr) (cap m : Nat) (hm : m ≤ 45000) (hc : m ≤ cap) (w : World) (hBs : w.cell? ⟨Bs, 0, none⟩ = some (.slice A m cap)) (hBn : w.cell? ⟨Bn, 0, none⟩ = some (.int .i64 8388608)) :
    SeqStopsK Fence.wide n Tryz.prog 226 #[.pointer (some ⟨Bs, 0, none⟩), .pointer (some ⟨Bn, 0, none⟩)] (fun (_ : Unit) => #[.slice A m m]) (KpC Bs Bn) (fun ys => ys = List.replicate (min m 1) ()) (fun _ => True) 1 w := fun l J Jx W hW hJ _ hY h0 =>
  chunk_in n hn l Bs Bn A cap m hm hc J Jx hY W ((hW.cell (p := ⟨Bs, 0, none⟩) (World.block_lt_of_cell? w ⟨Bs, 0, none⟩ hBs)).trans hBs) ((hW.cell (p := ⟨Bn, 0, none⟩) (World.block_lt_of_cell? w ⟨Bn, 0, none⟩ hBn)).trans hBn) h0
    (hJ [] W W.drew none h0 ⟨rfl, rfl, rfl, Nat.le_refl _, fun _ _ _ => rfl⟩ (fun r e => by cases e))
end Go.Proofs.YtamhnffokoejjaaGreatDoor
namespace Go.Proofs.YtamhnffokoejjaaGreatDoor
set_option linter.unusedSimpArgs false
set_option linter.unusedVariables false
set_option linter.unusedSectionVars false
open Go.RowKit Go.Shelf
attribute [local go_sem] Oper.semAt_some
variable {B : Nat}
theorem tall_apart {w : World} {C hg : Nat} {cs : Array Value} {v u : Value} {c : Cw} {l m : Qs} (hu : OQ 61 w C u m) (h : IsCh B w v c l) (hh : w.heap[hg]? = some (.cells cs 116)) {b : Nat} (hb : u.ownBlock = some b) : ¬ (b = hg ∨ InR c b) := by
  have e : ∃ cur, w.heap[b]? = some (.cells cur 61) := by
    rcases hu.2 with ⟨rfl, _⟩ | ⟨g, cap, cur, rfl, _, h2, _⟩
    · cases hb
    · cases hb; exact ⟨cur, h2⟩
  obtain ⟨cur, e⟩ := e
  rintro (rfl | k | ⟨g, t, k1, rfl⟩)
  · rw [hh] at e; cases e
  · obtain ⟨_, cs', e2⟩ := h.rowAt k
    rw [e] at e2; cases e2
  · obtain ⟨rv, e2, _⟩ := (h.seqAt k1).1.obj
    rw [e] at e2; cases e2
theorem InR.lt {w : World} {v : Value} {c : Cw} {l : Qs} (h : IsCh B w v c l) {b : Nat} (k : InR c b) : b < w.heap.size := (h.bl_in k.bl).2
theorem set_set (cs : Array Value) (k : Nat) (a b : Value) : (cs.setIfInBounds k a).setIfInBounds k b = cs.setIfInBounds k b := by
  apply Array.ext_getElem?
  intro i
  simp only [Array.getElem?_setIfInBounds, Array.size_setIfInBounds]
  split <;> rfl
theorem PDone.trans {w w1 w2 : World} {hg k : Nat} {cs : Array Value} {c c1 : Cw} {v1 : Value} {l2 : Qs} (h2 : (∀ b ∈ c1.bl, b ∈ c.bl ∨ w.heap.size ≤ b)) (h3 : ∀ b, InR c1 b → InR c b ∨ w.heap.size ≤ b) (h4 : Stays (fun b => b = hg ∨ InR c b) w w1) (k1 : PDone B w1 hg k (cs.setIfInBounds k v1) c1 l2 w2) : PDone B w hg k cs c l2 w2 := by
  obtain ⟨v', c', q1, q2, q3, q4, q5⟩ := k1
  rw [set_set] at q1
  refine ⟨v', c', q1, q2, fun b hb => ?_, fun b hb => ?_, h4.more q5 (fun b hb => ?_)⟩
  · rcases q3 b hb with q | q
    · exact h2 b q
    · exact .inr (Nat.le_trans h4.size q)
  · rcases q4 b hb with q | q
    · exact h3 b q
    · exact .inr (Nat.le_trans h4.size q)
  · rcases hb with rfl | hb
    · exact .inl (.inl rfl)
    · exact (h3 b hb).imp .inr id
theorem PDone.grown {w W W' : World} {hg k : Nat} {cs : Array Value} {c : Cw} {l : Qs} {row : Option Nat} (h : PDone B w hg k cs c l W) (g : W.grownBy W' row) (hr : ∀ r, row = some r → w.heap.size ≤ r ∧ ∃ o : Obj, W.heap[r]? = some o ∧ o.isCells = false) : PDone B w hg k cs c l W' := by
  obtain ⟨v', c', q1, q2, q3, q4, q5⟩ := h
  have st : Stays (fun b => row = some b) W W' := Stays.grown g (fun b e => e)
  have hn : ∀ {b : Nat} {cs : Array Value} {t : TypeId}, W.heap[b]? = some (.cells cs t) → ¬ row = some b := fun e1 e2 => by
    obtain ⟨_, o, ho, hc⟩ := hr _ e2
    rw [e1] at ho
    cases ho
    cases hc
  refine ⟨v', c', st.own q1 (hn q1), q2.stays st (fun b hb e => ?_), q3, q4, q5.more st (fun b e => .inr (hr b e).1)⟩
  rcases hb with hb | ⟨g', t, k1, k2⟩
  · obtain ⟨_, cs', e2⟩ := q2.rowAt hb
    exact hn e2 e
  · rcases k2.kinds (q2.seqAt k1).1 with ⟨_, rv, e2⟩ | ⟨_, cs, e2⟩ | ⟨_, cs, e2⟩
    · exact hn e2 e
    · exact hn e2 e
    · exact hn e2 e
theorem PDone.later {w W W' : World} {hg k : Nat} {cs : Array Value} {c : Cw} {l : Qs} (h : PDone B w hg k cs c l W) (a : AnyLater W W') : PDone B w hg k cs c l W' := by
  obtain ⟨v', c', q1, q2, q3, q4, q5⟩ := h
  exact ⟨v', c', any_own a q1, q2.later a, q3, q4, q5.later a⟩
theorem PDone.box {w W : World} {hg k s i : Nat} {cs : Array Value} {c : Cw} {l : Qs} {x : Array Value} {t : TypeId} (h : PDone B w hg k cs c l W) (hs : w.heap.size ≤ s) (hx : W.heap[s]? = some (.cells x t)) (ht : t ≠ 116 ∧ t ≠ 166 ∧ t ≠ 211 ∧ t ≠ 249 ∧ t ≠ 61) (u : Value) : PDone B w hg k cs c l (W.setCell ⟨s, i, none⟩ u) := by
  obtain ⟨v', c', q1, q2, q3, q4, q5⟩ := h
  have st : Stays (fun b => b = s) W (W.setCell ⟨s, i, none⟩ u) := (Stays.refl _ _).setCell (S := fun b => b = s) rfl u
  have hn : ∀ {b : Nat} {cs : Array Value} {t' : TypeId}, W.heap[b]? = some (.cells cs t') → t' ≠ t → ¬ b = s := fun e1 hne e2 => by
    subst e2
    rw [e1] at hx
    simp only [Option.some.injEq, Obj.cells.injEq] at hx
    exact hne hx.2.1
  refine ⟨v', c', st.own q1 (hn q1 ht.1.symm), q2.stays st (fun b hb => ?_), q3, q4, q5.more st (fun b e => .inr (by rw [e]; exact hs))⟩
  rcases hb with hb | ⟨g', t', k1, k2⟩
  · obtain ⟨_, cs', e2⟩ := q2.rowAt hb
    exact hn e2 ht.2.1.symm
  · rcases k2.kinds (q2.seqAt k1).1 with ⟨_, rv, e2⟩ | ⟨_, cs, e2⟩ | ⟨_, cs, e2⟩
    · exact hn e2 ht.2.2.1.symm
    · exact hn e2 ht.2.2.2.1.symm
    · exact hn e2 ht.2.2.2.2.symm
def SpB (s hg k : Nat) (fr : Int) (W : World) : Prop := W.heap[s]? = some (.cells #[.pointer (some ⟨hg, k, none⟩)] 225) ∧ W.heap[s + 1]? = some (.cells #[.int .i64 fr] 3) ∧ W.heap[s + 1 + 1]? = some (.cells #[.int .i64 16777216] 3)
theorem SpB.any {s hg k : Nat} {fr : Int} {W W' : World} (h : SpB s hg k fr W) (a : AnyLater W W') : SpB s hg k fr W' := ⟨any_own a h.1, any_own a h.2.1, any_own a h.2.2⟩
theorem SpB.stays {S : Nat → Prop} {s hg k : Nat} {fr : Int} {W W' : World} (h : SpB s hg k fr W) (a : Stays S W W') (hn : ∀ b, s ≤ b → ¬ S b) : SpB s hg k fr W' := ⟨a.own h.1 (hn _ (by omega)), a.own h.2.1 (hn _ (by omega)), a.own h.2.2 (hn _ (by omega))⟩
def ChB (Bs : Nat) (u : Value) (W : World) : Prop := W.heap[Bs]? = some (.cells #[u] 84) ∧ W.heap[Bs + 1]? = some (.cells #[.int .i64 8388608] 3)
def SpI (B : Nat) (w : World) (s hg k Bs : Nat) (u : Value) (cs : Array Value) (c : Cw) (fr : Int) (l2 lf : Qs) (pre : List Unit) (W : World) : Prop := (pre = [] ∧ PDone B w hg k cs c l2 W ∧ SpB s hg k fr W ∧ ChB Bs u W) ∨ (pre = [()] ∧ PDone B w hg k cs c lf W)
set_option maxRecDepth 100000 in
set_option maxHeartbeats 3200000 in
theorem hgsplice_any (hg k : Nat) (cs : Array Value) (v u : Value) (l m : Qs) (c : Cw) (i n C : Nat) (tt : Int) (w : World) (hh : w.heap[hg]? = some (.cells cs 116)) (hk : cs[k]? = some v) (h : IsCh B w v c l) (hB : B ≤ w.heap.size) (htt : tt - (i : Int) = (n : Int)) (hi : i + n ≤ l.length) (hu : OQ 61 w C u m) (hm : l.length + m.length ≤ 45000) (hb : m.any tlBad = false) :
    Calls Tryz.prog 133 #[.pointer (some ⟨hg, k, none⟩), .int .i64 (i : Int), .int .i64 tt, u, .int .i64 16777216] w fun e w' => e = .returned (.tuple #[]) ∧ PDone B w hg k cs c (l.take i ++ m ++ l.drop (i + n)) w' := by
  have hlt := own_lt hh
  have hlen := h.tls.2
  have HCUT := Lib.hid (fun (w' : World) (a : AnyLater w w') => hgcut_any hg k cs v l c i n w' (any_own a hh) hk (h.later a) hi)
  have hl2 : i ≤ (l.take i ++ l.drop (i + n)).length ∧ (l.take i ++ l.drop (i + n)).length ≤ l.length := by
    rw [List.length_append, List.length_take, List.length_drop]; omega
  have HPUT : Hid (∀ (W : World) (A : Option Addr) (cap : Nat), u = .slice A m.length cap → PDone B w hg k cs c (l.take i ++ l.drop (i + n)) W → Calls Tryz.prog 181 #[.pointer (some ⟨hg, k, none⟩), .int .i64 (i : Int), .slice A m.length m.length, .int .i64 16777216] W fun e w' => e = .returned (.tuple #[]) ∧ PDone B w hg k cs c (l.take i ++ m ++ l.drop (i + n)) w' ∧ Stays (fun b => b < W.heap.size ∧ ∃ cs t, W.heap[b]? = some (.cells cs t) ∧ (t = 116 ∨ t = 166 ∨ t = 211)) W w') := Lib.hid (fun W A cap hu2 q => by
    obtain ⟨v1, c1, q1, q2, q3, q4, q5⟩ := q
    have hr : QR W (.slice A m.length m.length) m := by
      obtain ⟨A', cap', e, h2, h3⟩ := OQ.rq (own_row_stays hu q5 (fun b hb => tall_apart hu h hh hb) : OQ 61 W C u m)
      rw [hu2] at e
      cases e
      exact ⟨A, m.length, rfl, Nat.le_refl _, h3⟩
    have hks : k < cs.size := (Array.getElem?_eq_some_iff.1 hk).1
    refine (hgput_any hg k _ v1 _ (l.take i ++ l.drop (i + n)) m c1 i W q1 (by rw [Array.getElem?_setIfInBounds_self, if_pos hks]) q2 (Nat.le_trans hB q5.size) hl2.1 hr (by omega) hb).mono ?_
    rintro e w' ⟨rfl, r⟩
    have e9 : (l.take i ++ l.drop (i + n)).take i ++ m ++ (l.take i ++ l.drop (i + n)).drop i = l.take i ++ m ++ l.drop (i + n) := by
      rw [List.take_append_of_le_length (by rw [List.length_take]; omega), List.take_take, Nat.min_self, List.drop_append_of_le_length (by rw [List.length_take]; omega), List.drop_of_length_le (by rw [List.length_take]; omega), List.nil_append]
    rw [e9] at r
    refine ⟨rfl, PDone.trans q3 q4 q5 r, ?_⟩
    obtain ⟨_, _, _, _, _, _, r5⟩ := r
    refine r5.wide (fun b hb hc => ⟨hb, ?_⟩)
    rcases hc with rfl | hc | ⟨g, t, k1, rfl⟩
    · exact ⟨_, _, q1, .inl rfl⟩
    · obtain ⟨_, cs', e2⟩ := q2.rowAt hc
      exact ⟨_, _, e2, .inr (.inl rfl)⟩
    · obtain ⟨rv, e2, _⟩ := (q2.seqAt k1).1.obj
      exact ⟨_, _, e2, .inr (.inr rfl)⟩)
  have HFIN : Hid (m = [] → l.take i ++ l.drop (i + n) = l.take i ++ m ++ l.drop (i + n)) := Lib.hid (fun e => by rw [e, List.append_nil])
  have HBLW : Hid (∀ b, InR c b → b < w.heap.size) := Lib.hid (fun b hb => hb.lt h)
  obtain ⟨A, cap, rfl, hcap⟩ := (OQ.rq hu).form
  have HP2 := Lib.hid (fun (W : World) q => HPUT.out W A cap rfl q)
  have hn45 : i + n ≤ 45000 := by omega
  have hM0 : m.length = 0 → m = [] := List.eq_nil_of_length_eq_zero
  have hM : m.length ≤ 45000 := by omega
  obtain ⟨s, hs⟩ : ∃ s, w.heap.size = s := ⟨_, rfl⟩
  clear HPUT hu hb hk h hB hi hm hlen hl2
  generalize hl2 : l.take i ++ l.drop (i + n) = l2 at *
  generalize hlf : l.take i ++ m ++ l.drop (i + n) = lf at *
  clear hl2 hlf
  generalize m.length = M at *
  have HS := Lib.hid hs
  refine (callsIn_wide (n := 8)).1 ?_
  refine callsIn_of_wp_marks Tryz.func133 rfl trivial ?_ rfl
  simp only [Tryz.ntmps133, List.size_toArray, List.length_cons, List.length_nil, Nat.reduceAdd, Nat.reduceSub, Array.replicate_succ, Array.replicate_zero, List.push_toArray, List.append_toArray, List.nil_append, List.cons_append]
  gi_wp2_with fail
  have aW : AnyLater w (((w.alloc (.cells #[.pointer (some ⟨hg, k, none⟩)] 225)).alloc (.cells #[.int .i64 (i : Int)] 3)).alloc (.cells #[.int .i64 16777216] 3)) := by repeat' (first | with_reducible assumption | with_reducible exact AnyLater.refl _ | with_reducible apply AnyLater.setCell | with_reducible apply AnyLater.later | with_reducible apply AnyLater.drewN | with_reducible apply AnyLater.drew | with_reducible apply AnyLater.alloc | ((try simp only [World.size_alloc, World.size_setCell, World.size_drew]); (try dsimp only); omega))
  have bW : SpB s hg k (i : Int) (((w.alloc (.cells #[.pointer (some ⟨hg, k, none⟩)] 225)).alloc (.cells #[.int .i64 (i : Int)] 3)).alloc (.cells #[.int .i64 16777216] 3)) := by
    subst hs
    refine ⟨?_, ?_, ?_⟩
    · ((repeat (first | with_reducible assumption | ((with_reducible apply heap_new); (try simp only [World.size_alloc, World.size_setCell, World.size_drew, World.heap_drewN]); done) | ((with_reducible apply heap_new); (try simp only [World.size_alloc, World.size_setCell, World.size_drew, World.heap_drewN]); omega) | (with_reducible refine heap_old (by (try simp only [World.size_alloc, World.size_setCell, World.size_drew, World.heap_drewN]); omega) ?_) | (with_reducible refine heap_drew ?_) | (with_reducible refine heap_far (by omega) ?_) | (with_reducible apply heap_at))); all_goals rfl)
    · ((repeat (first | with_reducible assumption | ((with_reducible apply heap_new); (try simp only [World.size_alloc, World.size_setCell, World.size_drew, World.heap_drewN]); done) | ((with_reducible apply heap_new); (try simp only [World.size_alloc, World.size_setCell, World.size_drew, World.heap_drewN]); omega) | (with_reducible refine heap_old (by (try simp only [World.size_alloc, World.size_setCell, World.size_drew, World.heap_drewN]); omega) ?_) | (with_reducible refine heap_drew ?_) | (with_reducible refine heap_far (by omega) ?_) | (with_reducible apply heap_at))); all_goals rfl)
    · ((repeat (first | with_reducible assumption | ((with_reducible apply heap_new); (try simp only [World.size_alloc, World.size_setCell, World.size_drew, World.heap_drewN]); done) | ((with_reducible apply heap_new); (try simp only [World.size_alloc, World.size_setCell, World.size_drew, World.heap_drewN]); omega) | (with_reducible refine heap_old (by (try simp only [World.size_alloc, World.size_setCell, World.size_drew, World.heap_drewN]); omega) ?_) | (with_reducible refine heap_drew ?_) | (with_reducible refine heap_far (by omega) ?_) | (with_reducible apply heap_at))); all_goals rfl)
  refine ⟨trivial, ?_⟩
  refine (callsIn_wide.2 (HCUT.out _ aW)).mono ?_
  rintro e w2 ⟨rfl, q⟩
  have b2 : SpB s hg k (i : Int) w2 := by
    obtain ⟨_, _, _, _, _, _, q5⟩ := id q
    exact bW.stays q5 (fun b hb hc => by
      rcases hc with rfl | hc
      · omega
      · have := HBLW.out b hc; omega)
  have q2 := PDone.from aW q
  have z2 : s + 3 ≤ w2.heap.size := by
    obtain ⟨_, _, _, _, _, _, q5⟩ := q
    have := q5.size
    simp only [World.size_alloc] at this
    omega
  have Q2 := Lib.hid q2
  have B2 := Lib.hid b2
  have Z2 := Lib.hid z2
  clear aW bW q q2
  have g0 := own_row b2.1
  have g1 := own_row b2.2.1
  have g2 := own_row b2.2.2
  clear b2 z2
  gi_wp2_with fail
  refine ⟨trivial, ?_⟩
  refine (callsIn_wide.2 (chunk_any A M cap w2)).mono ?_
  rintro e w' ⟨rfl, rfl⟩
  gi_wp2
  obtain ⟨Bs, hBs⟩ : ∃ Bs, w2.heap.size = Bs := ⟨_, rfl⟩
  obtain ⟨W3, hW3⟩ : ∃ W3, (w2.alloc (.cells #[.slice A M cap] 84)).alloc (.cells #[.int .i64 8388608] 3) = W3 := ⟨_, rfl⟩
  have a3 : AnyLater w2 W3 := by rw [← hW3]; repeat' (first | with_reducible assumption | with_reducible exact AnyLater.refl _ | with_reducible apply AnyLater.setCell | with_reducible apply AnyLater.later | with_reducible apply AnyLater.drewN | with_reducible apply AnyLater.drew | with_reducible apply AnyLater.alloc | ((try simp only [World.size_alloc, World.size_setCell, World.size_drew]); (try dsimp only); omega))
  have z3 : W3.heap.size = Bs + 1 + 1 := by rw [← hW3]; simp [hBs]
  have c1 : W3.heap[Bs]? = some (.cells #[.slice A M cap] 84) := by subst hBs; rw [← hW3]; ((repeat (first | with_reducible assumption | ((with_reducible apply heap_new); (try simp only [World.size_alloc, World.size_setCell, World.size_drew, World.heap_drewN]); done) | ((with_reducible apply heap_new); (try simp only [World.size_alloc, World.size_setCell, World.size_drew, World.heap_drewN]); omega) | (with_reducible refine heap_old (by (try simp only [World.size_alloc, World.size_setCell, World.size_drew, World.heap_drewN]); omega) ?_) | (with_reducible refine heap_drew ?_) | (with_reducible refine heap_far (by omega) ?_) | (with_reducible apply heap_at))); all_goals rfl)
  have c2 : W3.heap[Bs + 1]? = some (.cells #[.int .i64 8388608] 3) := by subst hBs; rw [← hW3]; ((repeat (first | with_reducible assumption | ((with_reducible apply heap_new); (try simp only [World.size_alloc, World.size_setCell, World.size_drew, World.heap_drewN]); done) | ((with_reducible apply heap_new); (try simp only [World.size_alloc, World.size_setCell, World.size_drew, World.heap_drewN]); omega) | (with_reducible refine heap_old (by (try simp only [World.size_alloc, World.size_setCell, World.size_drew, World.heap_drewN]); omega) ?_) | (with_reducible refine heap_drew ?_) | (with_reducible refine heap_far (by omega) ?_) | (with_reducible apply heap_at))); all_goals rfl)
  rw [hW3, hBs]
  have Q3 := Lib.hid (Q2.out.later a3)
  have B3 := Lib.hid (B2.out.any a3)
  have hsB : s + 3 ≤ Bs := by have := Z2.out; omega
  have hwB : w.heap.size ≤ W3.heap.size := by rw [HS.out, z3]; omega
  have hown : OwnFrom W3.heap.size (SpI B w s hg k Bs (.slice A M cap) cs c (i : Int) l2 lf) := fun pre W W' row hI g hr => by
    have hr' : ∀ r, row = some r → w.heap.size ≤ r ∧ ∃ o : Obj, W.heap[r]? = some o ∧ o.isCells = false := fun r e => ⟨Nat.le_trans hwB (hr r e).1, (hr r e).2⟩
    rcases hI with ⟨rfl, h1, h2, h3⟩ | ⟨rfl, h1⟩
    · have st : Stays (fun b => row = some b) W W' := Stays.grown g (fun b e => e)
      have hn : ∀ {b : Nat} {cs : Array Value} {t : TypeId}, W.heap[b]? = some (.cells cs t) → ¬ row = some b := fun e1 e2 => by
        obtain ⟨_, o, ho, hc⟩ := hr _ e2
        rw [e1] at ho
        cases ho
        cases hc
      exact .inl ⟨rfl, h1.grown g hr', ⟨st.own h2.1 (hn h2.1), st.own h2.2.1 (hn h2.2.1), st.own h2.2.2 (hn h2.2.2)⟩, st.own h3.1 (hn h3.1), st.own h3.2 (hn h3.2)⟩
    · exact .inr ⟨rfl, h1.grown g hr'⟩
  refine wpIn_rangeFunc_ownH rfl (by decide) (gf := 226) (lb := #[.pointer (some ⟨Bs, 0, none⟩), .pointer (some ⟨Bs + 1, 0, none⟩)]) rfl trivial chunk_enters
    (chunk_stops _ (by decide) Bs (Bs + 1) A cap M hM hcap W3 (by rw [own_row c1]; rfl) (by rw [own_row c2]; rfl)) (fun h k => h.trans k) (KpC.turn (by rw [z3]; omega) (by rw [z3]; omega)) (Below.refl _ _) (fun _ => rfl)
    (SpI B w s hg k Bs (.slice A M cap) cs c (i : Int) l2 lf) (fun _ _ _ => False) hown (fun _ _ _ _ _ hs _ _ => hs)
    (.inl ⟨rfl, Q3.out, B3.out, c1, c2⟩)
    (fun _ a' _ => a' = { tmps := #[.pointer (some ⟨hg, k, none⟩), .int .i64 (i : Int), .int .i64 tt, .slice A M cap, .int .i64 16777216, .pointer (some ⟨s, 0, none⟩), .pointer (some ⟨s + 1, 0, none⟩), undef, undef, .pointer (some ⟨s + 1 + 1, 0, none⟩), .slice A M M, .pointer (some ⟨hg, k, none⟩), .int .i64 (i : Int), .int .i64 tt, .int .i64 (i : Int), .int .i64 (n : Int), .tuple #[], .slice A M cap, .int .i64 16777216, .int .i64 8388608, .func (.func 226) #[] #[.pointer (some ⟨Bs, 0, none⟩), .pointer (some ⟨Bs + 1, 0, none⟩)], .slice A M M, undef, undef, undef, undef, undef, undef, undef, undef, undef], defers := [] })
    (fun x a' b X Y row h hg hr => h) ?assign ?body ?done ?stop
  case assign =>
    rintro l pre x W K hI hK
    gi_wp2
    exact hK _ _ (KeepsFrom.refl _ _) (KpC.refl _ _ _) hI rfl
  case body =>
    rintro l pre x a' W hl - hI rfl hlt
    obtain ⟨rfl, h1, h2, h3⟩ := hI.resolve_right (fun q => by rw [q.1] at hlt; exact absurd hlt (by decide))
    have HPW := Lib.hid (HP2.out W h1)
    have hlW := own_lt h3.2
    have HCH := Lib.hid h3
    have HSB := Lib.hid h2
    have g0 := own_row h2.1
    have g1 := own_row h2.2.1
    have g2 := own_row h2.2.2
    clear h1 h2 h3
    gi_wp2_with fail
    refine ⟨trivial, ?_⟩
    refine (CallsIn.inRound l (callsIn_wide.2 HPW.out)).mono ?_
    rintro e W2 ⟨rfl, r1, r2⟩
    have b1 : SpB s hg k (i : Int) W2 := by
      refine ⟨r2.own HSB.out.1 ?_, r2.own HSB.out.2.1 ?_, r2.own HSB.out.2.2 ?_⟩
      all_goals
        rintro ⟨-, cs', t, e, ht⟩
        first
        | rw [HSB.out.1] at e
        | rw [HSB.out.2.1] at e
        | rw [HSB.out.2.2] at e
        rcases ht with rfl | rfl | rfl
        all_goals cases e
    have b3 : ChB Bs (.slice A M cap) W2 := by
      refine ⟨r2.own HCH.out.1 ?_, r2.own HCH.out.2 ?_⟩
      all_goals
        rintro ⟨-, cs', t, e, ht⟩
        first
        | rw [HCH.out.1] at e
        | rw [HCH.out.2] at e
        rcases ht with rfl | rfl | rfl
        all_goals cases e
    have HZ : Hid (ownPostG W3.heap.size (KpC Bs (Bs + 1)) (SpI B w s hg k Bs (.slice A M cap) cs c (i : Int) l2 lf) (fun _ _ _ => False) ([] ++ [x]) W .normal { tmps := #[], defers := [] } (W2.setCell ⟨s + 1, 0, none⟩ (.int .i64 ((i : Int) + (M : Int))))) := Lib.hid (by
      refine ⟨⟨by rw [World.size_setCell]; exact r2.size, fun q o hq ho hc => ?_⟩, ⟨?_, ?_⟩, .inr ⟨rfl, PDone.box r1 (by rw [HS.out]; omega) b1.2.1 ⟨by decide, by decide, by decide, by decide, by decide⟩ _⟩⟩
      · refine (Below.heap_setCell W2 _ _ q (by rw [z3] at hq; dsimp only; omega)).trans (r2.own ho ?_)
        rintro ⟨-, cs', t, e, ht⟩
        rw [ho] at e
        cases e
        cases hc
      · rw [Below.heap_setCell W2 _ _ Bs (by dsimp only; omega), b3.1, HCH.out.1]
      · rw [Below.heap_setCell W2 _ _ (Bs + 1) (by dsimp only; omega), b3.2, HCH.out.2])
    have g4 := own_row b1.2.1
    have f4 := own_free b1.2.1
    have l4 := own_lt b1.2.1
    clear r1 r2 b1 b3 g0 g1 g2
    gi_wp2
    exact HZ.out
  case done =>
    rintro D xs W hD rfl hI hK
    have r : PDone B w hg k cs c lf W := by
      rcases hI with ⟨e, h1, -⟩ | ⟨-, h1⟩
      · have e0 : M = 0 := by
          rcases Nat.eq_zero_or_pos M with q | q
          · exact q
          · rw [Nat.min_eq_right (by omega)] at e; cases e
        rw [← HFIN.out (hM0 e0)]
        exact h1
      · exact h1
    have HZ := Lib.hid (r.grown (grownBy_putObj' W D (.deferred none)) (fun q e => by cases e; exact ⟨Nat.le_trans hwB hD, _, hK, rfl⟩))
    clear r hI
    gi_wp2
    refine ⟨by simp, .inl ⟨_, _, rfl, run_takeDeferred hK, ?_⟩⟩
    exact ⟨.tuple #[], by simp [results, Tryz.results133, go_sem], rfl, HZ.out⟩
  case stop =>
    rintro D c pre W hD _ h _
    exact h.elim
end Go.Proofs.YtamhnffokoejjaaGreatDoor
namespace Go.Proofs.YtamhnffokoejjaaGreatDoor
set_option linter.unusedSimpArgs false
set_option linter.unusedVariables false
set_option linter.unusedSectionVars false
open Go.RowKit
variable {B : Nat}
def shwL (L : Qs) (H : List Bool) : Qs := List.zipWith (fun x h => if h then (0, 0) else x) L H
def opnL (H : List Bool) : Qs := H.map fun h => if h then (0, 0) else (0, 1)
structure HAt (B : Nat) (w : World) (hg : Nat) (K : List Nat) (L : Qs) (H : List Bool) : Prop where
  ex : ∃ v1 v2 v3 c1 c2 c3, w.heap[hg]? = some (.cells #[v1, v2, v3] 116) ∧ IsCh B w v1 c1 L ∧ IsCh B w v2 c2 (shwL L H) ∧ IsCh B w v3 c3 (opnL H) ∧ (∀ b ∈ c1.bl, b ∉ c2.bl) ∧ (∀ b ∈ c1.bl, b ∉ c3.bl) ∧ (∀ b ∈ c2.bl, b ∉ c3.bl) ∧ K = c1.bl ++ c2.bl ++ c3.bl
  base : B ≤ hg
  len : H.length = L.length
theorem HAt.later {w w' : World} {hg : Nat} {K : List Nat} {L : Qs} {H : List Bool} (h : HAt B w hg K L H) (a : AnyLater w w') : HAt B w' hg K L H := by
  obtain ⟨v1, v2, v3, c1, c2, c3, h0, h1, h2, h3, h4⟩ := h.ex
  exact ⟨⟨v1, v2, v3, c1, c2, c3, any_own a h0, h1.later a, h2.later a, h3.later a, h4⟩, h.base, h.len⟩
theorem HAt.few {w : World} {hg : Nat} {K : List Nat} {L : Qs} {H : List Bool} (h : HAt B w hg K L H) : Tls L ∧ L.length ≤ 45000 := by
  obtain ⟨v1, v2, v3, c1, c2, c3, h0, h1, _⟩ := h.ex
  exact h1.tls
def HV (B : Nat) (w : World) (hv : Value) (L : Qs) (H : List Bool) : Prop := (hv = .pointer none ∧ L = [] ∧ H = []) ∨ ∃ hg K, hv = .pointer (some ⟨hg, 0, none⟩) ∧ HAt B w hg K L H
theorem HV.later {w w' : World} {hv : Value} {L : Qs} {H : List Bool} (h : HV B w hv L H) (a : AnyLater w w') : HV B w' hv L H := by
  rcases h with h | ⟨hg, K, e, h⟩
  · exact .inl h
  · exact .inr ⟨hg, K, e, h.later a⟩
theorem HV.len {w : World} {hv : Value} {L : Qs} {H : List Bool} (h : HV B w hv L H) : H.length = L.length ∧ L.length ≤ 45000 ∧ Tls L := by
  rcases h with ⟨_, rfl, rfl⟩ | ⟨hg, K, e, h⟩
  · exact ⟨rfl, by simp, Tls.nil⟩
  · exact ⟨h.len, h.few.2, h.few.1⟩
theorem HAt.v {w : World} {hg : Nat} {K : List Nat} {L : Qs} {H : List Bool} (h : HAt B w hg K L H) : HV B w (.pointer (some ⟨hg, 0, none⟩)) L H := .inr ⟨hg, K, rfl, h⟩
set_option maxRecDepth 100000 in
theorem hglines_nil (w : World) : Calls Tryz.prog 76 #[.pointer none] w fun e w' => e = .returned (.agg #[.slice none 0 0, .slice none 0 0, .slice none 0 0]) ∧ AnyLater w w' := by
  go_enter Tryz.func76, Tryz.ntmps76
  go_wp2_with fail
  refine bodyPost_ret (v := .agg #[.slice none 0 0, .slice none 0 0, .slice none 0 0]) (by simp [results, Tryz.results76, go_sem, *]) rfl ⟨rfl, ?_⟩
  repeat' (first | with_reducible assumption | with_reducible exact AnyLater.refl _ | with_reducible apply AnyLater.setCell | with_reducible apply AnyLater.later | with_reducible apply AnyLater.drewN | with_reducible apply AnyLater.drew | with_reducible apply AnyLater.alloc | ((try simp only [World.size_alloc, World.size_setCell, World.size_drew]); (try dsimp only); omega))
set_option maxRecDepth 100000 in
theorem hglines_at (hg : Nat) (A1 A2 A3 : Option Addr) (n1 n2 n3 k1 k2 k3 : Nat) (w : World) (hh : w.heap[hg]? = some (.cells #[.slice A1 n1 k1, .slice A2 n2 k2, .slice A3 n3 k3] 116)) : Calls Tryz.prog 76 #[.pointer (some ⟨hg, 0, none⟩)] w fun e w' => e = .returned (.agg #[.slice A1 n1 k1, .slice A2 n2 k2, .slice A3 n3 k3]) ∧ AnyLater w w' := by
  have r0 := own_row hh
  have l0 := own_lt hh
  clear hh
  go_enter Tryz.func76, Tryz.ntmps76
  go_wp2_with fail
  refine bodyPost_ret (v := .agg #[.slice A1 n1 k1, .slice A2 n2 k2, .slice A3 n3 k3]) (by simp [results, Tryz.results76, go_sem, *]) rfl ⟨rfl, ?_⟩
  repeat' (first | with_reducible assumption | with_reducible exact AnyLater.refl _ | with_reducible apply AnyLater.setCell | with_reducible apply AnyLater.later | with_reducible apply AnyLater.drewN | with_reducible apply AnyLater.drew | with_reducible apply AnyLater.alloc | ((try simp only [World.size_alloc, World.size_setCell, World.size_drew]); (try dsimp only); omega))
theorem HV.lines {w : World} {hv : Value} {L : Qs} {H : List Bool} (h : HV B w hv L H) : ∃ A1 A2 A3 n1 n2 n3 k1 k2 k3 c1 c2 c3, (∀ w', AnyLater w w' → Calls Tryz.prog 76 #[hv] w' fun e w'' => e = .returned (.agg #[.slice A1 n1 k1, .slice A2 n2 k2, .slice A3 n3 k3]) ∧ AnyLater w' w'') ∧ IsCh B w (.slice A1 n1 k1) c1 L ∧ IsCh B w (.slice A2 n2 k2) c2 (shwL L H) ∧ IsCh B w (.slice A3 n3 k3) c3 (opnL H) := by
  rcases h with ⟨rfl, rfl, rfl⟩ | ⟨hg, K, rfl, h⟩
  · exact ⟨_, _, _, _, _, _, _, _, _, _, _, _, fun w' _ => hglines_nil w', IsCh.void w, IsCh.void w, IsCh.void w⟩
  · obtain ⟨v1, v2, v3, c1, c2, c3, h0, h1, h2, h3, _⟩ := h.ex
    obtain ⟨A1, n1, k1, rfl⟩ := h1.slc
    obtain ⟨A2, n2, k2, rfl⟩ := h2.slc
    obtain ⟨A3, n3, k3, rfl⟩ := h3.slc
    exact ⟨A1, A2, A3, n1, n2, n3, k1, k2, k3, c1, c2, c3, fun w' a => hglines_at hg A1 A2 A3 n1 n2 n3 k1 k2 k3 w' (any_own a h0), h1, h2, h3⟩
theorem HV.ptr {w : World} {hv : Value} {L : Qs} {H : List Bool} (h : HV B w hv L H) : ∃ q, hv = .pointer q := by
  rcases h with ⟨rfl, _⟩ | ⟨hg, K, rfl, _⟩
  · exact ⟨_, rfl⟩
  · exact ⟨_, rfl⟩
theorem hfield_0 (v1 v2 v3 : Value) (w : World) : (Instr.field 116 (.agg #[v1, v2, v3]) 0).run Tryz.prog w = .ok (.agg #[v1]) w := by kernel_rfl
theorem hfield_1 (v1 v2 v3 : Value) (w : World) : (Instr.field 116 (.agg #[v1, v2, v3]) 1).run Tryz.prog w = .ok (.agg #[v2]) w := by kernel_rfl
set_option maxRecDepth 100000 in
theorem hglen_any (hv : Value) (L : Qs) (H : List Bool) (w : World) (h : HV B w hv L H) : Calls Tryz.prog 44 #[hv] w fun e w' => e = .returned (.int .i64 (L.length : Int)) ∧ AnyLater w w' := by
  obtain ⟨A1, A2, A3, n1, n2, n3, k1, k2, k3, c1, c2, c3, HL, i1, i2, i3⟩ := h.lines
  have HL := Lib.hid HL
  have HS := Lib.hid (fun (w' : World) (a : AnyLater w w') => hgsize_any _ c1 L w' (i1.later a))
  obtain ⟨q, rfl⟩ := h.ptr
  have hf := hfield_0
  clear h i1 i2 i3
  generalize L.length = n at *
  go_enter Tryz.func44, Tryz.ntmps44
  go_wp2_with fail
  refine (HL.out _ (AnyLater.refl w)).mono ?_
  rintro e w1 ⟨rfl, b_w1⟩
  have z_w1 := b_w1.below.size
  have a_w1 := b_w1
  go_wp2_with fail
  refine (HS.out _ a_w1).mono ?_
  rintro e w2 ⟨rfl, b_w2⟩
  have z_w2 := b_w2.below.size
  have a_w2 := a_w1.trans b_w2
  go_wp2_with fail
  go_ret
  exact ⟨rfl, a_w2⟩
theorem shw_len {L : Qs} {H : List Bool} (h : H.length = L.length) : (shwL L H).length = L.length := by unfold shwL; rw [List.length_zipWith, h, Nat.min_self]
set_option maxRecDepth 100000 in
theorem hgtotal_any (hv : Value) (L : Qs) (H : List Bool) (w : World) (R Hh : Int) (hR : tlR (shwL L H) = R) (hH : tlH (shwL L H) = Hh) (h : HV B w hv L H) : Calls Tryz.prog 28 #[hv] w fun e w' => e = .returned (.agg #[.int .i64 R, .int .i64 Hh]) ∧ AnyLater w w' := by
  obtain ⟨A1, A2, A3, n1, n2, n3, k1, k2, k3, c1, c2, c3, HL, i1, i2, i3⟩ := h.lines
  have HL := Lib.hid HL
  have HN := Lib.hid (fun (w' : World) (a : AnyLater w w') => hglen_any hv L H w' (h.later a))
  have e : (shwL L H).take (sumN (shwL L H) (L.length : Int)) = shwL L H := by
    rw [← shw_len h.len.1, sumN_all, List.take_length]
  have HS := Lib.hid (fun (w' : World) (a : AnyLater w w') => hgsum_any _ c2 _ (L.length : Int) w' R Hh (by rw [e]; exact hR) (by rw [e]; exact hH) (i2.later a))
  obtain ⟨q, rfl⟩ := h.ptr
  have hf := hfield_1
  clear h i1 i2 i3 hR hH e
  generalize L.length = n at *
  go_enter Tryz.func28, Tryz.ntmps28
  go_wp2_with fail
  first | refine settle_wp (fun wS => AnyLater w wS ∧ wS.heap[w.heap.size]? = some (.cells #[.int .i64 0, .int .i64 0] 61)) ?_ ?_ | refine settle_calls (fun wS => AnyLater w wS ∧ wS.heap[w.heap.size]? = some (.cells #[.int .i64 0, .int .i64 0] 61)) ?_ ?_
  · refine ⟨?_, ?_⟩
    · repeat' (first | with_reducible assumption | with_reducible exact AnyLater.refl _ | with_reducible apply AnyLater.setCell | with_reducible apply AnyLater.later | with_reducible apply AnyLater.drewN | with_reducible apply AnyLater.drew | with_reducible apply AnyLater.alloc | ((try simp only [World.size_alloc, World.size_setCell, World.size_drew]); (try dsimp only); omega))
    · ((repeat (first | with_reducible assumption | ((with_reducible apply heap_new); (try simp only [World.size_alloc, World.size_setCell, World.size_drew, World.heap_drewN]); done) | ((with_reducible apply heap_new); (try simp only [World.size_alloc, World.size_setCell, World.size_drew, World.heap_drewN]); omega) | (with_reducible refine heap_old (by (try simp only [World.size_alloc, World.size_setCell, World.size_drew, World.heap_drewN]); omega) ?_) | (with_reducible refine heap_drew ?_) | (with_reducible refine heap_far (by omega) ?_) | (with_reducible apply heap_at))); all_goals rfl)
  rintro w1 ⟨b_w1, s0_w1⟩
  have a_w1 := b_w1
  have r0_w1 := own_row s0_w1
  have f0_w1 := own_free s0_w1
  have l0_w1 := own_lt s0_w1
  have z_w1 := b_w1.below.size
  refine (HL.out _ a_w1).mono ?_
  rintro e w2 ⟨rfl, b_w2⟩
  have z_w2 := b_w2.below.size
  have a_w2 := a_w1.trans b_w2
  have s0_w2 := any_own b_w2 s0_w1
  have r0_w2 := own_row s0_w2
  have f0_w2 := own_free s0_w2
  have l0_w2 := own_lt s0_w2
  (try clear r0_w1); (try clear f0_w1)
  go_wp2_with fail
  refine (HN.out _ a_w2).mono ?_
  rintro e w3 ⟨rfl, b_w3⟩
  have z_w3 := b_w3.below.size
  have a_w3 := a_w2.trans b_w3
  have s0_w3 := any_own b_w3 s0_w2
  have r0_w3 := own_row s0_w3
  have f0_w3 := own_free s0_w3
  have l0_w3 := own_lt s0_w3
  (try clear r0_w2); (try clear f0_w2)
  go_wp2_with fail
  refine (HS.out _ a_w3).mono ?_
  rintro e w4 ⟨rfl, b_w4⟩
  have z_w4 := b_w4.below.size
  have a_w4 := a_w3.trans b_w4
  have s0_w4 := any_own b_w4 s0_w3
  have r0_w4 := own_row s0_w4
  have f0_w4 := own_free s0_w4
  have l0_w4 := own_lt s0_w4
  (try clear r0_w3); (try clear f0_w3)
  go_wp2_with fail
  refine bodyPost_ret (v := .agg #[.int .i64 R, .int .i64 Hh]) (by simp [results, Tryz.results28, go_sem, *]) rfl ⟨rfl, ?_⟩
  repeat' (first | with_reducible assumption | with_reducible exact AnyLater.refl _ | with_reducible apply AnyLater.setCell | with_reducible apply AnyLater.later | with_reducible apply AnyLater.drewN | with_reducible apply AnyLater.drew | with_reducible apply AnyLater.alloc | ((try simp only [World.size_alloc, World.size_setCell, World.size_drew]); (try dsimp only); omega))
end Go.Proofs.YtamhnffokoejjaaGreatDoor
namespace Go.Proofs.YtamhnffokoejjaaGreatDoor
set_option linter.unusedSimpArgs false
set_option linter.unusedVariables false
set_option linter.unusedSectionVars false
open Go.RowKit
variable {B : Nat}
structure Tri (B : Nat) (w : World) (hg : Nat) (v1 v2 v3 : Value) (c1 c2 c3 : Cw) (l1 l2 l3 : Qs) : Prop where
  blk : w.heap[hg]? = some (.cells #[v1, v2, v3] 116)
  i1 : IsCh B w v1 c1 l1
  i2 : IsCh B w v2 c2 l2
  i3 : IsCh B w v3 c3 l3
  d12 : ∀ b ∈ c1.bl, b ∉ c2.bl
  d13 : ∀ b ∈ c1.bl, b ∉ c3.bl
  d23 : ∀ b ∈ c2.bl, b ∉ c3.bl
def HC (B : Nat) (w : World) (hg : Nat) (K : List Nat) (b : Nat) : Prop := b = hg ∨ (B ≤ b ∧ (b ∈ K ∨ ∃ cs, w.heap[b]? = some (.cells cs 249)))
def TDone (B : Nat) (w : World) (hg : Nat) (K : List Nat) (l1 l2 l3 : Qs) (w' : World) : Prop := ∃ v1 v2 v3 c1 c2 c3, Tri B w' hg v1 v2 v3 c1 c2 c3 l1 l2 l3 ∧ (∀ b ∈ c1.bl ++ c2.bl ++ c3.bl, b ∈ K ∨ w.heap.size ≤ b) ∧ Stays (HC B w hg K) w w'
def HDone (B : Nat) (w : World) (hg : Nat) (K : List Nat) (L : Qs) (H : List Bool) (w' : World) : Prop := ∃ K', HAt B w' hg K' L H ∧ (∀ b ∈ K', b ∈ K ∨ w.heap.size ≤ b) ∧ Stays (HC B w hg K) w w'
theorem HAt.tri {w : World} {hg : Nat} {K : List Nat} {L : Qs} {H : List Bool} (h : HAt B w hg K L H) : TDone B w hg K L (shwL L H) (opnL H) w := by
  obtain ⟨v1, v2, v3, c1, c2, c3, h0, h1, h2, h3, d1, d2, d3, rfl⟩ := h.ex
  exact ⟨v1, v2, v3, c1, c2, c3, ⟨h0, h1, h2, h3, d1, d2, d3⟩, fun b hb => .inl hb, Stays.refl _ _⟩
theorem TDone.done {w w' : World} {hg : Nat} {K : List Nat} {L l2 l3 : Qs} {H : List Bool} (h : TDone B w hg K L l2 l3 w') (hB : B ≤ hg) (hl : H.length = L.length) (e2 : l2 = shwL L H) (e3 : l3 = opnL H) : HDone B w hg K L H w' := by
  obtain ⟨v1, v2, v3, c1, c2, c3, t, hk, hs⟩ := h
  subst e2
  subst e3
  exact ⟨_, ⟨⟨v1, v2, v3, c1, c2, c3, t.blk, t.i1, t.i2, t.i3, t.d12, t.d13, t.d23, rfl⟩, hB, hl⟩, hk, hs⟩
theorem TDone.later {w W W' : World} {hg : Nat} {K : List Nat} {l1 l2 l3 : Qs} (h : TDone B w hg K l1 l2 l3 W) (a : AnyLater W W') : TDone B w hg K l1 l2 l3 W' := by
  obtain ⟨v1, v2, v3, c1, c2, c3, t, hk, hs⟩ := h
  exact ⟨v1, v2, v3, c1, c2, c3, ⟨any_own a t.blk, t.i1.later a, t.i2.later a, t.i3.later a, t.d12, t.d13, t.d23⟩, hk, hs.later a⟩
theorem HC.more {w W : World} {hg : Nat} {K : List Nat} {Ks : List Nat} (hK : ∀ b ∈ Ks, b ∈ K ∨ w.heap.size ≤ b) (hs : Stays (HC B w hg K) w W) {b : Nat} (hb : b = hg ∨ (B ≤ b ∧ (b ∈ Ks ∨ ∃ cs, W.heap[b]? = some (.cells cs 249)))) : HC B w hg K b ∨ w.heap.size ≤ b := by
  rcases hb with hb | ⟨h1, hb | ⟨cs, hb⟩⟩
  · exact .inl (.inl hb)
  · exact (hK b hb).imp (fun q => .inr ⟨h1, .inl q⟩) id
  · rcases Nat.lt_or_ge b w.heap.size with q | q
    · refine .inl ?_
      by_cases hc : HC B w hg K b
      · exact hc
      · exact .inr ⟨h1, .inr ⟨cs, (hs.block b q hc).symm.trans hb⟩⟩
    · exact .inr q
theorem TDone.step {w W w' : World} {hg : Nat} {K : List Nat} {l1 l2 l3 m1 m2 m3 : Qs} {v1 v2 v3 : Value} {c1 c2 c3 : Cw} {S : Nat → Prop} (t : Tri B W hg v1 v2 v3 c1 c2 c3 l1 l2 l3) (hK : ∀ b ∈ c1.bl ++ c2.bl ++ c3.bl, b ∈ K ∨ w.heap.size ≤ b) (hs : Stays (HC B w hg K) w W) (st : Stays S W w')
    (hS : ∀ b, S b → b = hg ∨ (B ≤ b ∧ (b ∈ c1.bl ++ c2.bl ++ c3.bl ∨ ∃ cs, W.heap[b]? = some (.cells cs 249))))
    (h : ∃ u1 u2 u3 d1 d2 d3, Tri B w' hg u1 u2 u3 d1 d2 d3 m1 m2 m3 ∧ ∀ b ∈ d1.bl ++ d2.bl ++ d3.bl, b ∈ c1.bl ++ c2.bl ++ c3.bl ∨ W.heap.size ≤ b) : TDone B w hg K m1 m2 m3 w' := by
  obtain ⟨u1, u2, u3, d1, d2, d3, t', h2⟩ := h
  refine ⟨u1, u2, u3, d1, d2, d3, t', fun b hb => ?_, hs.more st (fun b hb => HC.more hK hs (hS b hb))⟩
  rcases h2 b hb with q | q
  · exact hK b q
  · exact .inr (Nat.le_trans hs.size q)
theorem bl_apart {w : World} {v : Value} {c c' d : Cw} {l : Qs} (hd : ∀ b ∈ c.bl, b ∉ d.bl) (h : ∀ b ∈ c'.bl, b ∈ c.bl ∨ w.heap.size ≤ b) (i : IsCh B w v d l) : ∀ b ∈ c'.bl, b ∉ d.bl := fun b hb k => by
  rcases h b hb with q | q
  · exact hd b q k
  · have := (i.bl_in k).2; omega
theorem apart_symm {c d : Cw} (h : ∀ b ∈ c.bl, b ∉ d.bl) : ∀ b ∈ d.bl, b ∉ c.bl := fun b hb k => h b k hb
theorem IsCh.beside {w w' : World} {v v' : Value} {c d : Cw} {l l' : Qs} {hg : Nat} {cs : Array Value} {S : Nat → Prop} (i : IsCh B w v d l) (j : IsCh B w v' c l') (hd : ∀ b ∈ c.bl, b ∉ d.bl) (hh : w.heap[hg]? = some (.cells cs 116)) (st : Stays S w w') (hS : ∀ b, S b → b = hg ∨ InC w c b) : IsCh B w' v d l := i.stays st (fun b hb e => by
  rcases hS b e with q | q
  · exact heights_blk i hh (q ▸ hb)
  · exact InC.apart j i hd q hb)
theorem mem3_1 {a b c : List Nat} {x : Nat} (h : x ∈ a) : x ∈ a ++ b ++ c := by simp [h]
theorem mem3_2 {a b c : List Nat} {x : Nat} (h : x ∈ b) : x ∈ a ++ b ++ c := by simp [h]
theorem mem3_3 {a b c : List Nat} {x : Nat} (h : x ∈ c) : x ∈ a ++ b ++ c := by simp [h]
theorem mem3 {a b c : List Nat} {x : Nat} (h : x ∈ a ++ b ++ c) : x ∈ a ∨ x ∈ b ∨ x ∈ c := by simpa [or_assoc] using h
section
variable {w W W' : World} {hg : Nat} {K : List Nat} {l1 l2 l3 l : Qs} {v1 v2 v3 : Value} {c1 c2 c3 : Cw}
theorem Tri.splice1 (t : Tri B W hg v1 v2 v3 c1 c2 c3 l1 l2 l3) (hK : ∀ b ∈ c1.bl ++ c2.bl ++ c3.bl, b ∈ K ∨ w.heap.size ≤ b) (hs : Stays (HC B w hg K) w W) (p : PDone B W hg 0 #[v1, v2, v3] c1 l W') : TDone B w hg K l l2 l3 W' := by
  obtain ⟨v', c', q1, q2, q3, q4, q5⟩ := p
  have hn : ∀ b, (b = hg ∨ InR c1 b) → b = hg ∨ InC W c1 b := fun b hb => hb.imp id InR.inC
  refine TDone.step t hK hs q5 (fun b hb => ?_) ⟨v', v2, v3, c', c2, c3, ⟨q1, q2, t.i2.beside t.i1 t.d12 t.blk q5 hn, t.i3.beside t.i1 t.d13 t.blk q5 hn, bl_apart t.d12 q3 t.i2, bl_apart t.d13 q3 t.i3, t.d23⟩, fun b hb => ?_⟩
  · rcases hb with hb | hb
    · exact .inl hb
    · have k := (InR.inC (w := W) hb).kinds t.i1
      exact .inr ⟨k.1, k.2.imp mem3_1 id⟩
  · rcases mem3 hb with q | q | q
    · exact (q3 b q).imp mem3_1 id
    · exact .inl (mem3_2 q)
    · exact .inl (mem3_3 q)
theorem Tri.splice2 (t : Tri B W hg v1 v2 v3 c1 c2 c3 l1 l2 l3) (hK : ∀ b ∈ c1.bl ++ c2.bl ++ c3.bl, b ∈ K ∨ w.heap.size ≤ b) (hs : Stays (HC B w hg K) w W) (p : PDone B W hg 1 #[v1, v2, v3] c2 l W') : TDone B w hg K l1 l l3 W' := by
  obtain ⟨v', c', q1, q2, q3, q4, q5⟩ := p
  have hn : ∀ b, (b = hg ∨ InR c2 b) → b = hg ∨ InC W c2 b := fun b hb => hb.imp id InR.inC
  refine TDone.step t hK hs q5 (fun b hb => ?_) ⟨v1, v', v3, c1, c', c3, ⟨q1, t.i1.beside t.i2 (apart_symm t.d12) t.blk q5 hn, q2, t.i3.beside t.i2 t.d23 t.blk q5 hn, apart_symm (bl_apart (apart_symm t.d12) q3 t.i1), t.d13, bl_apart t.d23 q3 t.i3⟩, fun b hb => ?_⟩
  · rcases hb with hb | hb
    · exact .inl hb
    · have k := (InR.inC (w := W) hb).kinds t.i2
      exact .inr ⟨k.1, k.2.imp mem3_2 id⟩
  · rcases mem3 hb with q | q | q
    · exact .inl (mem3_1 q)
    · exact (q3 b q).imp mem3_2 id
    · exact .inl (mem3_3 q)
theorem Tri.splice3 (t : Tri B W hg v1 v2 v3 c1 c2 c3 l1 l2 l3) (hK : ∀ b ∈ c1.bl ++ c2.bl ++ c3.bl, b ∈ K ∨ w.heap.size ≤ b) (hs : Stays (HC B w hg K) w W) (p : PDone B W hg 2 #[v1, v2, v3] c3 l W') : TDone B w hg K l1 l2 l W' := by
  obtain ⟨v', c', q1, q2, q3, q4, q5⟩ := p
  have hn : ∀ b, (b = hg ∨ InR c3 b) → b = hg ∨ InC W c3 b := fun b hb => hb.imp id InR.inC
  refine TDone.step t hK hs q5 (fun b hb => ?_) ⟨v1, v2, v', c1, c2, c', ⟨q1, t.i1.beside t.i3 (apart_symm t.d13) t.blk q5 hn, t.i2.beside t.i3 (apart_symm t.d23) t.blk q5 hn, q2, t.d12, apart_symm (bl_apart (apart_symm t.d13) q3 t.i1), apart_symm (bl_apart (apart_symm t.d23) q3 t.i2)⟩, fun b hb => ?_⟩
  · rcases hb with hb | hb
    · exact .inl hb
    · have k := (InR.inC (w := W) hb).kinds t.i3
      exact .inr ⟨k.1, k.2.imp mem3_3 id⟩
  · rcases mem3 hb with q | q | q
    · exact .inl (mem3_1 q)
    · exact .inl (mem3_2 q)
    · exact (q3 b q).imp mem3_3 id
end
def Kpt (W W' : World) : Prop := ∀ C u m, OQ 61 W C u m → OQ 61 W' C u m
theorem Kpt.of {W W' : World} {hg k : Nat} {cs : Array Value} {v : Value} {c : Cw} {l l2 : Qs} (h : IsCh B W v c l) (hh : W.heap[hg]? = some (.cells cs 116)) (p : PDone B W hg k cs c l2 W') : Kpt W W' := fun C u m hu => by
  obtain ⟨_, _, _, _, _, _, q5⟩ := p
  exact own_row_stays hu q5 (fun b hb => tall_apart hu h hh hb)
def spL (l m : Qs) (i n : Nat) : Qs := l.take i ++ m ++ l.drop (i + n)
theorem tsplice1 (hg : Nat) (K : List Nat) (l1 l2 l3 m : Qs) (u : Value) (i n C : Nat) (tt : Int) (w W : World) (h : TDone B w hg K l1 l2 l3 W) (hB : B ≤ w.heap.size) (htt : tt - (i : Int) = (n : Int)) (hi : i + n ≤ l1.length) (hu : OQ 61 W C u m) (hm : l1.length + m.length ≤ 45000) (hb : m.any tlBad = false) :
    Calls Tryz.prog 133 #[.pointer (some ⟨hg, 0, none⟩), .int .i64 (i : Int), .int .i64 tt, u, .int .i64 16777216] W fun e w' => e = .returned (.tuple #[]) ∧ TDone B w hg K (spL l1 m i n) l2 l3 w' ∧ Kpt W w' := by
  obtain ⟨v1, v2, v3, c1, c2, c3, t, hK, hs⟩ := h
  refine (hgsplice_any hg 0 #[v1, v2, v3] v1 u l1 m c1 i n C tt W t.blk rfl t.i1 (Nat.le_trans hB hs.size) htt hi hu hm hb).mono ?_
  rintro e w' ⟨rfl, p⟩
  exact ⟨rfl, t.splice1 hK hs p, Kpt.of t.i1 t.blk p⟩
theorem tsplice2 (hg : Nat) (K : List Nat) (l1 l2 l3 m : Qs) (u : Value) (i n C : Nat) (tt : Int) (w W : World) (h : TDone B w hg K l1 l2 l3 W) (hB : B ≤ w.heap.size) (htt : tt - (i : Int) = (n : Int)) (hi : i + n ≤ l2.length) (hu : OQ 61 W C u m) (hm : l2.length + m.length ≤ 45000) (hb : m.any tlBad = false) :
    Calls Tryz.prog 133 #[.pointer (some ⟨hg, 1, none⟩), .int .i64 (i : Int), .int .i64 tt, u, .int .i64 16777216] W fun e w' => e = .returned (.tuple #[]) ∧ TDone B w hg K l1 (spL l2 m i n) l3 w' ∧ Kpt W w' := by
  obtain ⟨v1, v2, v3, c1, c2, c3, t, hK, hs⟩ := h
  refine (hgsplice_any hg 1 #[v1, v2, v3] v2 u l2 m c2 i n C tt W t.blk rfl t.i2 (Nat.le_trans hB hs.size) htt hi hu hm hb).mono ?_
  rintro e w' ⟨rfl, p⟩
  exact ⟨rfl, t.splice2 hK hs p, Kpt.of t.i2 t.blk p⟩
theorem tsplice3 (hg : Nat) (K : List Nat) (l1 l2 l3 m : Qs) (u : Value) (i n C : Nat) (tt : Int) (w W : World) (h : TDone B w hg K l1 l2 l3 W) (hB : B ≤ w.heap.size) (htt : tt - (i : Int) = (n : Int)) (hi : i + n ≤ l3.length) (hu : OQ 61 W C u m) (hm : l3.length + m.length ≤ 45000) (hb : m.any tlBad = false) :
    Calls Tryz.prog 133 #[.pointer (some ⟨hg, 2, none⟩), .int .i64 (i : Int), .int .i64 tt, u, .int .i64 16777216] W fun e w' => e = .returned (.tuple #[]) ∧ TDone B w hg K l1 l2 (spL l3 m i n) w' ∧ Kpt W w' := by
  obtain ⟨v1, v2, v3, c1, c2, c3, t, hK, hs⟩ := h
  refine (hgsplice_any hg 2 #[v1, v2, v3] v3 u l3 m c3 i n C tt W t.blk rfl t.i3 (Nat.le_trans hB hs.size) htt hi hu hm hb).mono ?_
  rintro e w' ⟨rfl, p⟩
  exact ⟨rfl, t.splice3 hK hs p, Kpt.of t.i3 t.blk p⟩
end Go.Proofs.YtamhnffokoejjaaGreatDoor
namespace Go.Proofs.YtamhnffokoejjaaGreatDoor
set_option linter.unusedSimpArgs false
set_option linter.unusedVariables false
set_option linter.unusedSectionVars false
open Go.RowKit
variable {B : Nat}
theorem IsCh.kind {w : World} {v : Value} {c : Cw} {l : Qs} (h : IsCh B w v c l) {b : Nat} (hb : b ∈ c.bl) : ∃ cs t, w.heap[b]? = some (.cells cs t) ∧ (t = 166 ∨ t = 211 ∨ t = 61) := by
  unfold Cw.bl at hb
  rcases List.mem_append.1 hb with hb | hb
  · obtain ⟨_, cs, e⟩ := h.rowAt (by simpa using hb)
    exact ⟨cs, _, e, .inl rfl⟩
  · cases hs : c.sq with
    | none => rw [hs] at hb; cases hb
    | some p =>
      obtain ⟨g, t⟩ := p
      obtain ⟨q, -⟩ := h.seqAt hs
      rw [hs] at hb
      obtain ⟨rv, hg, _, F, hF, _⟩ := q.obj
      rcases List.mem_cons.1 hb with rfl | hb
      · exact ⟨_, _, hg, .inr (.inl rfl)⟩
      · obtain ⟨cs, e⟩ := (hF.rows b hb).2
        exact ⟨cs, _, e, .inr (.inr rfl)⟩
theorem HAt.kind {w : World} {hg : Nat} {K : List Nat} {L : Qs} {H : List Bool} (h : HAt B w hg K L H) {b : Nat} (hb : b ∈ K) : ∃ cs t, w.heap[b]? = some (.cells cs t) ∧ (t = 166 ∨ t = 211 ∨ t = 61) := by
  obtain ⟨v1, v2, v3, c1, c2, c3, h0, h1, h2, h3, _, _, _, rfl⟩ := h.ex
  rcases mem3 hb with hb | hb | hb
  · exact h1.kind hb
  · exact h2.kind hb
  · exact h3.kind hb
theorem HC.kind {w : World} {hg : Nat} {K : List Nat} {L : Qs} {H : List Bool} (h : HAt B w hg K L H) {b : Nat} (hb : HC B w hg K b) : ∃ cs t, w.heap[b]? = some (.cells cs t) ∧ (t = 116 ∨ t = 249 ∨ (b ∈ K ∧ (t = 166 ∨ t = 211 ∨ t = 61))) := by
  rcases hb with rfl | ⟨_, hb | ⟨cs, hb⟩⟩
  · obtain ⟨v1, v2, v3, c1, c2, c3, h0, _⟩ := h.ex
    exact ⟨_, _, h0, .inl rfl⟩
  · obtain ⟨cs, t, e, q⟩ := h.kind hb
    exact ⟨cs, t, e, .inr (.inr ⟨hb, q⟩)⟩
  · exact ⟨cs, _, hb, .inr (.inl rfl)⟩
theorem HAt.stays {S : Nat → Prop} {w w' : World} {hg : Nat} {K : List Nat} {L : Qs} {H : List Bool} (h : HAt B w hg K L H) (st : Stays S w w') (hS : ∀ b, HC B w hg K b → ¬ S b) : HAt B w' hg K L H := by
  obtain ⟨v1, v2, v3, c1, c2, c3, h0, h1, h2, h3, d1, d2, d3, e⟩ := h.ex
  have k : ∀ {v : Value} {c : Cw} {l : Qs}, IsCh B w v c l → (∀ b ∈ c.bl, b ∈ K) → ∀ b, InC w c b → ¬ S b := fun i hk b hb => hS b (.inr ⟨(hb.kinds i).1, (hb.kinds i).2.imp (hk b) id⟩)
  exact ⟨⟨v1, v2, v3, c1, c2, c3, st.own h0 (hS _ (.inl rfl)), h1.stays st (k h1 (fun b hb => by rw [e]; exact mem3_1 hb)), h2.stays st (k h2 (fun b hb => by rw [e]; exact mem3_2 hb)), h3.stays st (k h3 (fun b hb => by rw [e]; exact mem3_3 hb)), d1, d2, d3, e⟩, h.base, h.len⟩
end Go.Proofs.YtamhnffokoejjaaGreatDoor
