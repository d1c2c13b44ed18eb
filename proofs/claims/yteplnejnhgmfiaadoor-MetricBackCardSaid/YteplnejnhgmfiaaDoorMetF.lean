/- metric: slices.Backward at rows: its contract, whatever the loop's body, which keeps what lay below some block. -/
import Derived.Test.YteplnejnhgmfiaaDoorMetA
import Derived.RangeFuncNested
import Derived.RangeFuncBound
import Derived.RangeFuncCalls
import Derived.RangeFuncLeaves
import Derived.Shelf.Abstract
import Derived.OwnWalkIn
import Derived.TacticsInMore
import Derived.LoopNIn
import Derived.LoopIn
import Derived.Shelf.RegionOpen
namespace Go.Proofs.YteplnejnhgmfiaaDoor
set_option linter.unusedSimpArgs false
set_option linter.unusedVariables false
set_option linter.unusedSectionVars false
open Go.RowKit Go.Shelf
attribute [local go_sem] Oper.semAt_some

/-- a region that draws its order, in a loop's round: its orders are those of the wide fence, as it defers nothing -/
theorem any_round {n l : Nat} {P : Program} {md : Region.Mode} {ops : Array Oper} {Q : Exit → Act → World → Prop} (hd : (ops.toList.all fun o => match o.op with | .defer _ => false | _ => true) = true) :
    ∀ (fuel : Nat) (listed : Array Bool) (a : Act) (w : World), wpAnyIn Fence.wide n P md ops Q fuel listed a w → wpAnyIn (Fence.wide.inRound l) n P md ops Q fuel listed a w
  | 0, _, _, _, h => h
  | fuel + 1, listed, a, w, h => ⟨h.1, fun i hi => by
    have h2 := wpOpIn_mono (K' := wpAnyIn (Fence.wide.inRound l) n P md ops Q fuel (listed.setIfInBounds i true)) (fun a w => any_round (l := l) hd fuel (listed.setIfInBounds i true) a w) (h.2 i hi)
    unfold wpOpIn at h2 ⊢
    cases ho : ops[i]? with
    | none => rw [ho] at h2; exact h2
    | some o =>
      rw [ho] at h2
      have hno : ∀ c, o.op ≠ .defer c := fun c e => by
        have := List.all_eq_true.1 hd o (by rw [← Array.mem_def]; exact Array.mem_of_getElem? ho)
        rw [e] at this
        cases this
      simp only at h2 ⊢
      split at h2
      · rename_i hw
        rw [if_pos hw]
        refine ⟨h2.1, ?_⟩
        have h3 := h2.2
        rw [Fence.inRound_round, Oper.semAt_some l _ o hno]
        rw [Fence.wide_round, Oper.semAt_none] at h3
        generalize (execOp a.eval o).run P w = r at h3
        cases r with
        | ok x w2 => cases x <;> exact h3
        | halt x w2 => cases x <;> exact h3
      · rename_i hw
        rw [if_neg hw]
        exact h2⟩
/-- what has come when k rounds are over: f (n - 1), .., f (n - k) -/
def downto {α : Type} (f : Nat → α) (n k : Nat) : List α := (List.range k).map fun j => f (n - 1 - j)
theorem downto_succ {α : Type} (f : Nat → α) (n k : Nat) : downto f n (k + 1) = downto f n k ++ [f (n - 1 - k)] := by simp [downto, List.range_succ]
theorem downto_length {α : Type} (f : Nat → α) (n k : Nat) : (downto f n k).length = k := by simp [downto]
/-- what a round keeps that goes on: what lay below n₀, and the block B (the iterator's own box) -/
def KpB (n₀ B : Nat) (W W' : World) : Prop := Below n₀ W W' ∧ W'.heap[B]? = W.heap[B]?
theorem KpB.refl (n₀ B : Nat) (W : World) : KpB n₀ B W W := ⟨Below.refl _ _, rfl⟩
theorem KpB.trans {n₀ B : Nat} {X Y Z : World} (h : KpB n₀ B X Y) (k : KpB n₀ B Y Z) : KpB n₀ B X Z := ⟨h.1.trans k.1, k.2.trans h.2⟩
theorem KpB.any {n₀ B : Nat} {W W' : World} (a : AnyLater W W') (h1 : n₀ ≤ W.heap.size) (h2 : B < W.heap.size) : KpB n₀ B W W' := ⟨a.below.mono h1, a.below.block B h2⟩
theorem KpB.setCell {n₀ B : Nat} {W W' : World} (h : KpB n₀ B W W') {p : Addr} (h1 : n₀ ≤ p.block) (h2 : B ≠ p.block) (v : Value) : KpB n₀ B W (W'.setCell p v) := ⟨h.1.setCell h1 v, (Below.heap_setCell W' p v B h2).trans h.2⟩
theorem KpB.drew {n₀ B : Nat} {W W' : World} (h : KpB n₀ B W W') : KpB n₀ B W W'.drew := ⟨h.1.drew, h.2⟩
theorem KpB.turn {n₀ B : Nat} {w : World} (hn : n₀ ≤ w.heap.size) (hB : B < w.heap.size) (W : World) (l : Nat) (o o' : Obj) (hl : w.heap.size ≤ l) (h : W.heap[l]? = some o) (h1 : o.isCells = false) (h2 : o.isWalk = false) : KpB n₀ B W (W.putObj l o') :=
  ⟨belowK_b hn W l o o' hl h h1 h2, World.putObj_heap_other (by omega)⟩
set_option maxRecDepth 100000 in
set_option maxHeartbeats 3200000 in
theorem back1_in {α : Type} (encs : α → Array Value) (el : Nat → α) (n : Nat) (hn : 1 ≤ n) (l Bs n₀ : Nat) (A : Option Addr) (cap m : Nat) (lv : List LdV) (w0 : World) (hm : lv.length = m) (hm2 : m ≤ 100000) (hR : FR ldF w0 (.slice A m cap) lv) (hw0 : w0.heap.size ≤ n₀) (J Jx : List α → World → Prop)
    (hel : ∀ (j : Nat) (h : j < lv.length), encs (el j) = #[.int .i64 (j : Int), .agg #[.slice lv[j].a1 lv[j].n1 lv[j].c1, .slice lv[j].a2 lv[j].n2 lv[j].c2, .int .i64 lv[j].up, .int .i64 lv[j].dn, .int .i64 lv[j].fr, .int .i64 lv[j].en, .bool lv[j].la]])
    (hY : ∀ pre x W, J pre W → pre.length < m → YieldAt Fence.wide (n - 1) Tryd.prog l (encs x) W fun e W' =>
      (e = .returned (.bool true) ∧ J (pre ++ [x]) W' ∧ KpB n₀ Bs W W') ∨ (e = .returned (.bool false) ∧ Jx (pre ++ [x]) W'))
    (W : World) (hBs : W.cell? ⟨Bs, 0, none⟩ = some (.slice A m cap)) (hW : AnyLater w0 W) (h0 : J [] W) :
    CallsIn Fence.wide n Tryd.prog 61 #[.func (.yield l) #[] #[], .pointer (some ⟨Bs, 0, none⟩)] W fun e W' => (∃ v, e = .returned v) ∧
      ((∃ ys, ys = downto el m m ∧ J ys W') ∨ (∃ pre, (∃ k, k ≤ m ∧ pre = downto el m k) ∧ Jx pre W')) := by
  have HR := Lib.hid hR
  have HM := Lib.hid hm
  have HY := Lib.hid hY
  have HEL := Lib.hid hel
  clear hR hm hY hel
  refine callsIn_of_wp Tryd.func61 rfl trivial ?_ rfl
  simp only [Tryd.ntmps61, List.size_toArray, List.length_cons, List.length_nil, Nat.reduceAdd, Nat.reduceSub, Array.replicate_succ, Array.replicate_zero, List.push_toArray, List.append_toArray, List.nil_append, List.cons_append]
  gi_wp2
  gi_loopw [3] (fun i wr => ∃ (k : Nat) (z : Int), k ≤ m ∧ i = .int .i64 z ∧ z = (m : Int) - 1 - (k : Int) ∧ J (downto el m k) wr ∧ KpB n₀ Bs W wr)
    (fun i _ => (intOf i + 1).toNat)
  case atStart => exact ⟨0, _, Nat.zero_le _, rfl, by omega, h0, KpB.refl _ _ _⟩
  case round =>
    obtain ⟨k, z, hk, rfl, hz, hJs, hnx⟩ := hrel
    have hbs : wr.cell? ⟨Bs, 0, none⟩ = some (.slice A m cap) := (World.cell?_of_block (w := W) hnx.2).trans hBs
    by_cases hlt : k < m
    · obtain ⟨j, hj⟩ : ∃ j, m - 1 - k = j := ⟨_, rfl⟩
      obtain rfl : z = (j : Int) := by omega
      have lj : j < lv.length := by rw [HM.out]; omega
      obtain ⟨b, off, rfl, hb, hc⟩ := HR.out.at j lj
      have hlat : ∀ (i : Nat) (x : Value), (ldF.fl lv[j])[i]? = some x → wr.cell? ⟨b, off + j * 7 + i, none⟩ = some x := fun i x hx =>
        (hnx.1.cell (p := ⟨b, off + j * 7 + i, none⟩) (Nat.lt_of_lt_of_le hb hw0)).trans ((hW.below.cell hb).trans (hc i x hx))
      have hel := HEL.out j lj
      obtain ⟨x, hx⟩ : ∃ x, lv[j] = x := ⟨_, rfl⟩
      rw [hx] at hlat hel
      have c0 : wr.cell? ⟨b, off + j * 7, none⟩ = some (.slice x.a1 x.n1 x.c1) := hlat 0 _ rfl
      have c1 : wr.cell? ⟨b, off + j * 7 + 1, none⟩ = some (.slice x.a2 x.n2 x.c2) := hlat 1 _ rfl
      have c2 : wr.cell? ⟨b, off + j * 7 + 2, none⟩ = some (.int .i64 x.up) := hlat 2 _ rfl
      have c3 : wr.cell? ⟨b, off + j * 7 + 3, none⟩ = some (.int .i64 x.dn) := hlat 3 _ rfl
      have c4 : wr.cell? ⟨b, off + j * 7 + 4, none⟩ = some (.int .i64 x.fr) := hlat 4 _ rfl
      have c5 : wr.cell? ⟨b, off + j * 7 + 5, none⟩ = some (.int .i64 x.en) := hlat 5 _ rfl
      have c6 : wr.cell? ⟨b, off + j * 7 + 6, none⟩ = some (.bool x.la) := hlat 6 _ rfl
      obtain ⟨fn, tmps, assign, body, hy, hRR⟩ := HY.out _ (el j) wr hJs (by rw [downto_length]; exact hlt)
      rw [hel] at hy
      have j0 : (j : Int) < (m : Int) := by omega
      have HJ := Lib.hid hj
      have HNX := Lib.hid hnx
      have HRR := Lib.hid hRR
      have HZ := Lib.hid hz
      clear hRR hnx hlat hj hz hel hx hc
      gi_wp2
      refine HRR.out.mono ?_
      rintro e W3 (⟨rfl, hJ3, hk3⟩ | ⟨rfl, hJx3⟩)
      · gi_wp2
        go_roundw
        case rel => exact ⟨k + 1, _, by omega, rfl, by have := HZ.out; omega, by rw [downto_succ, HJ.out]; exact hJ3, HNX.out.trans hk3⟩
        case measure => simp [intOf]
      · gi_wp2
        refine bodyPost_ret (results_none rfl _ _ _) rfl ?_
        exact ⟨⟨_, rfl⟩, .inr ⟨_, ⟨k + 1, by omega, by rw [downto_succ, HJ.out]⟩, hJx3⟩⟩
    · obtain rfl : k = m := by omega
      obtain rfl : z = -1 := by omega
      gi_wp2
      go_end0
      exact ⟨⟨_, rfl⟩, .inl ⟨_, rfl, hJs⟩⟩
/-- slices.Backward(v) -/
theorem back_any (A : Option Addr) (n cap : Nat) (w : World) : Calls Tryd.prog 43 #[.slice A n cap] w fun e w' => e = .returned (.func (.func 61) #[] #[.pointer (some ⟨w.heap.size, 0, none⟩)]) ∧ w' = w.alloc (.cells #[.slice A n cap] 29) := by
  go_enter Tryd.func43, Tryd.ntmps43
  go_wp2_with fail
  go_ret
  exact ⟨rfl, rfl⟩
theorem back_stops {α : Type} (encs : α → Array Value) (el : Nat → α) (n : Nat) (hn : 1 ≤ n) (Bs : Nat) (A : Option Addr) (cap m : Nat) (lv : List LdV) (w0 w : World) (hm : lv.length = m) (hm2 : m ≤ 100000) (hR : FR ldF w0 (.slice A m cap) lv)
    (hel : ∀ (j : Nat) (h : j < lv.length), encs (el j) = #[.int .i64 (j : Int), .agg #[.slice lv[j].a1 lv[j].n1 lv[j].c1, .slice lv[j].a2 lv[j].n2 lv[j].c2, .int .i64 lv[j].up, .int .i64 lv[j].dn, .int .i64 lv[j].fr, .int .i64 lv[j].en, .bool lv[j].la]]) (hw : AnyLater w0 w) (hBs : w.cell? ⟨Bs, 0, none⟩ = some (.slice A m cap)) :
    SeqStopsK Fence.wide n Tryd.prog 61 #[.pointer (some ⟨Bs, 0, none⟩)] encs (KpB w0.heap.size Bs) (fun ys => ys = downto el m m) (fun pre => ∃ k, k ≤ m ∧ pre = downto el m k) m w := fun l J Jx W hW _ _ hY h0 =>
  back1_in encs el n hn l Bs w0.heap.size A cap m lv w0 hm hm2 hR (Nat.le_refl _) J Jx hel hY W ((hW.cell (p := ⟨Bs, 0, none⟩) (World.block_lt_of_cell? w ⟨Bs, 0, none⟩ hBs)).trans hBs) (hw.trans (.of hW)) h0
theorem back_enters : ∀ args w, (callFunc 61 args).run Tryd.prog w = .ok (.enter 61 args) w := enters_of Tryd.func61 (by kernel_rfl) rfl
end Go.Proofs.YteplnejnhgmfiaaDoor
