/- frame: does, which does an act to both frames: shifts and fills. -/
import Derived.Test.YtfliniknaonieaaFrameF
namespace Go.Proofs.Ytfliniknaonieaa
set_option linter.unusedSimpArgs false
set_option linter.unusedVariables false
set_option linter.unusedSectionVars false
open Go.RowKit

/-- an act -/
structure AM where
  kind : Int
  n : Int
  r : Rt
  c : Int
  v : Value
  l : List Int
def actV (A : AM) : Value := .agg #[.int .i64 A.kind, .int .i64 A.n, .int .i64 A.r.x, .int .i64 A.r.y, .int .i64 A.r.a, .int .i64 A.r.b, .int .u32 A.c, A.v]
structure AM.Ok (W : World) (A : AM) : Prop where
  kind : I64 A.kind
  n : I64 A.n
  r : A.r.I64
  c : U32 A.c
  l : RU W A.v A.l
theorem Grown.back {w w1 : World} {S S' : Nat → Prop} (h : Grown w1 S S') (hs : w.heap.size ≤ w1.heap.size) : Grown w S S' := fun k hk => (h k hk).imp id (Nat.le_trans hs)
theorem Grown.refl (w : World) (S : Nat → Prop) : Grown w S S := fun _ h => .inl h
theorem Grown.trans {w w1 : World} {S S1 S2 : Nat → Prop} (h : Grown w S S1) (k : Grown w1 S1 S2) (hs : w.heap.size ≤ w1.heap.size) : Grown w S S2 := fun i hi => by
  rcases k i hi with h1 | h1
  · exact h i h1
  · exact .inr (Nat.le_trans hs h1)
/-- both frames are m' now -/
def Did (Fr : World → Nat → FM → (Nat → Prop) → Prop) (w : World) (a p : Nat) (m : FM) (S T : Nat → Prop) (w' : World) : Prop := ∃ m' S' T', Fr w' a m' S' ∧ RX w' p m' T' ∧ Keeps (fun k => S k ∨ T k) w w' ∧ Grown w S S' ∧ Grown w T T' ∧ m'.Ok ∧ m'.w = m.w ∧ m'.rows.length = m.rows.length ∧ m.n ≤ m'.n ∧ m'.n ≤ m.n + 60000000 ∧ Apart S' T'
section
variable {Fr : World → Nat → FM → (Nat → Prop) → Prop}
/-- what is asked of the two frames ahead of an act -/
structure Both (Fr : World → Nat → FM → (Nat → Prop) → Prop) (w : World) (a p : Nat) (m : FM) (S T : Nat → Prop) : Prop where
  f : Fr w a m S
  x : RX w p m T
  ap : Apart S T
  ok : m.Ok
  wide : m.w ≤ 40
  high : m.rows.length ≤ 40
  n0 : 0 ≤ m.n
  n1 : m.n ≤ 10000000000
theorem Both.small {w : World} {a p : Nat} {m : FM} {S T : Nat → Prop} (h : Both Fr w a p m S T) : Small m := ⟨h.ok, Nat.le_trans h.wide (by decide), Nat.le_trans h.high (by decide), h.n0, by have := h.n1; omega⟩
theorem cnt_small {r : Rt} {w y : Nat} (hw : w ≤ 40) (hy : y ≤ 40) : 0 ≤ cntA r w y ∧ cntA r w y ≤ 1600 := by
  have h := cntA_in r w y
  have h2 : (y : Int) * (w : Int) ≤ 40 * 40 := Int.mul_le_mul (by omega) (by omega) (by omega) (by omega)
  omega
/-- the program's frame first, then the document's -/
theorem did_two (F : FSays Fr) {w w1 w2 w3 : World} {a p : Nat} {m m' : FM} {S T S2 T3 : Nat → Prop} (h : Both Fr w a p m S T) (b : AnyLater w w1) (k2 : Keeps S w1 w2) (f2 : Fr w2 a m' S2) (g2 : Grown w1 S S2) (k3 : Keeps T w2 w3) (x3 : RX w3 p m' T3) (g3 : Grown w2 T T3)
    (ok : m'.Ok) (e1 : m'.w = m.w) (e2 : m'.rows.length = m.rows.length) (e3 : m.n ≤ m'.n) (e4 : m'.n ≤ m.n + 60000000) : Did Fr w a p m S T w3 := by
  have hT := (h.x.any b).below
  refine ⟨m', S2, T3, F.apart f2 k3 (h.ap.grown g2 hT), x3, ((Keeps.of b).trans (k2.wide fun k _ hk => .inl hk)).trans (k3.wide fun k _ hk => .inr hk), g2.back b.below.size, g3.back (Nat.le_trans b.below.size k2.size), ok, e1, e2, e3, e4, fun k hs ht => (g3 k ht).elim (fun h1 => h.ap.grown g2 hT k hs h1) (fun h2 => by have := F.below f2 k hs; omega)⟩

set_option maxRecDepth 100000 in
set_option maxHeartbeats 6400000 in
theorem does_shift (F : FSays Fr) (W0 w : World) (a p : Nat) (m : FM) (S T : Nat → Prop) (A : AM) (hk : A.kind = 1) (h : Both Fr w a p m S T) (hA : A.Ok W0) :
    Calls Try.prog 13 #[ptr a, ptr p, actV A] w fun e w' => e = .returned (.bool true) ∧ Did Fr w a p m S T w' := by
  obtain ⟨Ad, cap, hv, _⟩ := hA.l
  have hn := hA.n
  have HB := Lib.hid h
  have HF := Lib.hid F
  have nS : ¬ S w.heap.size := fun hs => by have := F.below h.f _ hs; omega
  clear hA h F
  unfold actV ptr
  rw [hv, hk]
  go_enter Try.func13, Try.ntmps13
  go_wp2_with fail
  first | refine settle_wp (fun wS => AnyLater w wS ∧ wS.heap[w.heap.size]? = some (.cells #[.int .i64 1, .int .i64 A.n, .int .i64 A.r.x, .int .i64 A.r.y, .int .i64 A.r.a, .int .i64 A.r.b, .int .u32 A.c, .slice Ad A.l.length cap] 36)) ?_ ?_ | refine settle_calls (fun wS => AnyLater w wS ∧ wS.heap[w.heap.size]? = some (.cells #[.int .i64 1, .int .i64 A.n, .int .i64 A.r.x, .int .i64 A.r.y, .int .i64 A.r.a, .int .i64 A.r.b, .int .u32 A.c, .slice Ad A.l.length cap] 36)) ?_ ?_
  · refine ⟨?_, ?_⟩
    · repeat' (first | with_reducible assumption | with_reducible exact AnyLater.refl _ | with_reducible apply AnyLater.setCell | with_reducible apply AnyLater.later | with_reducible apply AnyLater.drewN | with_reducible apply AnyLater.drew | with_reducible apply AnyLater.alloc | ((try simp only [World.size_alloc, World.size_setCell, World.size_drew]); (try dsimp only); omega))
    · ((repeat (first | with_reducible assumption | ((with_reducible apply heap_new); (try simp only [World.size_alloc, World.size_setCell, World.size_drew, World.heap_drewN]); done) | ((with_reducible apply heap_new); (try simp only [World.size_alloc, World.size_setCell, World.size_drew, World.heap_drewN]); omega) | (with_reducible refine heap_old (by (try simp only [World.size_alloc, World.size_setCell, World.size_drew, World.heap_drewN]); omega) ?_) | (with_reducible refine heap_drew ?_) | (with_reducible refine heap_far (by omega) ?_) | (with_reducible apply heap_at))); all_goals rfl)
  rintro w1 ⟨b_w1, s0_w1⟩
  have a_w1 := b_w1
  have r0_w1 := own_row s0_w1
  have f0_w1 := own_free s0_w1
  have l0_w1 := own_lt s0_w1
  have z_w1 := b_w1.below.size
  refine (HF.out.shift A.n (HF.out.later HB.out.f b_w1) HB.out.small hn).mono ?_
  rintro e w2 ⟨rfl, k2, S2, f2, g2⟩
  have s0_w2 := (k2.block _ l0_w1 nS).trans s0_w1
  have r0_w2 := own_row s0_w2
  have x2 := (HB.out.x.any b_w1).apart k2 HB.out.ap.symm
  have HD := Lib.hid (And.intro b_w1 (And.intro k2 (And.intro f2 g2)))
  have HX := Lib.hid x2
  clear f2 g2 k2 x2
  go_wp2_with fail
  refine (xshift_any w2 p m T A.n HX.out (Nat.le_trans HB.out.wide (by decide)) (Nat.le_trans HB.out.high (by decide)) hn).mono ?_
  rintro e w3 ⟨rfl, k3, T3, x3, g3⟩
  have HE := Lib.hid (And.intro k3 (And.intro x3 g3))
  clear k3 x3 g3
  go_wp2_with fail
  go_ret
  exact ⟨rfl, did_two HF.out HB.out HD.out.1 HD.out.2.1 HD.out.2.2.1 HD.out.2.2.2 HE.out.1 HE.out.2.1 HE.out.2.2 (shiftM_ok HB.out.ok) rfl (shiftR_len _ _) (Int.le_refl _) (by show m.n ≤ m.n + _; omega)⟩
set_option maxRecDepth 100000 in
set_option maxHeartbeats 6400000 in
theorem does_fill (F : FSays Fr) (W0 w : World) (a p : Nat) (m : FM) (S T : Nat → Prop) (A : AM) (hk1 : A.kind ≠ 1) (hk2 : A.kind ≠ 2) (hk3 : A.kind ≠ 3) (h : Both Fr w a p m S T) (hA : A.Ok W0) :
    Calls Try.prog 13 #[ptr a, ptr p, actV A] w fun e w' => e = .returned (.bool true) ∧ Did Fr w a p m S T w' := by
  obtain ⟨Ad, cap, hv, _⟩ := hA.l
  obtain ⟨kind, n, r, c, v, l⟩ := A
  simp only at hk1 hk2 hk3 hv
  have HA := Lib.hid hA
  have HB := Lib.hid h
  have HF := Lib.hid F
  have nS : ¬ S w.heap.size := fun hs => by have := F.below h.f _ hs; omega
  have nT : ¬ T w.heap.size := fun hs => by have := h.x.below _ hs; omega
  obtain ⟨cn, hcn⟩ : ∃ n, cntA r m.w m.rows.length = n := ⟨_, rfl⟩
  have HC := Lib.hid hcn
  have HCb := Lib.hid (cnt_small (r := r) h.wide h.high)
  clear hA h F hcn
  unfold actV ptr
  subst hv
  go_enter Try.func13, Try.ntmps13
  go_wp2_with fail
  first | refine settle_wp (fun wS => AnyLater w wS ∧ wS.heap[w.heap.size]? = some (.cells #[.int .i64 kind, .int .i64 n, .int .i64 r.x, .int .i64 r.y, .int .i64 r.a, .int .i64 r.b, .int .u32 c, .slice Ad l.length cap] 36)) ?_ ?_ | refine settle_calls (fun wS => AnyLater w wS ∧ wS.heap[w.heap.size]? = some (.cells #[.int .i64 kind, .int .i64 n, .int .i64 r.x, .int .i64 r.y, .int .i64 r.a, .int .i64 r.b, .int .u32 c, .slice Ad l.length cap] 36)) ?_ ?_
  · refine ⟨?_, ?_⟩
    · repeat' (first | with_reducible assumption | with_reducible exact AnyLater.refl _ | with_reducible apply AnyLater.setCell | with_reducible apply AnyLater.later | with_reducible apply AnyLater.drewN | with_reducible apply AnyLater.drew | with_reducible apply AnyLater.alloc | ((try simp only [World.size_alloc, World.size_setCell, World.size_drew]); (try dsimp only); omega))
    · ((repeat (first | with_reducible assumption | ((with_reducible apply heap_new); (try simp only [World.size_alloc, World.size_setCell, World.size_drew, World.heap_drewN]); done) | ((with_reducible apply heap_new); (try simp only [World.size_alloc, World.size_setCell, World.size_drew, World.heap_drewN]); omega) | (with_reducible refine heap_old (by (try simp only [World.size_alloc, World.size_setCell, World.size_drew, World.heap_drewN]); omega) ?_) | (with_reducible refine heap_drew ?_) | (with_reducible refine heap_far (by omega) ?_) | (with_reducible apply heap_at))); all_goals rfl)
  rintro w1 ⟨b_w1, s0_w1⟩
  have a_w1 := b_w1
  have r0_w1 := own_row s0_w1
  have f0_w1 := own_free s0_w1
  have l0_w1 := own_lt s0_w1
  have z_w1 := b_w1.below.size
  apply wp_region_acts 14 [(5, .int .i64 cn), (11, .int .i64 cn)] (fun w' => w'.heap[w.heap.size]? = some (.cells #[.int .i64 kind, .int .i64 n, .int .i64 r.x, .int .i64 r.y, .int .i64 r.a, .int .i64 r.b, .int .u32 c, .slice Ad l.length cap] 36))
    (stL [fun w' => w' = w1.drew, fun w' => Keeps S w1.drew w' ∧ ∃ S2, Fr w' a (fillM r c m) S2 ∧ Grown w1.drew S S2, fun w' => Did Fr w a p m S T w']) (by kernel_rfl) (by kernel_rfl) (by kernel_rfl) (heap_drew s0_w1) rfl
  case hlex =>
    intro U hU
    have q0 := own_row hU
    simp only [actFrom, actOp, List.lookup, Nat.reduceBEq, Nat.reduceLeDiff, Nat.reduceAdd, if_false, if_true]
    repeat (go_big_quiet_step (fail))
    exact wpQuiet_nil rfl
  case hact =>
    intro j hj o ho
    have hj3 : j = 0 ∨ j = 1 := by simp at hj; omega
    rcases hj3 with rfl | rfl
    · cases ho
      refine ⟨rfl, fun w' hC hS => ?_⟩
      obtain rfl : w' = w1.drew := hS
      refine act_call (f := 37) (args := #[ptr a, rtV r, .int .u32 c]) (by simp [go_sem, execOp, ptr, rtV]) ?_
      refine (HF.out.fill r c cn HC.out (HF.out.later HB.out.f b_w1.drew) HB.out.small HA.out.r HA.out.c).mono ?_
      rintro e w2 ⟨rfl, k2, S2, f2, g2⟩
      exact ⟨rfl, (k2.block _ (own_lt hC) nS).trans hC, k2, S2, f2, g2⟩
    · cases ho
      refine ⟨rfl, fun w' hC hS => ?_⟩
      obtain ⟨k2, S2, f2, g2⟩ := hS
      refine act_call (f := 28) (args := #[ptr p, rtV r, .int .u32 c]) (by simp [go_sem, execOp, ptr, rtV]) ?_
      have hx2 := (HB.out.x.any b_w1.drew).apart k2 HB.out.ap.symm
      refine (xfill_any w' p m T r c cn hx2 HA.out.r (Nat.le_trans HB.out.wide (by decide)) (Nat.le_trans HB.out.high (by decide)) ⟨HB.out.n0, by have := HB.out.n1; omega⟩ HC.out).mono ?_
      rintro e w3 ⟨rfl, k3, x3⟩
      refine ⟨rfl, (k3.block _ (own_lt hC) nT).trans hC, did_two HF.out HB.out b_w1.drew k2 f2 g2 k3 x3 (Grown.refl _ _) (fillM_ok HB.out.ok) rfl (fillA_len _ _ _) ?_ ?_⟩
      · show m.n ≤ m.n + cntA r m.w m.rows.length
        have := HCb.out; omega
      · show m.n + cntA r m.w m.rows.length ≤ m.n + _
        have := HCb.out; omega
  case htail =>
    intro w' hC hS
    have HD := Lib.hid hS
    clear hS
    simp only [List.drop_succ_cons, List.drop_zero, List.drop_nil]
    go_wp2_with fail
    go_ret
    exact ⟨rfl, HD.out⟩
end
end Go.Proofs.Ytfliniknaonieaa
