/- frame: does, which does an act to both frames: a row laid. -/
import Derived.Test.YtfliniknaonieaaFrameH
namespace Go.Proofs.Ytfliniknaonieaa
set_option linter.unusedSimpArgs false
set_option linter.unusedVariables false
set_option linter.unusedSectionVars false
open Go.RowKit

theorem owns_put {w : World} {B : Nat} {e : TypeId} {size n cap g i : Nat} {xs : List Value} {x : Value} (o : w.ownsRow B e size (.slice (some ⟨g, 0, none⟩) n cap) n xs) : (w.setCell ⟨g, i, none⟩ x).ownsRow B e size (.slice (some ⟨g, 0, none⟩) n cap) n (xs.set i x) := by
  refine ⟨by rw [List.length_set]; exact o.1, ?_⟩
  rcases o.2 with ⟨h1, _⟩ | ⟨g', cap', cur, h1, h2, h3, h4, h5, h6, h7⟩
  · cases h1
  · obtain ⟨rfl, rfl⟩ : g' = g ∧ cap' = cap := by cases h1; exact ⟨rfl, rfl⟩
    refine .inr ⟨g', cap', cur.setIfInBounds i x, rfl, h2, heap_at h3 rfl, h4, h5, by simpa using h6, ?_⟩
    rw [Array.toList_setIfInBounds, List.take_set, h7]
/-- another row in the place of one of a frame's -/
theorem RXr.setRow {w : World} {p q W H capx g c i : Nat} {rows : Pix} {n0 : Int} {T : Nat → Prop} {rs : List (Nat × Nat)} {cur cells : Array Value} {r : List Int} (h : RXr w p ⟨W, rows, n0⟩ T (.slice (some ⟨q, 0, none⟩) H capx) rs) (hH : rows.length = H) (hq : w.heap[q]? = some (.cells cur 34))
    (hg : w.heap[g]? = some (.cells cells 33)) (hn : ¬ T g) (hc : W ≤ c) (hr : r.length = W) (hx : ∀ (x : Nat) (hx : x < r.length), cells[x]? = some (.int .u32 r[x])) :
    RXr (w.setCell ⟨q, i, none⟩ (.slice (some ⟨g, 0, none⟩) W c)) p ⟨W, rows.set i r, n0⟩ (fun k => T k ∨ k = g) (.slice (some ⟨q, 0, none⟩) H capx) (rs.set i (g, c)) := by
  have hp : p ≠ q := by
    intro e
    have := h.top
    rw [e, hq] at this
    cases this
  have hrow : RowsAt (w.setCell ⟨q, i, none⟩ (.slice (some ⟨g, 0, none⟩) W c)) W (rs.set i (g, c)) (rows.set i r) (fun k => T k ∨ k = g) := by
    have h1 := (h.rows.wide (S' := fun k => T k ∨ k = g) (fun k hk _ => .inl hk)).keep2 q hq (by decide) (i := i) (x := .slice (some ⟨g, 0, none⟩) W c)
    refine h1.swap (.inr rfl) hc hr (heap_far ?_ hg) hx (fun j hj e => ?_)
    · intro e
      rw [e, hq] at hg
      cases hg
    · have hj2 : j < rows.length := by rw [← h.rows.len]; exact hj
      have := (h.rows.each j hj hj2).1
      rw [e] at this
      exact hn this
  refine ⟨.inl h.here, heap_far hp h.top, fun k hk => .inl (h.mid k hk), ?_, hrow, fun k hk => ?_⟩
  · have := owns_put (i := i) (x := Value.slice (some ⟨g, 0, none⟩) W c) (show w.ownsRow 0 34 1 (.slice (some ⟨q, 0, none⟩) H capx) H (rs.map (rowV W)) by have := h.own; simp only [hH] at this; exact this)
    show World.ownsRow _ 0 34 1 _ (rows.set i r).length _
    rw [List.length_set, hH, List.map_set]
    exact this
  · rw [World.size_setCell]
    rcases hk with hk | hk
    · exact h.below k hk
    · rw [hk]; exact own_lt hg

section
variable {Fr : World → Nat → FM → (Nat → Prop) → Prop}
/-- the document's frame first, then the program's -/
theorem did_rev (F : FSays Fr) {w wX w7 w8 : World} {a p : Nat} {m m' : FM} {S T T3 S8 : Nat → Prop} (h : Both Fr w a p m S T) (kx : Keeps T w wX) (x3 : RX wX p m' T3) (g3 : Grown w T T3) (b7 : AnyLater wX w7) (k8 : Keeps S w7 w8) (f8 : Fr w8 a m' S8) (g8 : Grown w7 S S8)
    (ok : m'.Ok) (e1 : m'.w = m.w) (e2 : m'.rows.length = m.rows.length) (e3 : m.n ≤ m'.n) (e4 : m'.n ≤ m.n + 60000000) : Did Fr w a p m S T w8 := by
  have hap : Apart T3 S := h.ap.symm.grown g3 (F.below h.f)
  have hs : w.heap.size ≤ w7.heap.size := Nat.le_trans kx.size b7.below.size
  exact ⟨m', S8, T3, f8, (x3.any b7).apart k8 hap, ((kx.wide fun k _ hk => .inr hk).trans (Keeps.of b7)).trans (k8.wide fun k _ hk => .inl hk), g8.back hs, g3, ok, e1, e2, e3, e4, fun k hs8 ht => (g8 k hs8).elim (fun h1 => hap k ht h1) (fun h2 => by have := x3.below k ht; have := b7.below.size; omega)⟩
theorem RU.take {w : World} {A : Option Addr} {n cap : Nat} {l : List Int} (h : RU w (.slice A n cap) l) (k : Nat) (hk : k ≤ l.length) : RU w (.slice A k cap) (l.take k) := by
  obtain ⟨A2, cap2, e, h2, h3⟩ := h
  cases e
  have hl : (l.take k).length = k := by rw [List.length_take]; omega
  refine ⟨A, cap, by rw [hl], by omega, fun h0 => ?_⟩
  obtain ⟨b, off, e, hb, hc⟩ := h3 (by omega)
  exact ⟨b, off, e, hb, fun j hj => by rw [List.getElem_take]; exact hc j (by omega)⟩

set_option maxRecDepth 100000 in
set_option maxHeartbeats 12800000 in
theorem does_lay (F : FSays Fr) (W0 w : World) (hW : AnyLater W0 w) (a p : Nat) (m : FM) (S T : Nat → Prop) (hS0 : ∀ k, S k → W0.heap.size ≤ k) (hT0 : ∀ k, T k → W0.heap.size ≤ k) (A : AM) (hk : A.kind = 2) (h : Both Fr w a p m S T) (hA : A.Ok W0) :
    Calls Try.prog 13 #[ptr a, ptr p, actV A] w fun e w' => e = .returned (.bool true) ∧ Did Fr w a p m S T w' := by
  obtain ⟨Ad, cap, hv, hcap, _⟩ := hA.l
  obtain ⟨kind, n, r, c, v, l⟩ := A
  simp only at hk hv hcap
  obtain ⟨W, rows, n0⟩ := m
  obtain ⟨vx, rs, hx⟩ := h.x
  obtain ⟨Ax, capx, rfl⟩ := hx.len
  have hwide : W ≤ 40 := h.wide
  have hhigh : rows.length ≤ 40 := h.high
  have hn0 : 0 ≤ n0 := h.n0
  have hn1 : n0 ≤ 10000000000 := h.n1
  obtain ⟨H, hH⟩ : ∃ H, rows.length = H := ⟨_, rfl⟩
  simp only [hH] at hx hhigh
  have HX := Lib.hid hx
  have HH := Lib.hid hH
  have HA := Lib.hid hA
  have HB := Lib.hid h
  have HF := Lib.hid F
  have HW := Lib.hid (And.intro hW (And.intro hS0 hT0))
  have nS : ¬ S w.heap.size := fun hs => by have := F.below h.f _ hs; omega
  have nT : ¬ T w.heap.size := fun hs => by have := h.x.below _ hs; omega
  obtain ⟨ln, hln⟩ : ∃ ln, l.length = ln := ⟨_, rfl⟩
  have HLn := Lib.hid hln
  obtain ⟨hni1, hni2⟩ := hA.n
  have s1_w := hx.top
  clear hA h F hx hW hS0 hT0 hH
  unfold actV ptr
  subst hv
  subst hk
  rw [hln] at hcap
  simp only [hln]
  clear hln
  by_cases h50 : (50 : Int) < (ln : Int)
  · have k50 : (50 : Int) ≤ (cap : Int) := by omega
    obtain ⟨LL, hLL⟩ : ∃ LL, l.take 50 = LL := ⟨_, rfl⟩
    have HNN : Hid (LL.length = 50) := Lib.hid (by rw [← hLL, List.length_take, HLn.out]; omega)
    have HRU : Hid (∀ w', AnyLater W0 w' → RU w' (.slice Ad 50 cap) LL) := Lib.hid (fun w' hw => by rw [← hLL]; exact (HA.out.l.later hw).take 50 (by rw [HLn.out]; omega))
    clear hLL
    go_enter Try.func13, Try.ntmps13
    go_wp2_with fail
    first | refine settle_wp (fun wS => AnyLater w wS ∧ wS.heap[w.heap.size]? = some (.cells #[.int .i64 2, .int .i64 n, .int .i64 r.x, .int .i64 r.y, .int .i64 r.a, .int .i64 r.b, .int .u32 c, .slice Ad ln cap] 36)) ?_ ?_ | refine settle_calls (fun wS => AnyLater w wS ∧ wS.heap[w.heap.size]? = some (.cells #[.int .i64 2, .int .i64 n, .int .i64 r.x, .int .i64 r.y, .int .i64 r.a, .int .i64 r.b, .int .u32 c, .slice Ad ln cap] 36)) ?_ ?_
    · refine ⟨?_, ?_⟩
      · repeat' (first | with_reducible assumption | with_reducible exact AnyLater.refl _ | with_reducible apply AnyLater.setCell | with_reducible apply AnyLater.later | with_reducible apply AnyLater.drewN | with_reducible apply AnyLater.drew | with_reducible apply AnyLater.alloc | ((try simp only [World.size_alloc, World.size_setCell, World.size_drew]); (try dsimp only); omega))
      · ((repeat (first | with_reducible assumption | ((with_reducible apply heap_new); (try simp only [World.size_alloc, World.size_setCell, World.size_drew, World.heap_drewN]); done) | ((with_reducible apply heap_new); (try simp only [World.size_alloc, World.size_setCell, World.size_drew, World.heap_drewN]); omega) | (with_reducible refine heap_old (by (try simp only [World.size_alloc, World.size_setCell, World.size_drew, World.heap_drewN]); omega) ?_) | (with_reducible refine heap_drew ?_) | (with_reducible refine heap_far (by omega) ?_) | (with_reducible apply heap_at))); all_goals rfl)
    rintro w1 ⟨b_w1, s0_w1⟩
    have a_w1 := b_w1
    have r0_w1 := own_row s0_w1
    have f0_w1 := own_free s0_w1
    have l0_w1 := own_lt s0_w1
    have z_w1 := b_w1.below.size
    have s1_w1 := any_own b_w1 s1_w
    have r1_w1 := own_row s1_w1
    by_cases g1 : n < 0
    · have gd1 : decide ((0 : Int) ≤ n) = false := decide_eq_false (by omega)
      have HOK : Hid (layB n LL ⟨W, rows, n0⟩ = false) := Lib.hid (by unfold layB; refine decide_eq_false (fun hl => ?_); have h1 := hl.1; have h2 := hl.2.1; have h3 := hl.2.2; simp only [HH.out, HNN.out] at h1 h2 h3; omega)
      have HMX : Hid (layM n LL ⟨W, rows, n0⟩ = ⟨W, rows, n0⟩) := Lib.hid (by unfold layM; rw [if_neg (by rw [HOK.out]; simp)])
      go_wp2_with fail
      apply wp_region_mem (23) [] (by kernel_rfl) (by kernel_rfl) (by simp)
      case hstab =>
        intro e he v x y hxy hv
        simp only [List.mem_cons, List.not_mem_nil, or_false] at he
      case hlex =>
        intro U
        have q0 := fun (v : Later (later U)) => own_row (any_own ⟨v, rfl⟩ (any_own ⟨U, rfl⟩ s0_w1))
        have q1 := fun (v : Later (later U)) => own_row (any_own ⟨v, rfl⟩ (any_own ⟨U, rfl⟩ s1_w1))
        simp only [absFrom, absOp, idx, List.map_cons, List.map_nil, List.contains_cons, List.contains_nil, Nat.reduceBEq, Bool.or_false, Bool.false_or, Bool.true_or, Bool.or_true, Bool.false_eq_true, Nat.reduceLeDiff, Nat.reduceAdd, if_false, if_true]
        repeat (go_big_quiet_step (first | fail))
        exact wpQuiet_nil rfl
      case hown =>
        intro e he o ho
        simp only [List.mem_cons, List.not_mem_nil, or_false] at he
      case htail =>
        intro g u hst hne
        have b_w2 : AnyLater w1 (later u) := ⟨u, rfl⟩
        generalize later u = w2 at *
        clear u
        clear hst hne
        simp only [fillAll, Act.put, List.setIfInBounds_toArray, List.set_cons_zero, List.set_cons_succ, List.drop_succ_cons, List.drop_zero]
        have z_w2 := b_w2.below.size
        have a_w2 := a_w1.trans b_w2
        have s0_w2 := any_own b_w2 s0_w1
        have s1_w2 := any_own b_w2 s1_w1
        have r0_w2 := own_row s0_w2
        have f0_w2 := own_free s0_w2
        have l0_w2 := own_lt s0_w2
        have r1_w2 := own_row s1_w2
        have f1_w2 := own_free s1_w2
        have l1_w2 := own_lt s1_w2
        (try clear r0_w1); (try clear f0_w1)
        (try clear r1_w1); (try clear f1_w1)
        have fX := Lib.hid (HF.out.later HB.out.f a_w2)
        have kX := Lib.hid (Keeps.of (S := T) a_w2)
        have xX : Hid (RX w2 p ⟨W, rows, n0⟩ T) := Lib.hid ⟨_, rs, HX.out.any a_w2⟩
        have gX := Lib.hid (Grown.refl w T)
        have aX := Lib.hid (HW.out.1.trans a_w2)
        clear s1_w2 r1_w2 f1_w2
        go_wp2_with fail
        obtain ⟨g1, c1, cells1, w7, m1, m2, m3, m4, m5, m6⟩ := run_copy (HRU.out _ aX.out.drew) (by rw [HNN.out]; omega)
        rw [HNN.out] at m1 m5
        have K1 := Lib.hid (And.intro m1 (And.intro (((AnyLater.refl w2).drew).trans m2) (And.intro m3 (And.intro m4 (And.intro m5 m6)))))
        clear m1 m2 m3 m4 m5 m6
        apply wp_region_acts 10 [(3, .slice (some ⟨w2.heap.size, 0, none⟩) 0 0), (5, .slice (some ⟨g1, 0, none⟩) 50 c1), (6, .bool false)] (fun w' => w'.heap[w.heap.size]? = some (.cells #[.int .i64 2, .int .i64 n, .int .i64 r.x, .int .i64 r.y, .int .i64 r.a, .int .i64 r.b, .int .u32 c, .slice Ad ln cap] 36))
          (stL [fun w' => w' = w2.drew, fun w' => w' = w2.drew.alloc (.cells #[] 33), fun w' => w' = w7, fun w' => Did Fr w a p ⟨W, rows, n0⟩ S T w']) (by kernel_rfl) (by kernel_rfl) (by kernel_rfl) (heap_drew s0_w2) rfl
        case hlex =>
          intro U hU
          have q0 := own_row hU
          simp only [actFrom, actOp, List.lookup, Nat.reduceBEq, Nat.reduceLeDiff, Nat.reduceAdd, if_false, if_true]
          repeat (go_big_quiet_step (fail))
          exact wpQuiet_nil rfl
        case hact =>
          intro j hj o ho
          have hj3 : j = 0 ∨ j = 1 ∨ j = 2 := by simp at hj; omega
          rcases hj3 with rfl | rfl | rfl
          · cases ho
            refine ⟨rfl, fun w' hC hS => ?_⟩
            obtain rfl : w' = w2.drew := hS
            exact act_value (w' := w2.drew.alloc (.cells #[] 33)) (by simp [go_sem, execOp]) ⟨any_own ((AnyLater.refl _).alloc _) hC, rfl⟩
          · cases ho
            refine ⟨rfl, fun w' hC hS => ?_⟩
            obtain rfl : w' = w2.drew.alloc (.cells #[] 33) := hS
            exact act_append _ _ _ _ rfl _ _ rfl rfl K1.out.1 ⟨any_own K1.out.2.1 s0_w2, rfl⟩
          · cases ho
            refine ⟨rfl, fun w' hC hS => ?_⟩
            obtain rfl : w' = w7 := hS
            refine act_call (f := 40) (args := #[ptr a, .int .i64 n, .slice (some ⟨g1, 0, none⟩) 50 c1]) (by simp [go_sem, execOp, ptr]) ?_
            obtain ⟨_, b7, m3, m4, m5, m6⟩ := K1.out
            refine (HF.out.lay n (.slice (some ⟨g1, 0, none⟩) 50 c1) LL false HOK.out (HF.out.later fX.out b7) HB.out.small ⟨hni1, hni2⟩ ?_ ?_ (by rw [HNN.out]; omega)).mono ?_
            · exact ⟨some ⟨g1, 0, none⟩, c1, by rw [HNN.out], by rw [HNN.out]; exact m5, fun _ => ⟨g1, 0, rfl, own_lt m4, fun x hx => by rw [own_row m4, Nat.zero_add]; exact m6 x hx⟩⟩
            · intro b off n2 c2 e hs
              have hb : b = g1 := by cases e; rfl
              rw [hb] at hs
              have h1 := HF.out.below fX.out _ hs
              have h2 : w2.heap.size ≤ g1 := m3
              omega
            · rintro e w8 ⟨rfl, k8, S8, f8, g8⟩
              refine ⟨rfl, (k8.block _ (own_lt hC) nS).trans hC, did_rev HF.out HB.out kX.out (by rw [HMX.out]; exact xX.out) gX.out b7 k8 f8 g8 (layM_ok HB.out.ok) ?_ ?_ ?_ ?_⟩ <;> rw [HMX.out]
              all_goals first | rfl | exact HW3.out.symm | (show (rows.set _ _).length = _; rw [List.length_set]) | (show n0 ≤ n0 + _; omega) | (show n0 + _ ≤ n0 + _; omega) | (show n0 ≤ n0; omega) | (show n0 ≤ n0 + 60000000; omega)
        case htail =>
          intro w' hC hS
          have HD := Lib.hid hS
          clear hS
          simp only [List.drop_succ_cons, List.drop_zero, List.drop_nil]
          go_wp2_with fail
          go_ret
          exact ⟨rfl, HD.out⟩
    · by_cases g2 : (H : Int) ≤ n
      · have gd1 : decide ((0 : Int) ≤ n) = true := decide_eq_true (by omega)
        have gd2 : decide (n < (H : Int)) = false := decide_eq_false (by omega)
        have HOK : Hid (layB n LL ⟨W, rows, n0⟩ = false) := Lib.hid (by unfold layB; refine decide_eq_false (fun hl => ?_); have h1 := hl.1; have h2 := hl.2.1; have h3 := hl.2.2; simp only [HH.out, HNN.out] at h1 h2 h3; omega)
        have HMX : Hid (layM n LL ⟨W, rows, n0⟩ = ⟨W, rows, n0⟩) := Lib.hid (by unfold layM; rw [if_neg (by rw [HOK.out]; simp)])
        go_wp2_with fail
        apply wp_region_mem (23) [] (by kernel_rfl) (by kernel_rfl) (by simp)
        case hstab =>
          intro e he v x y hxy hv
          simp only [List.mem_cons, List.not_mem_nil, or_false] at he
        case hlex =>
          intro U
          have q0 := fun (v : Later (later U)) => own_row (any_own ⟨v, rfl⟩ (any_own ⟨U, rfl⟩ s0_w1))
          have q1 := fun (v : Later (later U)) => own_row (any_own ⟨v, rfl⟩ (any_own ⟨U, rfl⟩ s1_w1))
          simp only [absFrom, absOp, idx, List.map_cons, List.map_nil, List.contains_cons, List.contains_nil, Nat.reduceBEq, Bool.or_false, Bool.false_or, Bool.true_or, Bool.or_true, Bool.false_eq_true, Nat.reduceLeDiff, Nat.reduceAdd, if_false, if_true]
          repeat (go_big_quiet_step (first | fail))
          exact wpQuiet_nil rfl
        case hown =>
          intro e he o ho
          simp only [List.mem_cons, List.not_mem_nil, or_false] at he
        case htail =>
          intro g u hst hne
          have b_w2 : AnyLater w1 (later u) := ⟨u, rfl⟩
          generalize later u = w2 at *
          clear u
          clear hst hne
          simp only [fillAll, Act.put, List.setIfInBounds_toArray, List.set_cons_zero, List.set_cons_succ, List.drop_succ_cons, List.drop_zero]
          have z_w2 := b_w2.below.size
          have a_w2 := a_w1.trans b_w2
          have s0_w2 := any_own b_w2 s0_w1
          have s1_w2 := any_own b_w2 s1_w1
          have r0_w2 := own_row s0_w2
          have f0_w2 := own_free s0_w2
          have l0_w2 := own_lt s0_w2
          have r1_w2 := own_row s1_w2
          have f1_w2 := own_free s1_w2
          have l1_w2 := own_lt s1_w2
          (try clear r0_w1); (try clear f0_w1)
          (try clear r1_w1); (try clear f1_w1)
          have fX := Lib.hid (HF.out.later HB.out.f a_w2)
          have kX := Lib.hid (Keeps.of (S := T) a_w2)
          have xX : Hid (RX w2 p ⟨W, rows, n0⟩ T) := Lib.hid ⟨_, rs, HX.out.any a_w2⟩
          have gX := Lib.hid (Grown.refl w T)
          have aX := Lib.hid (HW.out.1.trans a_w2)
          clear s1_w2 r1_w2 f1_w2
          go_wp2_with fail
          obtain ⟨g1, c1, cells1, w7, m1, m2, m3, m4, m5, m6⟩ := run_copy (HRU.out _ aX.out.drew) (by rw [HNN.out]; omega)
          rw [HNN.out] at m1 m5
          have K1 := Lib.hid (And.intro m1 (And.intro (((AnyLater.refl w2).drew).trans m2) (And.intro m3 (And.intro m4 (And.intro m5 m6)))))
          clear m1 m2 m3 m4 m5 m6
          apply wp_region_acts 10 [(3, .slice (some ⟨w2.heap.size, 0, none⟩) 0 0), (5, .slice (some ⟨g1, 0, none⟩) 50 c1), (6, .bool false)] (fun w' => w'.heap[w.heap.size]? = some (.cells #[.int .i64 2, .int .i64 n, .int .i64 r.x, .int .i64 r.y, .int .i64 r.a, .int .i64 r.b, .int .u32 c, .slice Ad ln cap] 36))
            (stL [fun w' => w' = w2.drew, fun w' => w' = w2.drew.alloc (.cells #[] 33), fun w' => w' = w7, fun w' => Did Fr w a p ⟨W, rows, n0⟩ S T w']) (by kernel_rfl) (by kernel_rfl) (by kernel_rfl) (heap_drew s0_w2) rfl
          case hlex =>
            intro U hU
            have q0 := own_row hU
            simp only [actFrom, actOp, List.lookup, Nat.reduceBEq, Nat.reduceLeDiff, Nat.reduceAdd, if_false, if_true]
            repeat (go_big_quiet_step (fail))
            exact wpQuiet_nil rfl
          case hact =>
            intro j hj o ho
            have hj3 : j = 0 ∨ j = 1 ∨ j = 2 := by simp at hj; omega
            rcases hj3 with rfl | rfl | rfl
            · cases ho
              refine ⟨rfl, fun w' hC hS => ?_⟩
              obtain rfl : w' = w2.drew := hS
              exact act_value (w' := w2.drew.alloc (.cells #[] 33)) (by simp [go_sem, execOp]) ⟨any_own ((AnyLater.refl _).alloc _) hC, rfl⟩
            · cases ho
              refine ⟨rfl, fun w' hC hS => ?_⟩
              obtain rfl : w' = w2.drew.alloc (.cells #[] 33) := hS
              exact act_append _ _ _ _ rfl _ _ rfl rfl K1.out.1 ⟨any_own K1.out.2.1 s0_w2, rfl⟩
            · cases ho
              refine ⟨rfl, fun w' hC hS => ?_⟩
              obtain rfl : w' = w7 := hS
              refine act_call (f := 40) (args := #[ptr a, .int .i64 n, .slice (some ⟨g1, 0, none⟩) 50 c1]) (by simp [go_sem, execOp, ptr]) ?_
              obtain ⟨_, b7, m3, m4, m5, m6⟩ := K1.out
              refine (HF.out.lay n (.slice (some ⟨g1, 0, none⟩) 50 c1) LL false HOK.out (HF.out.later fX.out b7) HB.out.small ⟨hni1, hni2⟩ ?_ ?_ (by rw [HNN.out]; omega)).mono ?_
              · exact ⟨some ⟨g1, 0, none⟩, c1, by rw [HNN.out], by rw [HNN.out]; exact m5, fun _ => ⟨g1, 0, rfl, own_lt m4, fun x hx => by rw [own_row m4, Nat.zero_add]; exact m6 x hx⟩⟩
              · intro b off n2 c2 e hs
                have hb : b = g1 := by cases e; rfl
                rw [hb] at hs
                have h1 := HF.out.below fX.out _ hs
                have h2 : w2.heap.size ≤ g1 := m3
                omega
              · rintro e w8 ⟨rfl, k8, S8, f8, g8⟩
                refine ⟨rfl, (k8.block _ (own_lt hC) nS).trans hC, did_rev HF.out HB.out kX.out (by rw [HMX.out]; exact xX.out) gX.out b7 k8 f8 g8 (layM_ok HB.out.ok) ?_ ?_ ?_ ?_⟩ <;> rw [HMX.out]
                all_goals first | rfl | exact HW3.out.symm | (show (rows.set _ _).length = _; rw [List.length_set]) | (show n0 ≤ n0 + _; omega) | (show n0 + _ ≤ n0 + _; omega) | (show n0 ≤ n0; omega) | (show n0 ≤ n0 + 60000000; omega)
          case htail =>
            intro w' hC hS
            have HD := Lib.hid hS
            clear hS
            simp only [List.drop_succ_cons, List.drop_zero, List.drop_nil]
            go_wp2_with fail
            go_ret
            exact ⟨rfl, HD.out⟩
      · by_cases g3 : (50 : Int) = (W : Int)
        · have gg := g3
          obtain ⟨i, rfl⟩ : ∃ i : Nat, (i : Int) = n := ⟨n.toNat, by omega⟩
          have gd2 : (i : Int) < (H : Int) := by omega
          have gd4 : i < H := by omega
          have hW3 : W = 50 := by omega
          have gd3 : ((50 : Int) == (W : Int)) = true := by simp; omega
          clear gg g3
          have HOK : Hid (layB (i : Int) LL ⟨W, rows, n0⟩ = true) := Lib.hid (by unfold layB; refine decide_eq_true ⟨by omega, by simp only [HH.out]; omega, by rw [HNN.out]; exact hW3.symm⟩)
          have HMX0 : Hid (layM (i : Int) LL ⟨W, rows, n0⟩ = ⟨W, rows.set i LL, n0 + W⟩) := Lib.hid (by unfold layM; rw [if_pos HOK.out]; simp)
          have HW3 := Lib.hid hW3
          clear hW3 g1 g2
          go_wp2_with fail
          apply wp_region_mem (23) [] (by kernel_rfl) (by kernel_rfl) (by simp)
          case hstab =>
            intro e he v x y hxy hv
            simp only [List.mem_cons, List.not_mem_nil, or_false] at he
          case hlex =>
            intro U
            have q0 := fun (v : Later (later U)) => own_row (any_own ⟨v, rfl⟩ (any_own ⟨U, rfl⟩ s0_w1))
            have q1 := fun (v : Later (later U)) => own_row (any_own ⟨v, rfl⟩ (any_own ⟨U, rfl⟩ s1_w1))
            simp only [absFrom, absOp, idx, List.map_cons, List.map_nil, List.contains_cons, List.contains_nil, Nat.reduceBEq, Bool.or_false, Bool.false_or, Bool.true_or, Bool.or_true, Bool.false_eq_true, Nat.reduceLeDiff, Nat.reduceAdd, if_false, if_true]
            repeat (go_big_quiet_step (first | fail))
            exact wpQuiet_nil rfl
          case hown =>
            intro e he o ho
            simp only [List.mem_cons, List.not_mem_nil, or_false] at he
          case htail =>
            intro g u hst hne
            have b_w2 : AnyLater w1 (later u) := ⟨u, rfl⟩
            generalize later u = w2 at *
            clear u
            clear hst hne
            simp only [fillAll, Act.put, List.setIfInBounds_toArray, List.set_cons_zero, List.set_cons_succ, List.drop_succ_cons, List.drop_zero]
            have z_w2 := b_w2.below.size
            have a_w2 := a_w1.trans b_w2
            have s0_w2 := any_own b_w2 s0_w1
            have s1_w2 := any_own b_w2 s1_w1
            have r0_w2 := own_row s0_w2
            have f0_w2 := own_free s0_w2
            have l0_w2 := own_lt s0_w2
            have r1_w2 := own_row s1_w2
            have f1_w2 := own_free s1_w2
            have l1_w2 := own_lt s1_w2
            (try clear r0_w1); (try clear f0_w1)
            (try clear r1_w1); (try clear f1_w1)
            have hW3 := HW3.out
            have hx2 := HX.out.any a_w2
            obtain ⟨q, cap2, cur, hv2, sq, hq, hcur⟩ := hx2.outer (by show 0 < rows.length; rw [HH.out]; omega)
            have hv3 : Value.slice Ax H capx = .slice (some ⟨q, 0, none⟩) H cap2 := hv2.trans (by show Value.slice _ rows.length _ = _; rw [HH.out])
            clear hv2
            obtain ⟨rfl, rfl⟩ : Ax = some ⟨q, 0, none⟩ ∧ capx = cap2 := by cases hv3; exact ⟨rfl, rfl⟩
            clear hv3
            have li : i < rs.length := by rw [HX.out.rows.len]; show i < rows.length; rw [HH.out]; omega
            have hci := hcur i li
            unfold rowV at hci
            obtain ⟨g1, c1, cells1, w3, m1, m2, m3, m4, m5, m6⟩ := run_copy (HRU.out _ (HW.out.1.trans a_w2).drew) (by rw [HNN.out]; omega)
            rw [HNN.out] at m1 m5
            have b_w3 : AnyLater w2 w3 := ((AnyLater.refl w2).drew).trans m2
            have hq3 := any_own b_w3 hq
            have ng : ¬ T g1 := fun ht => by have h1 := hx2.below _ ht; have h2 : w2.heap.size ≤ g1 := m3; omega
            have hset := (hx2.any b_w3).setRow (i := i) HH.out hq3 m4 ng (by rw [hW3]; exact m5) (by rw [HNN.out]; exact hW3.symm) m6
            have r_q3 := own_row hq3
            have f_q3 := own_free hq3
            have K1 := Lib.hid (And.intro m1 b_w3)
            have np : p ≠ q := fun e => by have h1 := hx2.top; rw [e, hq] at h1; cases h1
            have nb : w.heap.size ≠ q := fun e => nT (by rw [e]; exact sq)
            have s0_w3 := any_own b_w3 s0_w2
            have s1_w3 := any_own b_w3 s1_w2
            have s0_w4 := heap_far (v := .slice (some ⟨g1, 0, none⟩) W c1) (i := i) nb s0_w3
            have s1_w4 := heap_far (v := .slice (some ⟨g1, 0, none⟩) W c1) (i := i) np s1_w3
            have k_w4 : Keeps T w (w3.setCell ⟨q, i, none⟩ (.slice (some ⟨g1, 0, none⟩) W c1)) := (Keeps.of (a_w2.trans b_w3)).setCell sq _
            rw [hW3] at s0_w4 s1_w4 k_w4 hset
            have HS4 := Lib.hid (And.intro s0_w4 (And.intro s1_w4 (And.intro k_w4 hset)))
            have m3' : Hid (w2.heap.size ≤ g1) := Lib.hid m3
            clear m1 m2 m3 m4 m5 m6 hset s0_w4 s1_w4 k_w4 hq hq3 hx2 hcur sq hW3
            go_wp2_with fail
            apply wp_region_acts 10 [(6, .slice (some ⟨w2.heap.size, 0, none⟩) 0 0), (8, .slice (some ⟨g1, 0, none⟩) 50 c1)] (fun w' => w'.heap[w.heap.size]? = some (.cells #[.int .i64 2, .int .i64 i, .int .i64 r.x, .int .i64 r.y, .int .i64 r.a, .int .i64 r.b, .int .u32 c, .slice Ad ln cap] 36) ∧ w'.heap[p]? = some (.cells #[.int .i64 W, .slice (some ⟨q, 0, none⟩) H capx, .int .i64 n0] 40))
              (stL [fun w' => w' = w2.drew, fun w' => w' = w2.drew.alloc (.cells #[] 33), fun w' => w' = w3]) (by kernel_rfl) (by kernel_rfl) (by kernel_rfl) ⟨heap_drew s0_w2, heap_drew s1_w2⟩ rfl
            case hlex =>
              intro U hU
              have q0 := own_row hU.1
              have q1 := own_row hU.2
              simp only [actFrom, actOp, List.lookup, Nat.reduceBEq, Nat.reduceLeDiff, Nat.reduceAdd, if_false, if_true]
              repeat (go_big_quiet_step (fail))
              exact wpQuiet_nil rfl
            case hact =>
              intro j hj o ho
              have hj3 : j = 0 ∨ j = 1 := by simp at hj; omega
              rcases hj3 with rfl | rfl
              · cases ho
                refine ⟨rfl, fun w' hC hS => ?_⟩
                obtain rfl : w' = w2.drew := hS
                exact act_value (w' := w2.drew.alloc (.cells #[] 33)) (by simp [go_sem, execOp]) ⟨⟨any_own ((AnyLater.refl _).alloc _) hC.1, any_own ((AnyLater.refl _).alloc _) hC.2⟩, rfl⟩
              · cases ho
                refine ⟨rfl, fun w' hC hS => ?_⟩
                obtain rfl : w' = w2.drew.alloc (.cells #[] 33) := hS
                exact act_append _ _ _ _ rfl _ _ rfl rfl K1.out.1 ⟨⟨s0_w3, s1_w3⟩, rfl⟩
            case htail =>
              intro w' hC hS
              obtain rfl : w' = w3 := hS
              clear hC
              simp only [List.drop_succ_cons, List.drop_zero]
              go_wp2_with fail
              obtain ⟨s0_w4, s1_w4, k_w4, hset⟩ := HS4.out
              clear HS4 s0_w3 s1_w3 r_q3 f_q3
              generalize World.setCell w' ⟨q, i, none⟩ (.slice (some ⟨g1, 0, none⟩) 50 c1) = w4 at *
              have a_w4 := k_w4.any HW.out.1 HW.out.2.2
              have HS4 := Lib.hid (And.intro k_w4 hset)
              clear k_w4 hset
              apply wp_region_mem (12) [] (by kernel_rfl) (by kernel_rfl) (by simp)
              case hstab =>
                intro e he v x y hxy hv
                simp only [List.mem_cons, List.not_mem_nil, or_false] at he
              case hlex =>
                intro U
                have q0 := fun (v : Later (later U)) => own_row (any_own ⟨v, rfl⟩ (any_own ⟨U, rfl⟩ s0_w4))
                have q1 := fun (v : Later (later U)) => own_row (any_own ⟨v, rfl⟩ (any_own ⟨U, rfl⟩ s1_w4))
                simp only [absFrom, absOp, idx, List.map_cons, List.map_nil, List.contains_cons, List.contains_nil, Nat.reduceBEq, Bool.or_false, Bool.false_or, Bool.true_or, Bool.or_true, Bool.false_eq_true, Nat.reduceLeDiff, Nat.reduceAdd, if_false, if_true]
                repeat (go_big_quiet_step (first | fail))
                exact wpQuiet_nil rfl
              case hown =>
                intro e he o ho
                simp only [List.mem_cons, List.not_mem_nil, or_false] at he
              case htail =>
                intro g u hst hne
                have b_w5 : AnyLater w4 (later u) := ⟨u, rfl⟩
                generalize later u = w5 at *
                clear u
                clear hst hne
                simp only [fillAll, Act.put, List.setIfInBounds_toArray, List.set_cons_zero, List.set_cons_succ, List.drop_succ_cons, List.drop_zero]
                have z_w5 := b_w5.below.size
                have a_w5 := a_w4.trans b_w5
                have s0_w5 := any_own b_w5 s0_w4
                have s1_w5 := any_own b_w5 s1_w4
                have r0_w5 := own_row s0_w5
                have f0_w5 := own_free s0_w5
                have l0_w5 := own_lt s0_w5
                have r1_w5 := own_row s1_w5
                have f1_w5 := own_free s1_w5
                have l1_w5 := own_lt s1_w5
                (try clear r0_w4); (try clear f0_w4)
                (try clear r1_w4); (try clear f1_w4)
                go_wp2_with fail
                have h6 := (HS4.out.2.any b_w5).count (n0 + 50)
                have k_w6 : Keeps T w (w5.setCell ⟨p, 2, none⟩ (.int .i64 (n0 + 50))) := (HS4.out.1.trans (Keeps.of b_w5)).setCell HX.out.here _
                have s0_w6 := heap_far (v := .int .i64 (n0 + 50)) (i := 2) (show w.heap.size ≠ p from fun e => nT (by rw [e]; exact HX.out.here)) s0_w5
                clear s0_w5 s1_w5 r0_w5 r1_w5 f0_w5 f1_w5
                generalize World.setCell w5 ⟨p, 2, none⟩ (.int .i64 (n0 + 50)) = w6 at *
                have fX := Lib.hid (HF.out.apart HB.out.f k_w6 HB.out.ap)
                have kX := Lib.hid k_w6
                have xX : Hid (RX w6 p ⟨50, rows.set i LL, n0 + 50⟩ (fun k => T k ∨ k = g1)) := Lib.hid ⟨_, _, h6⟩
                have gX : Hid (Grown w T (fun k => T k ∨ k = g1)) := Lib.hid (fun k hk => by
                  rcases hk with hk | hk
                  · exact .inl hk
                  · exact .inr (by rw [hk]; exact Nat.le_trans a_w2.below.size m3'.out))
                have aX := Lib.hid (k_w6.any HW.out.1 HW.out.2.2)
                have HMX : Hid (layM (i : Int) LL ⟨W, rows, n0⟩ = ⟨50, rows.set i LL, n0 + 50⟩) := Lib.hid (by rw [HMX0.out, HW3.out] <;> rfl)
                clear h6 k_w6 m3' K1 HS4 a_w4 a_w5
                obtain ⟨g1, c1, cells1, w7, m1, m2, m3, m4, m5, m6⟩ := run_copy (HRU.out _ aX.out.drew) (by rw [HNN.out]; omega)
                rw [HNN.out] at m1 m5
                have K1 := Lib.hid (And.intro m1 (And.intro (((AnyLater.refl w6).drew).trans m2) (And.intro m3 (And.intro m4 (And.intro m5 m6)))))
                clear m1 m2 m3 m4 m5 m6
                apply wp_region_acts 10 [(3, .slice (some ⟨w6.heap.size, 0, none⟩) 0 0), (5, .slice (some ⟨g1, 0, none⟩) 50 c1), (6, .bool true)] (fun w' => w'.heap[w.heap.size]? = some (.cells #[.int .i64 2, .int .i64 i, .int .i64 r.x, .int .i64 r.y, .int .i64 r.a, .int .i64 r.b, .int .u32 c, .slice Ad ln cap] 36))
                  (stL [fun w' => w' = w6.drew, fun w' => w' = w6.drew.alloc (.cells #[] 33), fun w' => w' = w7, fun w' => Did Fr w a p ⟨W, rows, n0⟩ S T w']) (by kernel_rfl) (by kernel_rfl) (by kernel_rfl) (heap_drew s0_w6) rfl
                case hlex =>
                  intro U hU
                  have q0 := own_row hU
                  simp only [actFrom, actOp, List.lookup, Nat.reduceBEq, Nat.reduceLeDiff, Nat.reduceAdd, if_false, if_true]
                  repeat (go_big_quiet_step (fail))
                  exact wpQuiet_nil rfl
                case hact =>
                  intro j hj o ho
                  have hj3 : j = 0 ∨ j = 1 ∨ j = 2 := by simp at hj; omega
                  rcases hj3 with rfl | rfl | rfl
                  · cases ho
                    refine ⟨rfl, fun w' hC hS => ?_⟩
                    obtain rfl : w' = w6.drew := hS
                    exact act_value (w' := w6.drew.alloc (.cells #[] 33)) (by simp [go_sem, execOp]) ⟨any_own ((AnyLater.refl _).alloc _) hC, rfl⟩
                  · cases ho
                    refine ⟨rfl, fun w' hC hS => ?_⟩
                    obtain rfl : w' = w6.drew.alloc (.cells #[] 33) := hS
                    exact act_append _ _ _ _ rfl _ _ rfl rfl K1.out.1 ⟨any_own K1.out.2.1 s0_w6, rfl⟩
                  · cases ho
                    refine ⟨rfl, fun w' hC hS => ?_⟩
                    obtain rfl : w' = w7 := hS
                    refine act_call (f := 40) (args := #[ptr a, .int .i64 i, .slice (some ⟨g1, 0, none⟩) 50 c1]) (by simp [go_sem, execOp, ptr]) ?_
                    obtain ⟨_, b7, m3, m4, m5, m6⟩ := K1.out
                    refine (HF.out.lay i (.slice (some ⟨g1, 0, none⟩) 50 c1) LL true HOK.out (HF.out.later fX.out b7) HB.out.small ⟨hni1, hni2⟩ ?_ ?_ (by rw [HNN.out]; omega)).mono ?_
                    · exact ⟨some ⟨g1, 0, none⟩, c1, by rw [HNN.out], by rw [HNN.out]; exact m5, fun _ => ⟨g1, 0, rfl, own_lt m4, fun x hx => by rw [own_row m4, Nat.zero_add]; exact m6 x hx⟩⟩
                    · intro b off n2 c2 e hs
                      have hb : b = g1 := by cases e; rfl
                      rw [hb] at hs
                      have h1 := HF.out.below fX.out _ hs
                      have h2 : w6.heap.size ≤ g1 := m3
                      omega
                    · rintro e w8 ⟨rfl, k8, S8, f8, g8⟩
                      refine ⟨rfl, (k8.block _ (own_lt hC) nS).trans hC, did_rev HF.out HB.out kX.out (by rw [HMX.out]; exact xX.out) gX.out b7 k8 f8 g8 (layM_ok HB.out.ok) ?_ ?_ ?_ ?_⟩ <;> rw [HMX.out]
                      all_goals first | rfl | exact HW3.out.symm | (show (rows.set _ _).length = _; rw [List.length_set]) | (show n0 ≤ n0 + _; omega) | (show n0 + _ ≤ n0 + _; omega) | (show n0 ≤ n0; omega) | (show n0 ≤ n0 + 60000000; omega)
                case htail =>
                  intro w' hC hS
                  have HD := Lib.hid hS
                  clear hS
                  simp only [List.drop_succ_cons, List.drop_zero, List.drop_nil]
                  go_wp2_with fail
                  go_ret
                  exact ⟨rfl, HD.out⟩
        · have gg : ((50 : Int) == (W : Int)) = false := by simpa using g3
          have gd1 : decide ((0 : Int) ≤ n) = true := decide_eq_true (by omega)
          have gd2 : decide (n < (H : Int)) = true := decide_eq_true (by omega)
          have HOK : Hid (layB n LL ⟨W, rows, n0⟩ = false) := Lib.hid (by unfold layB; refine decide_eq_false (fun hl => ?_); have h1 := hl.1; have h2 := hl.2.1; have h3 := hl.2.2; simp only [HH.out, HNN.out] at h1 h2 h3; omega)
          have HMX : Hid (layM n LL ⟨W, rows, n0⟩ = ⟨W, rows, n0⟩) := Lib.hid (by unfold layM; rw [if_neg (by rw [HOK.out]; simp)])
          go_wp2_with fail
          apply wp_region_mem (23) [] (by kernel_rfl) (by kernel_rfl) (by simp)
          case hstab =>
            intro e he v x y hxy hv
            simp only [List.mem_cons, List.not_mem_nil, or_false] at he
          case hlex =>
            intro U
            have q0 := fun (v : Later (later U)) => own_row (any_own ⟨v, rfl⟩ (any_own ⟨U, rfl⟩ s0_w1))
            have q1 := fun (v : Later (later U)) => own_row (any_own ⟨v, rfl⟩ (any_own ⟨U, rfl⟩ s1_w1))
            simp only [absFrom, absOp, idx, List.map_cons, List.map_nil, List.contains_cons, List.contains_nil, Nat.reduceBEq, Bool.or_false, Bool.false_or, Bool.true_or, Bool.or_true, Bool.false_eq_true, Nat.reduceLeDiff, Nat.reduceAdd, if_false, if_true]
            repeat (go_big_quiet_step (first | fail))
            exact wpQuiet_nil rfl
          case hown =>
            intro e he o ho
            simp only [List.mem_cons, List.not_mem_nil, or_false] at he
          case htail =>
            intro g u hst hne
            have b_w2 : AnyLater w1 (later u) := ⟨u, rfl⟩
            generalize later u = w2 at *
            clear u
            clear hst hne
            simp only [fillAll, Act.put, List.setIfInBounds_toArray, List.set_cons_zero, List.set_cons_succ, List.drop_succ_cons, List.drop_zero]
            have z_w2 := b_w2.below.size
            have a_w2 := a_w1.trans b_w2
            have s0_w2 := any_own b_w2 s0_w1
            have s1_w2 := any_own b_w2 s1_w1
            have r0_w2 := own_row s0_w2
            have f0_w2 := own_free s0_w2
            have l0_w2 := own_lt s0_w2
            have r1_w2 := own_row s1_w2
            have f1_w2 := own_free s1_w2
            have l1_w2 := own_lt s1_w2
            (try clear r0_w1); (try clear f0_w1)
            (try clear r1_w1); (try clear f1_w1)
            have fX := Lib.hid (HF.out.later HB.out.f a_w2)
            have kX := Lib.hid (Keeps.of (S := T) a_w2)
            have xX : Hid (RX w2 p ⟨W, rows, n0⟩ T) := Lib.hid ⟨_, rs, HX.out.any a_w2⟩
            have gX := Lib.hid (Grown.refl w T)
            have aX := Lib.hid (HW.out.1.trans a_w2)
            clear s1_w2 r1_w2 f1_w2
            go_wp2_with fail
            obtain ⟨g1, c1, cells1, w7, m1, m2, m3, m4, m5, m6⟩ := run_copy (HRU.out _ aX.out.drew) (by rw [HNN.out]; omega)
            rw [HNN.out] at m1 m5
            have K1 := Lib.hid (And.intro m1 (And.intro (((AnyLater.refl w2).drew).trans m2) (And.intro m3 (And.intro m4 (And.intro m5 m6)))))
            clear m1 m2 m3 m4 m5 m6
            apply wp_region_acts 10 [(3, .slice (some ⟨w2.heap.size, 0, none⟩) 0 0), (5, .slice (some ⟨g1, 0, none⟩) 50 c1), (6, .bool false)] (fun w' => w'.heap[w.heap.size]? = some (.cells #[.int .i64 2, .int .i64 n, .int .i64 r.x, .int .i64 r.y, .int .i64 r.a, .int .i64 r.b, .int .u32 c, .slice Ad ln cap] 36))
              (stL [fun w' => w' = w2.drew, fun w' => w' = w2.drew.alloc (.cells #[] 33), fun w' => w' = w7, fun w' => Did Fr w a p ⟨W, rows, n0⟩ S T w']) (by kernel_rfl) (by kernel_rfl) (by kernel_rfl) (heap_drew s0_w2) rfl
            case hlex =>
              intro U hU
              have q0 := own_row hU
              simp only [actFrom, actOp, List.lookup, Nat.reduceBEq, Nat.reduceLeDiff, Nat.reduceAdd, if_false, if_true]
              repeat (go_big_quiet_step (fail))
              exact wpQuiet_nil rfl
            case hact =>
              intro j hj o ho
              have hj3 : j = 0 ∨ j = 1 ∨ j = 2 := by simp at hj; omega
              rcases hj3 with rfl | rfl | rfl
              · cases ho
                refine ⟨rfl, fun w' hC hS => ?_⟩
                obtain rfl : w' = w2.drew := hS
                exact act_value (w' := w2.drew.alloc (.cells #[] 33)) (by simp [go_sem, execOp]) ⟨any_own ((AnyLater.refl _).alloc _) hC, rfl⟩
              · cases ho
                refine ⟨rfl, fun w' hC hS => ?_⟩
                obtain rfl : w' = w2.drew.alloc (.cells #[] 33) := hS
                exact act_append _ _ _ _ rfl _ _ rfl rfl K1.out.1 ⟨any_own K1.out.2.1 s0_w2, rfl⟩
              · cases ho
                refine ⟨rfl, fun w' hC hS => ?_⟩
                obtain rfl : w' = w7 := hS
                refine act_call (f := 40) (args := #[ptr a, .int .i64 n, .slice (some ⟨g1, 0, none⟩) 50 c1]) (by simp [go_sem, execOp, ptr]) ?_
                obtain ⟨_, b7, m3, m4, m5, m6⟩ := K1.out
                refine (HF.out.lay n (.slice (some ⟨g1, 0, none⟩) 50 c1) LL false HOK.out (HF.out.later fX.out b7) HB.out.small ⟨hni1, hni2⟩ ?_ ?_ (by rw [HNN.out]; omega)).mono ?_
                · exact ⟨some ⟨g1, 0, none⟩, c1, by rw [HNN.out], by rw [HNN.out]; exact m5, fun _ => ⟨g1, 0, rfl, own_lt m4, fun x hx => by rw [own_row m4, Nat.zero_add]; exact m6 x hx⟩⟩
                · intro b off n2 c2 e hs
                  have hb : b = g1 := by cases e; rfl
                  rw [hb] at hs
                  have h1 := HF.out.below fX.out _ hs
                  have h2 : w2.heap.size ≤ g1 := m3
                  omega
                · rintro e w8 ⟨rfl, k8, S8, f8, g8⟩
                  refine ⟨rfl, (k8.block _ (own_lt hC) nS).trans hC, did_rev HF.out HB.out kX.out (by rw [HMX.out]; exact xX.out) gX.out b7 k8 f8 g8 (layM_ok HB.out.ok) ?_ ?_ ?_ ?_⟩ <;> rw [HMX.out]
                  all_goals first | rfl | exact HW3.out.symm | (show (rows.set _ _).length = _; rw [List.length_set]) | (show n0 ≤ n0 + _; omega) | (show n0 + _ ≤ n0 + _; omega) | (show n0 ≤ n0; omega) | (show n0 ≤ n0 + 60000000; omega)
            case htail =>
              intro w' hC hS
              have HD := Lib.hid hS
              clear hS
              simp only [List.drop_succ_cons, List.drop_zero, List.drop_nil]
              go_wp2_with fail
              go_ret
              exact ⟨rfl, HD.out⟩
  · have k50 : decide ((50 : Int) < (ln : Int)) = false := decide_eq_false (by omega)
    have k51 : ln ≤ 50 := by omega
    clear h50
    obtain ⟨LL, hLL⟩ : ∃ LL, l = LL := ⟨_, rfl⟩
    have HNN : Hid (LL.length = ln) := Lib.hid (by rw [← hLL, HLn.out])
    have HRU : Hid (∀ w', AnyLater W0 w' → RU w' (.slice Ad ln cap) LL) := Lib.hid (fun w' hw => by rw [← hLL, ← HLn.out]; exact HA.out.l.later hw)
    clear hLL
    go_enter Try.func13, Try.ntmps13
    go_wp2_with fail
    first | refine settle_wp (fun wS => AnyLater w wS ∧ wS.heap[w.heap.size]? = some (.cells #[.int .i64 2, .int .i64 n, .int .i64 r.x, .int .i64 r.y, .int .i64 r.a, .int .i64 r.b, .int .u32 c, .slice Ad ln cap] 36)) ?_ ?_ | refine settle_calls (fun wS => AnyLater w wS ∧ wS.heap[w.heap.size]? = some (.cells #[.int .i64 2, .int .i64 n, .int .i64 r.x, .int .i64 r.y, .int .i64 r.a, .int .i64 r.b, .int .u32 c, .slice Ad ln cap] 36)) ?_ ?_
    · refine ⟨?_, ?_⟩
      · repeat' (first | with_reducible assumption | with_reducible exact AnyLater.refl _ | with_reducible apply AnyLater.setCell | with_reducible apply AnyLater.later | with_reducible apply AnyLater.drewN | with_reducible apply AnyLater.drew | with_reducible apply AnyLater.alloc | ((try simp only [World.size_alloc, World.size_setCell, World.size_drew]); (try dsimp only); omega))
      · ((repeat (first | with_reducible assumption | ((with_reducible apply heap_new); (try simp only [World.size_alloc, World.size_setCell, World.size_drew, World.heap_drewN]); done) | ((with_reducible apply heap_new); (try simp only [World.size_alloc, World.size_setCell, World.size_drew, World.heap_drewN]); omega) | (with_reducible refine heap_old (by (try simp only [World.size_alloc, World.size_setCell, World.size_drew, World.heap_drewN]); omega) ?_) | (with_reducible refine heap_drew ?_) | (with_reducible refine heap_far (by omega) ?_) | (with_reducible apply heap_at))); all_goals rfl)
    rintro w1 ⟨b_w1, s0_w1⟩
    have a_w1 := b_w1
    have r0_w1 := own_row s0_w1
    have f0_w1 := own_free s0_w1
    have l0_w1 := own_lt s0_w1
    have z_w1 := b_w1.below.size
    have s1_w1 := any_own b_w1 s1_w
    have r1_w1 := own_row s1_w1
    by_cases g1 : n < 0
    · have gd1 : decide ((0 : Int) ≤ n) = false := decide_eq_false (by omega)
      have HOK : Hid (layB n LL ⟨W, rows, n0⟩ = false) := Lib.hid (by unfold layB; refine decide_eq_false (fun hl => ?_); have h1 := hl.1; have h2 := hl.2.1; have h3 := hl.2.2; simp only [HH.out, HNN.out] at h1 h2 h3; omega)
      have HMX : Hid (layM n LL ⟨W, rows, n0⟩ = ⟨W, rows, n0⟩) := Lib.hid (by unfold layM; rw [if_neg (by rw [HOK.out]; simp)])
      go_wp2_with fail
      apply wp_region_mem (23) [] (by kernel_rfl) (by kernel_rfl) (by simp)
      case hstab =>
        intro e he v x y hxy hv
        simp only [List.mem_cons, List.not_mem_nil, or_false] at he
      case hlex =>
        intro U
        have q0 := fun (v : Later (later U)) => own_row (any_own ⟨v, rfl⟩ (any_own ⟨U, rfl⟩ s0_w1))
        have q1 := fun (v : Later (later U)) => own_row (any_own ⟨v, rfl⟩ (any_own ⟨U, rfl⟩ s1_w1))
        simp only [absFrom, absOp, idx, List.map_cons, List.map_nil, List.contains_cons, List.contains_nil, Nat.reduceBEq, Bool.or_false, Bool.false_or, Bool.true_or, Bool.or_true, Bool.false_eq_true, Nat.reduceLeDiff, Nat.reduceAdd, if_false, if_true]
        repeat (go_big_quiet_step (first | fail))
        exact wpQuiet_nil rfl
      case hown =>
        intro e he o ho
        simp only [List.mem_cons, List.not_mem_nil, or_false] at he
      case htail =>
        intro g u hst hne
        have b_w2 : AnyLater w1 (later u) := ⟨u, rfl⟩
        generalize later u = w2 at *
        clear u
        clear hst hne
        simp only [fillAll, Act.put, List.setIfInBounds_toArray, List.set_cons_zero, List.set_cons_succ, List.drop_succ_cons, List.drop_zero]
        have z_w2 := b_w2.below.size
        have a_w2 := a_w1.trans b_w2
        have s0_w2 := any_own b_w2 s0_w1
        have s1_w2 := any_own b_w2 s1_w1
        have r0_w2 := own_row s0_w2
        have f0_w2 := own_free s0_w2
        have l0_w2 := own_lt s0_w2
        have r1_w2 := own_row s1_w2
        have f1_w2 := own_free s1_w2
        have l1_w2 := own_lt s1_w2
        (try clear r0_w1); (try clear f0_w1)
        (try clear r1_w1); (try clear f1_w1)
        have fX := Lib.hid (HF.out.later HB.out.f a_w2)
        have kX := Lib.hid (Keeps.of (S := T) a_w2)
        have xX : Hid (RX w2 p ⟨W, rows, n0⟩ T) := Lib.hid ⟨_, rs, HX.out.any a_w2⟩
        have gX := Lib.hid (Grown.refl w T)
        have aX := Lib.hid (HW.out.1.trans a_w2)
        clear s1_w2 r1_w2 f1_w2
        go_wp2_with fail
        obtain ⟨g1, c1, cells1, w7, m1, m2, m3, m4, m5, m6⟩ := run_copy (HRU.out _ aX.out.drew) (by rw [HNN.out]; omega)
        rw [HNN.out] at m1 m5
        have K1 := Lib.hid (And.intro m1 (And.intro (((AnyLater.refl w2).drew).trans m2) (And.intro m3 (And.intro m4 (And.intro m5 m6)))))
        clear m1 m2 m3 m4 m5 m6
        apply wp_region_acts 10 [(3, .slice (some ⟨w2.heap.size, 0, none⟩) 0 0), (5, .slice (some ⟨g1, 0, none⟩) ln c1), (6, .bool false)] (fun w' => w'.heap[w.heap.size]? = some (.cells #[.int .i64 2, .int .i64 n, .int .i64 r.x, .int .i64 r.y, .int .i64 r.a, .int .i64 r.b, .int .u32 c, .slice Ad ln cap] 36))
          (stL [fun w' => w' = w2.drew, fun w' => w' = w2.drew.alloc (.cells #[] 33), fun w' => w' = w7, fun w' => Did Fr w a p ⟨W, rows, n0⟩ S T w']) (by kernel_rfl) (by kernel_rfl) (by kernel_rfl) (heap_drew s0_w2) rfl
        case hlex =>
          intro U hU
          have q0 := own_row hU
          simp only [actFrom, actOp, List.lookup, Nat.reduceBEq, Nat.reduceLeDiff, Nat.reduceAdd, if_false, if_true]
          repeat (go_big_quiet_step (fail))
          exact wpQuiet_nil rfl
        case hact =>
          intro j hj o ho
          have hj3 : j = 0 ∨ j = 1 ∨ j = 2 := by simp at hj; omega
          rcases hj3 with rfl | rfl | rfl
          · cases ho
            refine ⟨rfl, fun w' hC hS => ?_⟩
            obtain rfl : w' = w2.drew := hS
            exact act_value (w' := w2.drew.alloc (.cells #[] 33)) (by simp [go_sem, execOp]) ⟨any_own ((AnyLater.refl _).alloc _) hC, rfl⟩
          · cases ho
            refine ⟨rfl, fun w' hC hS => ?_⟩
            obtain rfl : w' = w2.drew.alloc (.cells #[] 33) := hS
            exact act_append _ _ _ _ rfl _ _ rfl rfl K1.out.1 ⟨any_own K1.out.2.1 s0_w2, rfl⟩
          · cases ho
            refine ⟨rfl, fun w' hC hS => ?_⟩
            obtain rfl : w' = w7 := hS
            refine act_call (f := 40) (args := #[ptr a, .int .i64 n, .slice (some ⟨g1, 0, none⟩) ln c1]) (by simp [go_sem, execOp, ptr]) ?_
            obtain ⟨_, b7, m3, m4, m5, m6⟩ := K1.out
            refine (HF.out.lay n (.slice (some ⟨g1, 0, none⟩) ln c1) LL false HOK.out (HF.out.later fX.out b7) HB.out.small ⟨hni1, hni2⟩ ?_ ?_ (by rw [HNN.out]; omega)).mono ?_
            · exact ⟨some ⟨g1, 0, none⟩, c1, by rw [HNN.out], by rw [HNN.out]; exact m5, fun _ => ⟨g1, 0, rfl, own_lt m4, fun x hx => by rw [own_row m4, Nat.zero_add]; exact m6 x hx⟩⟩
            · intro b off n2 c2 e hs
              have hb : b = g1 := by cases e; rfl
              rw [hb] at hs
              have h1 := HF.out.below fX.out _ hs
              have h2 : w2.heap.size ≤ g1 := m3
              omega
            · rintro e w8 ⟨rfl, k8, S8, f8, g8⟩
              refine ⟨rfl, (k8.block _ (own_lt hC) nS).trans hC, did_rev HF.out HB.out kX.out (by rw [HMX.out]; exact xX.out) gX.out b7 k8 f8 g8 (layM_ok HB.out.ok) ?_ ?_ ?_ ?_⟩ <;> rw [HMX.out]
              all_goals first | rfl | exact HW3.out.symm | (show (rows.set _ _).length = _; rw [List.length_set]) | (show n0 ≤ n0 + _; omega) | (show n0 + _ ≤ n0 + _; omega) | (show n0 ≤ n0; omega) | (show n0 ≤ n0 + 60000000; omega)
        case htail =>
          intro w' hC hS
          have HD := Lib.hid hS
          clear hS
          simp only [List.drop_succ_cons, List.drop_zero, List.drop_nil]
          go_wp2_with fail
          go_ret
          exact ⟨rfl, HD.out⟩
    · by_cases g2 : (H : Int) ≤ n
      · have gd1 : decide ((0 : Int) ≤ n) = true := decide_eq_true (by omega)
        have gd2 : decide (n < (H : Int)) = false := decide_eq_false (by omega)
        have HOK : Hid (layB n LL ⟨W, rows, n0⟩ = false) := Lib.hid (by unfold layB; refine decide_eq_false (fun hl => ?_); have h1 := hl.1; have h2 := hl.2.1; have h3 := hl.2.2; simp only [HH.out, HNN.out] at h1 h2 h3; omega)
        have HMX : Hid (layM n LL ⟨W, rows, n0⟩ = ⟨W, rows, n0⟩) := Lib.hid (by unfold layM; rw [if_neg (by rw [HOK.out]; simp)])
        go_wp2_with fail
        apply wp_region_mem (23) [] (by kernel_rfl) (by kernel_rfl) (by simp)
        case hstab =>
          intro e he v x y hxy hv
          simp only [List.mem_cons, List.not_mem_nil, or_false] at he
        case hlex =>
          intro U
          have q0 := fun (v : Later (later U)) => own_row (any_own ⟨v, rfl⟩ (any_own ⟨U, rfl⟩ s0_w1))
          have q1 := fun (v : Later (later U)) => own_row (any_own ⟨v, rfl⟩ (any_own ⟨U, rfl⟩ s1_w1))
          simp only [absFrom, absOp, idx, List.map_cons, List.map_nil, List.contains_cons, List.contains_nil, Nat.reduceBEq, Bool.or_false, Bool.false_or, Bool.true_or, Bool.or_true, Bool.false_eq_true, Nat.reduceLeDiff, Nat.reduceAdd, if_false, if_true]
          repeat (go_big_quiet_step (first | fail))
          exact wpQuiet_nil rfl
        case hown =>
          intro e he o ho
          simp only [List.mem_cons, List.not_mem_nil, or_false] at he
        case htail =>
          intro g u hst hne
          have b_w2 : AnyLater w1 (later u) := ⟨u, rfl⟩
          generalize later u = w2 at *
          clear u
          clear hst hne
          simp only [fillAll, Act.put, List.setIfInBounds_toArray, List.set_cons_zero, List.set_cons_succ, List.drop_succ_cons, List.drop_zero]
          have z_w2 := b_w2.below.size
          have a_w2 := a_w1.trans b_w2
          have s0_w2 := any_own b_w2 s0_w1
          have s1_w2 := any_own b_w2 s1_w1
          have r0_w2 := own_row s0_w2
          have f0_w2 := own_free s0_w2
          have l0_w2 := own_lt s0_w2
          have r1_w2 := own_row s1_w2
          have f1_w2 := own_free s1_w2
          have l1_w2 := own_lt s1_w2
          (try clear r0_w1); (try clear f0_w1)
          (try clear r1_w1); (try clear f1_w1)
          have fX := Lib.hid (HF.out.later HB.out.f a_w2)
          have kX := Lib.hid (Keeps.of (S := T) a_w2)
          have xX : Hid (RX w2 p ⟨W, rows, n0⟩ T) := Lib.hid ⟨_, rs, HX.out.any a_w2⟩
          have gX := Lib.hid (Grown.refl w T)
          have aX := Lib.hid (HW.out.1.trans a_w2)
          clear s1_w2 r1_w2 f1_w2
          go_wp2_with fail
          obtain ⟨g1, c1, cells1, w7, m1, m2, m3, m4, m5, m6⟩ := run_copy (HRU.out _ aX.out.drew) (by rw [HNN.out]; omega)
          rw [HNN.out] at m1 m5
          have K1 := Lib.hid (And.intro m1 (And.intro (((AnyLater.refl w2).drew).trans m2) (And.intro m3 (And.intro m4 (And.intro m5 m6)))))
          clear m1 m2 m3 m4 m5 m6
          apply wp_region_acts 10 [(3, .slice (some ⟨w2.heap.size, 0, none⟩) 0 0), (5, .slice (some ⟨g1, 0, none⟩) ln c1), (6, .bool false)] (fun w' => w'.heap[w.heap.size]? = some (.cells #[.int .i64 2, .int .i64 n, .int .i64 r.x, .int .i64 r.y, .int .i64 r.a, .int .i64 r.b, .int .u32 c, .slice Ad ln cap] 36))
            (stL [fun w' => w' = w2.drew, fun w' => w' = w2.drew.alloc (.cells #[] 33), fun w' => w' = w7, fun w' => Did Fr w a p ⟨W, rows, n0⟩ S T w']) (by kernel_rfl) (by kernel_rfl) (by kernel_rfl) (heap_drew s0_w2) rfl
          case hlex =>
            intro U hU
            have q0 := own_row hU
            simp only [actFrom, actOp, List.lookup, Nat.reduceBEq, Nat.reduceLeDiff, Nat.reduceAdd, if_false, if_true]
            repeat (go_big_quiet_step (fail))
            exact wpQuiet_nil rfl
          case hact =>
            intro j hj o ho
            have hj3 : j = 0 ∨ j = 1 ∨ j = 2 := by simp at hj; omega
            rcases hj3 with rfl | rfl | rfl
            · cases ho
              refine ⟨rfl, fun w' hC hS => ?_⟩
              obtain rfl : w' = w2.drew := hS
              exact act_value (w' := w2.drew.alloc (.cells #[] 33)) (by simp [go_sem, execOp]) ⟨any_own ((AnyLater.refl _).alloc _) hC, rfl⟩
            · cases ho
              refine ⟨rfl, fun w' hC hS => ?_⟩
              obtain rfl : w' = w2.drew.alloc (.cells #[] 33) := hS
              exact act_append _ _ _ _ rfl _ _ rfl rfl K1.out.1 ⟨any_own K1.out.2.1 s0_w2, rfl⟩
            · cases ho
              refine ⟨rfl, fun w' hC hS => ?_⟩
              obtain rfl : w' = w7 := hS
              refine act_call (f := 40) (args := #[ptr a, .int .i64 n, .slice (some ⟨g1, 0, none⟩) ln c1]) (by simp [go_sem, execOp, ptr]) ?_
              obtain ⟨_, b7, m3, m4, m5, m6⟩ := K1.out
              refine (HF.out.lay n (.slice (some ⟨g1, 0, none⟩) ln c1) LL false HOK.out (HF.out.later fX.out b7) HB.out.small ⟨hni1, hni2⟩ ?_ ?_ (by rw [HNN.out]; omega)).mono ?_
              · exact ⟨some ⟨g1, 0, none⟩, c1, by rw [HNN.out], by rw [HNN.out]; exact m5, fun _ => ⟨g1, 0, rfl, own_lt m4, fun x hx => by rw [own_row m4, Nat.zero_add]; exact m6 x hx⟩⟩
              · intro b off n2 c2 e hs
                have hb : b = g1 := by cases e; rfl
                rw [hb] at hs
                have h1 := HF.out.below fX.out _ hs
                have h2 : w2.heap.size ≤ g1 := m3
                omega
              · rintro e w8 ⟨rfl, k8, S8, f8, g8⟩
                refine ⟨rfl, (k8.block _ (own_lt hC) nS).trans hC, did_rev HF.out HB.out kX.out (by rw [HMX.out]; exact xX.out) gX.out b7 k8 f8 g8 (layM_ok HB.out.ok) ?_ ?_ ?_ ?_⟩ <;> rw [HMX.out]
                all_goals first | rfl | exact HW3.out.symm | (show (rows.set _ _).length = _; rw [List.length_set]) | (show n0 ≤ n0 + _; omega) | (show n0 + _ ≤ n0 + _; omega) | (show n0 ≤ n0; omega) | (show n0 ≤ n0 + 60000000; omega)
          case htail =>
            intro w' hC hS
            have HD := Lib.hid hS
            clear hS
            simp only [List.drop_succ_cons, List.drop_zero, List.drop_nil]
            go_wp2_with fail
            go_ret
            exact ⟨rfl, HD.out⟩
      · by_cases g3 : (ln : Int) = (W : Int)
        · have gg := g3
          obtain ⟨i, rfl⟩ : ∃ i : Nat, (i : Int) = n := ⟨n.toNat, by omega⟩
          have gd2 : (i : Int) < (H : Int) := by omega
          have gd4 : i < H := by omega
          have hW3 : W = ln := by omega
          have gd3 : ((ln : Int) == (W : Int)) = true := by simp; omega
          clear gg g3
          have HOK : Hid (layB (i : Int) LL ⟨W, rows, n0⟩ = true) := Lib.hid (by unfold layB; refine decide_eq_true ⟨by omega, by simp only [HH.out]; omega, by rw [HNN.out]; exact hW3.symm⟩)
          have HMX0 : Hid (layM (i : Int) LL ⟨W, rows, n0⟩ = ⟨W, rows.set i LL, n0 + W⟩) := Lib.hid (by unfold layM; rw [if_pos HOK.out]; simp)
          have HW3 := Lib.hid hW3
          clear hW3 g1 g2
          go_wp2_with fail
          apply wp_region_mem (23) [] (by kernel_rfl) (by kernel_rfl) (by simp)
          case hstab =>
            intro e he v x y hxy hv
            simp only [List.mem_cons, List.not_mem_nil, or_false] at he
          case hlex =>
            intro U
            have q0 := fun (v : Later (later U)) => own_row (any_own ⟨v, rfl⟩ (any_own ⟨U, rfl⟩ s0_w1))
            have q1 := fun (v : Later (later U)) => own_row (any_own ⟨v, rfl⟩ (any_own ⟨U, rfl⟩ s1_w1))
            simp only [absFrom, absOp, idx, List.map_cons, List.map_nil, List.contains_cons, List.contains_nil, Nat.reduceBEq, Bool.or_false, Bool.false_or, Bool.true_or, Bool.or_true, Bool.false_eq_true, Nat.reduceLeDiff, Nat.reduceAdd, if_false, if_true]
            repeat (go_big_quiet_step (first | fail))
            exact wpQuiet_nil rfl
          case hown =>
            intro e he o ho
            simp only [List.mem_cons, List.not_mem_nil, or_false] at he
          case htail =>
            intro g u hst hne
            have b_w2 : AnyLater w1 (later u) := ⟨u, rfl⟩
            generalize later u = w2 at *
            clear u
            clear hst hne
            simp only [fillAll, Act.put, List.setIfInBounds_toArray, List.set_cons_zero, List.set_cons_succ, List.drop_succ_cons, List.drop_zero]
            have z_w2 := b_w2.below.size
            have a_w2 := a_w1.trans b_w2
            have s0_w2 := any_own b_w2 s0_w1
            have s1_w2 := any_own b_w2 s1_w1
            have r0_w2 := own_row s0_w2
            have f0_w2 := own_free s0_w2
            have l0_w2 := own_lt s0_w2
            have r1_w2 := own_row s1_w2
            have f1_w2 := own_free s1_w2
            have l1_w2 := own_lt s1_w2
            (try clear r0_w1); (try clear f0_w1)
            (try clear r1_w1); (try clear f1_w1)
            have hW3 := HW3.out
            have hx2 := HX.out.any a_w2
            obtain ⟨q, cap2, cur, hv2, sq, hq, hcur⟩ := hx2.outer (by show 0 < rows.length; rw [HH.out]; omega)
            have hv3 : Value.slice Ax H capx = .slice (some ⟨q, 0, none⟩) H cap2 := hv2.trans (by show Value.slice _ rows.length _ = _; rw [HH.out])
            clear hv2
            obtain ⟨rfl, rfl⟩ : Ax = some ⟨q, 0, none⟩ ∧ capx = cap2 := by cases hv3; exact ⟨rfl, rfl⟩
            clear hv3
            have li : i < rs.length := by rw [HX.out.rows.len]; show i < rows.length; rw [HH.out]; omega
            have hci := hcur i li
            unfold rowV at hci
            obtain ⟨g1, c1, cells1, w3, m1, m2, m3, m4, m5, m6⟩ := run_copy (HRU.out _ (HW.out.1.trans a_w2).drew) (by rw [HNN.out]; omega)
            rw [HNN.out] at m1 m5
            have b_w3 : AnyLater w2 w3 := ((AnyLater.refl w2).drew).trans m2
            have hq3 := any_own b_w3 hq
            have ng : ¬ T g1 := fun ht => by have h1 := hx2.below _ ht; have h2 : w2.heap.size ≤ g1 := m3; omega
            have hset := (hx2.any b_w3).setRow (i := i) HH.out hq3 m4 ng (by rw [hW3]; exact m5) (by rw [HNN.out]; exact hW3.symm) m6
            have r_q3 := own_row hq3
            have f_q3 := own_free hq3
            have K1 := Lib.hid (And.intro m1 b_w3)
            have np : p ≠ q := fun e => by have h1 := hx2.top; rw [e, hq] at h1; cases h1
            have nb : w.heap.size ≠ q := fun e => nT (by rw [e]; exact sq)
            have s0_w3 := any_own b_w3 s0_w2
            have s1_w3 := any_own b_w3 s1_w2
            have s0_w4 := heap_far (v := .slice (some ⟨g1, 0, none⟩) W c1) (i := i) nb s0_w3
            have s1_w4 := heap_far (v := .slice (some ⟨g1, 0, none⟩) W c1) (i := i) np s1_w3
            have k_w4 : Keeps T w (w3.setCell ⟨q, i, none⟩ (.slice (some ⟨g1, 0, none⟩) W c1)) := (Keeps.of (a_w2.trans b_w3)).setCell sq _
            rw [hW3] at s0_w4 s1_w4 k_w4 hset
            have HS4 := Lib.hid (And.intro s0_w4 (And.intro s1_w4 (And.intro k_w4 hset)))
            have m3' : Hid (w2.heap.size ≤ g1) := Lib.hid m3
            clear m1 m2 m3 m4 m5 m6 hset s0_w4 s1_w4 k_w4 hq hq3 hx2 hcur sq hW3
            go_wp2_with fail
            apply wp_region_acts 10 [(6, .slice (some ⟨w2.heap.size, 0, none⟩) 0 0), (8, .slice (some ⟨g1, 0, none⟩) ln c1)] (fun w' => w'.heap[w.heap.size]? = some (.cells #[.int .i64 2, .int .i64 i, .int .i64 r.x, .int .i64 r.y, .int .i64 r.a, .int .i64 r.b, .int .u32 c, .slice Ad ln cap] 36) ∧ w'.heap[p]? = some (.cells #[.int .i64 W, .slice (some ⟨q, 0, none⟩) H capx, .int .i64 n0] 40))
              (stL [fun w' => w' = w2.drew, fun w' => w' = w2.drew.alloc (.cells #[] 33), fun w' => w' = w3]) (by kernel_rfl) (by kernel_rfl) (by kernel_rfl) ⟨heap_drew s0_w2, heap_drew s1_w2⟩ rfl
            case hlex =>
              intro U hU
              have q0 := own_row hU.1
              have q1 := own_row hU.2
              simp only [actFrom, actOp, List.lookup, Nat.reduceBEq, Nat.reduceLeDiff, Nat.reduceAdd, if_false, if_true]
              repeat (go_big_quiet_step (fail))
              exact wpQuiet_nil rfl
            case hact =>
              intro j hj o ho
              have hj3 : j = 0 ∨ j = 1 := by simp at hj; omega
              rcases hj3 with rfl | rfl
              · cases ho
                refine ⟨rfl, fun w' hC hS => ?_⟩
                obtain rfl : w' = w2.drew := hS
                exact act_value (w' := w2.drew.alloc (.cells #[] 33)) (by simp [go_sem, execOp]) ⟨⟨any_own ((AnyLater.refl _).alloc _) hC.1, any_own ((AnyLater.refl _).alloc _) hC.2⟩, rfl⟩
              · cases ho
                refine ⟨rfl, fun w' hC hS => ?_⟩
                obtain rfl : w' = w2.drew.alloc (.cells #[] 33) := hS
                exact act_append _ _ _ _ rfl _ _ rfl rfl K1.out.1 ⟨⟨s0_w3, s1_w3⟩, rfl⟩
            case htail =>
              intro w' hC hS
              obtain rfl : w' = w3 := hS
              clear hC
              simp only [List.drop_succ_cons, List.drop_zero]
              go_wp2_with fail
              obtain ⟨s0_w4, s1_w4, k_w4, hset⟩ := HS4.out
              clear HS4 s0_w3 s1_w3 r_q3 f_q3
              generalize World.setCell w' ⟨q, i, none⟩ (.slice (some ⟨g1, 0, none⟩) ln c1) = w4 at *
              have a_w4 := k_w4.any HW.out.1 HW.out.2.2
              have HS4 := Lib.hid (And.intro k_w4 hset)
              clear k_w4 hset
              apply wp_region_mem (12) [] (by kernel_rfl) (by kernel_rfl) (by simp)
              case hstab =>
                intro e he v x y hxy hv
                simp only [List.mem_cons, List.not_mem_nil, or_false] at he
              case hlex =>
                intro U
                have q0 := fun (v : Later (later U)) => own_row (any_own ⟨v, rfl⟩ (any_own ⟨U, rfl⟩ s0_w4))
                have q1 := fun (v : Later (later U)) => own_row (any_own ⟨v, rfl⟩ (any_own ⟨U, rfl⟩ s1_w4))
                simp only [absFrom, absOp, idx, List.map_cons, List.map_nil, List.contains_cons, List.contains_nil, Nat.reduceBEq, Bool.or_false, Bool.false_or, Bool.true_or, Bool.or_true, Bool.false_eq_true, Nat.reduceLeDiff, Nat.reduceAdd, if_false, if_true]
                repeat (go_big_quiet_step (first | fail))
                exact wpQuiet_nil rfl
              case hown =>
                intro e he o ho
                simp only [List.mem_cons, List.not_mem_nil, or_false] at he
              case htail =>
                intro g u hst hne
                have b_w5 : AnyLater w4 (later u) := ⟨u, rfl⟩
                generalize later u = w5 at *
                clear u
                clear hst hne
                simp only [fillAll, Act.put, List.setIfInBounds_toArray, List.set_cons_zero, List.set_cons_succ, List.drop_succ_cons, List.drop_zero]
                have z_w5 := b_w5.below.size
                have a_w5 := a_w4.trans b_w5
                have s0_w5 := any_own b_w5 s0_w4
                have s1_w5 := any_own b_w5 s1_w4
                have r0_w5 := own_row s0_w5
                have f0_w5 := own_free s0_w5
                have l0_w5 := own_lt s0_w5
                have r1_w5 := own_row s1_w5
                have f1_w5 := own_free s1_w5
                have l1_w5 := own_lt s1_w5
                (try clear r0_w4); (try clear f0_w4)
                (try clear r1_w4); (try clear f1_w4)
                go_wp2_with fail
                have h6 := (HS4.out.2.any b_w5).count (n0 + (ln : Int))
                have k_w6 : Keeps T w (w5.setCell ⟨p, 2, none⟩ (.int .i64 (n0 + (ln : Int)))) := (HS4.out.1.trans (Keeps.of b_w5)).setCell HX.out.here _
                have s0_w6 := heap_far (v := .int .i64 (n0 + (ln : Int))) (i := 2) (show w.heap.size ≠ p from fun e => nT (by rw [e]; exact HX.out.here)) s0_w5
                clear s0_w5 s1_w5 r0_w5 r1_w5 f0_w5 f1_w5
                generalize World.setCell w5 ⟨p, 2, none⟩ (.int .i64 (n0 + (ln : Int))) = w6 at *
                have fX := Lib.hid (HF.out.apart HB.out.f k_w6 HB.out.ap)
                have kX := Lib.hid k_w6
                have xX : Hid (RX w6 p ⟨ln, rows.set i LL, n0 + (ln : Int)⟩ (fun k => T k ∨ k = g1)) := Lib.hid ⟨_, _, h6⟩
                have gX : Hid (Grown w T (fun k => T k ∨ k = g1)) := Lib.hid (fun k hk => by
                  rcases hk with hk | hk
                  · exact .inl hk
                  · exact .inr (by rw [hk]; exact Nat.le_trans a_w2.below.size m3'.out))
                have aX := Lib.hid (k_w6.any HW.out.1 HW.out.2.2)
                have HMX : Hid (layM (i : Int) LL ⟨W, rows, n0⟩ = ⟨ln, rows.set i LL, n0 + (ln : Int)⟩) := Lib.hid (by rw [HMX0.out, HW3.out] <;> rfl)
                clear h6 k_w6 m3' K1 HS4 a_w4 a_w5
                obtain ⟨g1, c1, cells1, w7, m1, m2, m3, m4, m5, m6⟩ := run_copy (HRU.out _ aX.out.drew) (by rw [HNN.out]; omega)
                rw [HNN.out] at m1 m5
                have K1 := Lib.hid (And.intro m1 (And.intro (((AnyLater.refl w6).drew).trans m2) (And.intro m3 (And.intro m4 (And.intro m5 m6)))))
                clear m1 m2 m3 m4 m5 m6
                apply wp_region_acts 10 [(3, .slice (some ⟨w6.heap.size, 0, none⟩) 0 0), (5, .slice (some ⟨g1, 0, none⟩) ln c1), (6, .bool true)] (fun w' => w'.heap[w.heap.size]? = some (.cells #[.int .i64 2, .int .i64 i, .int .i64 r.x, .int .i64 r.y, .int .i64 r.a, .int .i64 r.b, .int .u32 c, .slice Ad ln cap] 36))
                  (stL [fun w' => w' = w6.drew, fun w' => w' = w6.drew.alloc (.cells #[] 33), fun w' => w' = w7, fun w' => Did Fr w a p ⟨W, rows, n0⟩ S T w']) (by kernel_rfl) (by kernel_rfl) (by kernel_rfl) (heap_drew s0_w6) rfl
                case hlex =>
                  intro U hU
                  have q0 := own_row hU
                  simp only [actFrom, actOp, List.lookup, Nat.reduceBEq, Nat.reduceLeDiff, Nat.reduceAdd, if_false, if_true]
                  repeat (go_big_quiet_step (fail))
                  exact wpQuiet_nil rfl
                case hact =>
                  intro j hj o ho
                  have hj3 : j = 0 ∨ j = 1 ∨ j = 2 := by simp at hj; omega
                  rcases hj3 with rfl | rfl | rfl
                  · cases ho
                    refine ⟨rfl, fun w' hC hS => ?_⟩
                    obtain rfl : w' = w6.drew := hS
                    exact act_value (w' := w6.drew.alloc (.cells #[] 33)) (by simp [go_sem, execOp]) ⟨any_own ((AnyLater.refl _).alloc _) hC, rfl⟩
                  · cases ho
                    refine ⟨rfl, fun w' hC hS => ?_⟩
                    obtain rfl : w' = w6.drew.alloc (.cells #[] 33) := hS
                    exact act_append _ _ _ _ rfl _ _ rfl rfl K1.out.1 ⟨any_own K1.out.2.1 s0_w6, rfl⟩
                  · cases ho
                    refine ⟨rfl, fun w' hC hS => ?_⟩
                    obtain rfl : w' = w7 := hS
                    refine act_call (f := 40) (args := #[ptr a, .int .i64 i, .slice (some ⟨g1, 0, none⟩) ln c1]) (by simp [go_sem, execOp, ptr]) ?_
                    obtain ⟨_, b7, m3, m4, m5, m6⟩ := K1.out
                    refine (HF.out.lay i (.slice (some ⟨g1, 0, none⟩) ln c1) LL true HOK.out (HF.out.later fX.out b7) HB.out.small ⟨hni1, hni2⟩ ?_ ?_ (by rw [HNN.out]; omega)).mono ?_
                    · exact ⟨some ⟨g1, 0, none⟩, c1, by rw [HNN.out], by rw [HNN.out]; exact m5, fun _ => ⟨g1, 0, rfl, own_lt m4, fun x hx => by rw [own_row m4, Nat.zero_add]; exact m6 x hx⟩⟩
                    · intro b off n2 c2 e hs
                      have hb : b = g1 := by cases e; rfl
                      rw [hb] at hs
                      have h1 := HF.out.below fX.out _ hs
                      have h2 : w6.heap.size ≤ g1 := m3
                      omega
                    · rintro e w8 ⟨rfl, k8, S8, f8, g8⟩
                      refine ⟨rfl, (k8.block _ (own_lt hC) nS).trans hC, did_rev HF.out HB.out kX.out (by rw [HMX.out]; exact xX.out) gX.out b7 k8 f8 g8 (layM_ok HB.out.ok) ?_ ?_ ?_ ?_⟩ <;> rw [HMX.out]
                      all_goals first | rfl | exact HW3.out.symm | (show (rows.set _ _).length = _; rw [List.length_set]) | (show n0 ≤ n0 + _; omega) | (show n0 + _ ≤ n0 + _; omega) | (show n0 ≤ n0; omega) | (show n0 ≤ n0 + 60000000; omega)
                case htail =>
                  intro w' hC hS
                  have HD := Lib.hid hS
                  clear hS
                  simp only [List.drop_succ_cons, List.drop_zero, List.drop_nil]
                  go_wp2_with fail
                  go_ret
                  exact ⟨rfl, HD.out⟩
        · have gg : ((ln : Int) == (W : Int)) = false := by simpa using g3
          have gd1 : decide ((0 : Int) ≤ n) = true := decide_eq_true (by omega)
          have gd2 : decide (n < (H : Int)) = true := decide_eq_true (by omega)
          have HOK : Hid (layB n LL ⟨W, rows, n0⟩ = false) := Lib.hid (by unfold layB; refine decide_eq_false (fun hl => ?_); have h1 := hl.1; have h2 := hl.2.1; have h3 := hl.2.2; simp only [HH.out, HNN.out] at h1 h2 h3; omega)
          have HMX : Hid (layM n LL ⟨W, rows, n0⟩ = ⟨W, rows, n0⟩) := Lib.hid (by unfold layM; rw [if_neg (by rw [HOK.out]; simp)])
          go_wp2_with fail
          apply wp_region_mem (23) [] (by kernel_rfl) (by kernel_rfl) (by simp)
          case hstab =>
            intro e he v x y hxy hv
            simp only [List.mem_cons, List.not_mem_nil, or_false] at he
          case hlex =>
            intro U
            have q0 := fun (v : Later (later U)) => own_row (any_own ⟨v, rfl⟩ (any_own ⟨U, rfl⟩ s0_w1))
            have q1 := fun (v : Later (later U)) => own_row (any_own ⟨v, rfl⟩ (any_own ⟨U, rfl⟩ s1_w1))
            simp only [absFrom, absOp, idx, List.map_cons, List.map_nil, List.contains_cons, List.contains_nil, Nat.reduceBEq, Bool.or_false, Bool.false_or, Bool.true_or, Bool.or_true, Bool.false_eq_true, Nat.reduceLeDiff, Nat.reduceAdd, if_false, if_true]
            repeat (go_big_quiet_step (first | fail))
            exact wpQuiet_nil rfl
          case hown =>
            intro e he o ho
            simp only [List.mem_cons, List.not_mem_nil, or_false] at he
          case htail =>
            intro g u hst hne
            have b_w2 : AnyLater w1 (later u) := ⟨u, rfl⟩
            generalize later u = w2 at *
            clear u
            clear hst hne
            simp only [fillAll, Act.put, List.setIfInBounds_toArray, List.set_cons_zero, List.set_cons_succ, List.drop_succ_cons, List.drop_zero]
            have z_w2 := b_w2.below.size
            have a_w2 := a_w1.trans b_w2
            have s0_w2 := any_own b_w2 s0_w1
            have s1_w2 := any_own b_w2 s1_w1
            have r0_w2 := own_row s0_w2
            have f0_w2 := own_free s0_w2
            have l0_w2 := own_lt s0_w2
            have r1_w2 := own_row s1_w2
            have f1_w2 := own_free s1_w2
            have l1_w2 := own_lt s1_w2
            (try clear r0_w1); (try clear f0_w1)
            (try clear r1_w1); (try clear f1_w1)
            have fX := Lib.hid (HF.out.later HB.out.f a_w2)
            have kX := Lib.hid (Keeps.of (S := T) a_w2)
            have xX : Hid (RX w2 p ⟨W, rows, n0⟩ T) := Lib.hid ⟨_, rs, HX.out.any a_w2⟩
            have gX := Lib.hid (Grown.refl w T)
            have aX := Lib.hid (HW.out.1.trans a_w2)
            clear s1_w2 r1_w2 f1_w2
            go_wp2_with fail
            obtain ⟨g1, c1, cells1, w7, m1, m2, m3, m4, m5, m6⟩ := run_copy (HRU.out _ aX.out.drew) (by rw [HNN.out]; omega)
            rw [HNN.out] at m1 m5
            have K1 := Lib.hid (And.intro m1 (And.intro (((AnyLater.refl w2).drew).trans m2) (And.intro m3 (And.intro m4 (And.intro m5 m6)))))
            clear m1 m2 m3 m4 m5 m6
            apply wp_region_acts 10 [(3, .slice (some ⟨w2.heap.size, 0, none⟩) 0 0), (5, .slice (some ⟨g1, 0, none⟩) ln c1), (6, .bool false)] (fun w' => w'.heap[w.heap.size]? = some (.cells #[.int .i64 2, .int .i64 n, .int .i64 r.x, .int .i64 r.y, .int .i64 r.a, .int .i64 r.b, .int .u32 c, .slice Ad ln cap] 36))
              (stL [fun w' => w' = w2.drew, fun w' => w' = w2.drew.alloc (.cells #[] 33), fun w' => w' = w7, fun w' => Did Fr w a p ⟨W, rows, n0⟩ S T w']) (by kernel_rfl) (by kernel_rfl) (by kernel_rfl) (heap_drew s0_w2) rfl
            case hlex =>
              intro U hU
              have q0 := own_row hU
              simp only [actFrom, actOp, List.lookup, Nat.reduceBEq, Nat.reduceLeDiff, Nat.reduceAdd, if_false, if_true]
              repeat (go_big_quiet_step (fail))
              exact wpQuiet_nil rfl
            case hact =>
              intro j hj o ho
              have hj3 : j = 0 ∨ j = 1 ∨ j = 2 := by simp at hj; omega
              rcases hj3 with rfl | rfl | rfl
              · cases ho
                refine ⟨rfl, fun w' hC hS => ?_⟩
                obtain rfl : w' = w2.drew := hS
                exact act_value (w' := w2.drew.alloc (.cells #[] 33)) (by simp [go_sem, execOp]) ⟨any_own ((AnyLater.refl _).alloc _) hC, rfl⟩
              · cases ho
                refine ⟨rfl, fun w' hC hS => ?_⟩
                obtain rfl : w' = w2.drew.alloc (.cells #[] 33) := hS
                exact act_append _ _ _ _ rfl _ _ rfl rfl K1.out.1 ⟨any_own K1.out.2.1 s0_w2, rfl⟩
              · cases ho
                refine ⟨rfl, fun w' hC hS => ?_⟩
                obtain rfl : w' = w7 := hS
                refine act_call (f := 40) (args := #[ptr a, .int .i64 n, .slice (some ⟨g1, 0, none⟩) ln c1]) (by simp [go_sem, execOp, ptr]) ?_
                obtain ⟨_, b7, m3, m4, m5, m6⟩ := K1.out
                refine (HF.out.lay n (.slice (some ⟨g1, 0, none⟩) ln c1) LL false HOK.out (HF.out.later fX.out b7) HB.out.small ⟨hni1, hni2⟩ ?_ ?_ (by rw [HNN.out]; omega)).mono ?_
                · exact ⟨some ⟨g1, 0, none⟩, c1, by rw [HNN.out], by rw [HNN.out]; exact m5, fun _ => ⟨g1, 0, rfl, own_lt m4, fun x hx => by rw [own_row m4, Nat.zero_add]; exact m6 x hx⟩⟩
                · intro b off n2 c2 e hs
                  have hb : b = g1 := by cases e; rfl
                  rw [hb] at hs
                  have h1 := HF.out.below fX.out _ hs
                  have h2 : w2.heap.size ≤ g1 := m3
                  omega
                · rintro e w8 ⟨rfl, k8, S8, f8, g8⟩
                  refine ⟨rfl, (k8.block _ (own_lt hC) nS).trans hC, did_rev HF.out HB.out kX.out (by rw [HMX.out]; exact xX.out) gX.out b7 k8 f8 g8 (layM_ok HB.out.ok) ?_ ?_ ?_ ?_⟩ <;> rw [HMX.out]
                  all_goals first | rfl | exact HW3.out.symm | (show (rows.set _ _).length = _; rw [List.length_set]) | (show n0 ≤ n0 + _; omega) | (show n0 + _ ≤ n0 + _; omega) | (show n0 ≤ n0; omega) | (show n0 ≤ n0 + 60000000; omega)
            case htail =>
              intro w' hC hS
              have HD := Lib.hid hS
              clear hS
              simp only [List.drop_succ_cons, List.drop_zero, List.drop_nil]
              go_wp2_with fail
              go_ret
              exact ⟨rfl, HD.out⟩
end
end Go.Proofs.Ytfliniknaonieaa
