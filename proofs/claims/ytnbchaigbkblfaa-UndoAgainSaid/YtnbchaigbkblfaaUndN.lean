/- undo: UndoAgain. -/
import Derived.Test.YtnbchaigbkblfaaUndL
import Derived.Deep.LoopGhost
import Derived.Deep.DeepCutAuto
import Derived.Deep.CutBlock
namespace Go.Proofs.Ytnbchaigbkblfaa
set_option linter.unusedSimpArgs false
set_option linter.unusedVariables false
set_option linter.unusedSectionVars false
open Go.RowKit

/-! ### maths: steps back, and as many on again -/
/-- k steps back are done, of all that there were: what was handed in lies there, the last in front -/
structure StepM (all k : Nat) (m : UM) : Prop where
  now : m.now = all - k
  len : m.l.length = all
  le : k ≤ all
  get : ∀ p, p < k → m.l.getD (all - 1 - p) 0 = 1000 + (p : Int)
theorem StepM.start {m : UM} (h : m.now = m.l.length) : StepM m.now 0 m := ⟨rfl, h.symm, Nat.zero_le _, fun p hp => by omega⟩
theorem StepM.back {all k : Nat} {m : UM} (h : StepM all k m) (hk : k < all) : backB m = true ∧ StepM all (k + 1) (backU m (1000 + (k : Int))) := by
  obtain ⟨h1, h2, h3, h4⟩ := h
  have h0 : ¬ m.now = 0 := by omega
  refine ⟨by unfold backB; simpa using h0, ?_⟩
  unfold backU
  rw [if_neg h0]
  refine ⟨by show m.now - 1 = _; omega, by show (m.l.set _ _).length = _; rw [List.length_set, h2], hk, fun p hp => ?_⟩
  show (m.l.set _ _).getD _ 0 = _
  rw [List.getD_eq_getElem?_getD]
  by_cases e : p = k
  · subst e
    rw [show all - 1 - p = m.now - 1 by omega, List.getElem?_set_self (by omega)]
    rfl
  · rw [List.getElem?_set_ne (by omega), ← List.getD_eq_getElem?_getD]
    exact h4 p (by omega)
theorem StepM.stop {all k : Nat} {m : UM} {x : Int} (h : StepM all k m) (hk : ¬ k < all) : backB m = false ∧ backV m x = x ∧ backU m x = m := by
  have := h.now
  have := h.le
  have h0 : m.now = 0 := by omega
  unfold backB backV backU
  rw [if_pos h0, if_pos h0]
  exact ⟨by simpa using h0, rfl, rfl⟩
/-- t of them are still to go on again -/
structure OnM (all t : Nat) (m : UM) : Prop where
  now : m.now = all - t
  len : m.l.length = all
  le : t ≤ all
  get : ∀ p, p < t → m.l.getD (all - 1 - p) 0 = 1000 + (p : Int)
theorem StepM.on {all k : Nat} {m : UM} (h : StepM all k m) : OnM all k m := ⟨h.now, h.len, h.le, h.get⟩
theorem OnM.again {all t : Nat} {m : UM} {x : Int} (h : OnM all (t + 1) m) : againB m = true ∧ againV m x = 1000 + (t : Int) ∧ OnM all t (againU m x) := by
  obtain ⟨h1, h2, h3, h4⟩ := h
  have h0 : ¬ m.l.length ≤ m.now := by omega
  refine ⟨by unfold againB; simpa using h0, ?_, ?_⟩
  · unfold againV
    rw [if_neg h0, ← h4 t (by omega), h1, show all - (t + 1) = all - 1 - t by omega]
  · unfold againU
    rw [if_neg h0]
    refine ⟨by show m.now + 1 = _; omega, by show (m.l.set _ _).length = _; rw [List.length_set, h2], by omega, fun p hp => ?_⟩
    show (m.l.set _ _).getD _ 0 = _
    rw [List.getD_eq_getElem?_getD, List.getElem?_set_ne (by omega), ← List.getD_eq_getElem?_getD]
    exact h4 p (by omega)
theorem OnM.stop {all : Nat} {m : UM} {x : Int} (h : OnM all 0 m) : againB m = false ∧ againV m x = x ∧ againU m x = m := by
  have := h.now
  have := h.len
  have h0 : m.l.length ≤ m.now := by omega
  unfold againB againV againU
  rw [if_pos h0, if_pos h0]
  exact ⟨by simp; omega, rfl, rfl⟩
theorem push_now (most : Nat) (m : UM) (x : Int) : (pushU most m x).now = (pushU most m x).l.length := by
  unfold pushU
  split
  · simp
  · rfl

/-! ### the row of what was handed in -/
def Given (arr : Array Value) (k : Nat) : Prop := arr.size = 60 ∧ (∀ p, p < k → arr[p]? = some (.int .i64 (1000 + (p : Int)))) ∧ ∀ p, p < 60 → ∃ z, arr[p]? = some (.int .i64 z)
theorem Given.set {arr : Array Value} {k : Nat} (h : Given arr k) (hk : k < 60) : Given (arr.setIfInBounds k (.int .i64 (1000 + (k : Int)))) (k + 1) := by
  obtain ⟨h1, h2, h3⟩ := h
  refine ⟨by simpa using h1, fun p hp => ?_, fun p hp => ?_⟩
  · by_cases e : k = p
    · subst e
      rw [Array.getElem?_setIfInBounds_self, if_pos (by omega)]
    · rw [Array.getElem?_setIfInBounds_ne e]
      exact h2 p (by omega)
  · by_cases e : k = p
    · subst e
      rw [Array.getElem?_setIfInBounds_self, if_pos (by omega)]
      exact ⟨_, rfl⟩
    · rw [Array.getElem?_setIfInBounds_ne e]
      exact h3 p hp
section
variable {W w : World} {K : List (Nat × Obj)} {s most : Nat} {m : UM}
theorem At1.kept (h : At1 W w K s most m) : ∀ e ∈ K, w.heap[e.1]? = some e.2 := by
  obtain ⟨v, h1, h2, h3, h4⟩ := h
  exact fun e he => (h4 e he).1
theorem At1.ok (h : At1 W w K s most m) : UOk most m := by
  obtain ⟨v, h1, h2, h3, h4⟩ := h
  exact h1.ok
/-- a variable is made -/
theorem At1.box (h : At1 W w [] s most m) (o : Obj) : At1 W (w.alloc o) [(w.heap.size, o)] s most m := by
  obtain ⟨v, h1, h2, h3, -⟩ := h
  have a := (AnyLater.refl w).alloc o
  refine ⟨v, h1.later a, h2.trans a, h3, fun e he => ?_⟩
  obtain rfl := List.mem_singleton.1 he
  exact ⟨heap_new rfl, fun hk => by have := h1.lt _ hk; exact absurd this (Nat.lt_irrefl _)⟩
/-- a cell of it is written -/
theorem At1.store {g i : Nat} {c : Array Value} {T : TypeId} {u : Value} (h : At1 W w [(g, .cells c T)] s most m) (hg : W.heap.size ≤ g) : At1 W (w.setCell ⟨g, i, none⟩ u) [(g, .cells (c.setIfInBounds i u) T)] s most m := by
  obtain ⟨v, h1, h2, h3, h4⟩ := h
  obtain ⟨q1, q2⟩ := h4 _ (List.mem_singleton.2 rfl)
  refine ⟨v, h1.stays ((Stays.refl (fun q => q = g) w).setCell rfl u) (fun k hk e => q2 (e ▸ hk)), h2.setCell (p := ⟨g, i, none⟩) hg u, h3, fun e he => ?_⟩
  obtain rfl := List.mem_singleton.1 he
  exact ⟨heap_at q1 rfl, q2⟩
end
def zeros60 : Array Value := #[.int .i64 0, .int .i64 0, .int .i64 0, .int .i64 0, .int .i64 0, .int .i64 0, .int .i64 0, .int .i64 0, .int .i64 0, .int .i64 0, .int .i64 0, .int .i64 0, .int .i64 0, .int .i64 0, .int .i64 0, .int .i64 0, .int .i64 0, .int .i64 0, .int .i64 0, .int .i64 0, .int .i64 0, .int .i64 0, .int .i64 0, .int .i64 0, .int .i64 0, .int .i64 0, .int .i64 0, .int .i64 0, .int .i64 0, .int .i64 0, .int .i64 0, .int .i64 0, .int .i64 0, .int .i64 0, .int .i64 0, .int .i64 0, .int .i64 0, .int .i64 0, .int .i64 0, .int .i64 0, .int .i64 0, .int .i64 0, .int .i64 0, .int .i64 0, .int .i64 0, .int .i64 0, .int .i64 0, .int .i64 0, .int .i64 0, .int .i64 0, .int .i64 0, .int .i64 0, .int .i64 0, .int .i64 0, .int .i64 0, .int .i64 0, .int .i64 0, .int .i64 0, .int .i64 0, .int .i64 0]
theorem zeros60_eq : zeros60 = Array.replicate 60 (.int .i64 0) := rfl
theorem Given.zero : Given zeros60 0 := ⟨rfl, fun p hp => by omega, fun p hp => ⟨0, by rw [zeros60_eq]; simp [hp]⟩⟩

set_option maxRecDepth 100000 in
set_option maxHeartbeats 6400000 in
theorem undoAgain_any (W : World) (v : Value) (l : List Int) (st : Int) (hv : RI W v l) (hst : 0 ≤ st ∧ st ≤ 255) : Calls Try.prog 4 #[v, .int .u8 st] W fun e w' => e = .returned (.bool true) ∧ AnyLater W w' := by
  obtain ⟨q, rfl⟩ : ∃ q : Nat, st = (q : Int) := ⟨st.toNat, by omega⟩
  have e0 : (q : Int).tmod 60 = ((q % 60 : Nat) : Int) := by rw [Int.tmod_eq_emod_of_nonneg (by omega)]; rfl
  obtain ⟨r, hr⟩ : ∃ r, q % 60 = r := ⟨_, rfl⟩
  have hr2 : r < 60 := by omega
  rw [hr] at e0
  clear hr
  have HR : Hid (∀ (w' : World), AnyLater W w' → ∀ (i : Nat), i < l.length → ∃ b off z, (∃ A cap, v = .slice A l.length cap ∧ A = some ⟨b, off, none⟩) ∧ b < w'.heap.size ∧ w'.cell? ⟨b, off + i, none⟩ = some (.int .i64 z)) := Lib.hid (fun w' a i hi => by
    obtain ⟨A, cap, rfl, h2, h3⟩ := hv.later a
    obtain ⟨b, off, rfl, hb, hc⟩ := h3 (by omega)
    exact ⟨b, off, _, ⟨_, cap, rfl, rfl⟩, hb, hc i hi⟩)
  obtain ⟨A, cap, rfl, -⟩ := hv.form
  have H0 : Hid (Calls Try.prog 7 #[.int .i64 50] W fun e w' => e = .returned (.tuple #[sptr W.heap.size, .int .i64 0]) ∧ At1 W w' [] W.heap.size 50 UM.none) := Lib.hid (at_new W W 50 (.refl W) (by omega) (by omega))
  have HP : Hid (∀ (w' : World) (m : UM) (x : Int), At1 W w' [] W.heap.size 50 m → Calls Try.prog 14 #[sptr W.heap.size, .int .i64 x] w' fun e w'' => e = .returned (.tuple #[]) ∧ ∃ m', At1 W w'' [] W.heap.size 50 m' ∧ m'.now = m'.l.length) := Lib.hid (fun w' m x h => (h.push x).mono fun e w'' ⟨h1, h2⟩ => ⟨h1, _, h2, push_now _ _ _⟩)
  have HQ : Hid (∀ (w' : World) (K : List (Nat × Obj)) (m : UM), At1 W w' K W.heap.size 50 m → Calls Try.prog 16 #[sptr W.heap.size] w' fun e w'' => e = .returned (.int .i64 (m.now : Int)) ∧ w' = w'') := Lib.hid (fun w' K m h => h.past)
  have HF : Hid (∀ (w' : World) (K : List (Nat × Obj)) (m : UM), At1 W w' K W.heap.size 50 m → Calls Try.prog 17 #[sptr W.heap.size] w' fun e w'' => e = .returned (.int .i64 ((m.l.length - m.now : Nat) : Int)) ∧ AnyLater w' w'') := Lib.hid (fun w' K m h => h.future)
  have HB : Hid (∀ (w' : World) (K : List (Nat × Obj)) (m : UM) (all k : Nat), At1 W w' K W.heap.size 50 m → StepM all k m → k < all → Calls Try.prog 9 #[sptr W.heap.size, .int .i64 (1000 + (k : Int))] w' fun e w'' => ∃ z, e = .returned (.tuple #[.int .i64 z, .bool true]) ∧ ∃ m', At1 W w'' K W.heap.size 50 m' ∧ StepM all (k + 1) m') := Lib.hid (fun w' K m all k h hm hk => by
    obtain ⟨b1, b2⟩ := hm.back hk
    have := h.back (1000 + (k : Int))
    rw [b1] at this
    exact this.mono fun e w'' ⟨h1, h2⟩ => ⟨_, h1, _, h2, b2⟩)
  have HS : Hid (∀ (w' : World) (K : List (Nat × Obj)) (m : UM) (all k : Nat), At1 W w' K W.heap.size 50 m → StepM all k m → ¬ k < all → Calls Try.prog 9 #[sptr W.heap.size, .int .i64 (1000 + (k : Int))] w' fun e w'' => e = .returned (.tuple #[.int .i64 (1000 + (k : Int)), .bool false]) ∧ At1 W w'' K W.heap.size 50 m) := Lib.hid (fun w' K m all k h hm hk => by
    obtain ⟨b1, b2, b3⟩ := hm.stop (x := 1000 + (k : Int)) hk
    have := h.back (1000 + (k : Int))
    rwa [b1, b2, b3] at this)
  have HG : Hid (∀ (w' : World) (K : List (Nat × Obj)) (m : UM) (all t : Nat), At1 W w' K W.heap.size 50 m → OnM all (t + 1) m → Calls Try.prog 11 #[sptr W.heap.size, .int .i64 0] w' fun e w'' => e = .returned (.tuple #[.int .i64 (1000 + (t : Int)), .bool true]) ∧ ∃ m', At1 W w'' K W.heap.size 50 m' ∧ OnM all t m') := Lib.hid (fun w' K m all t h hm => by
    obtain ⟨b1, b2, b3⟩ := hm.again (x := 0)
    have := h.again 0
    rw [b1, b2] at this
    exact this.mono fun e w'' ⟨h1, h2⟩ => ⟨h1, _, h2, b3⟩)
  have HE : Hid (∀ (w' : World) (K : List (Nat × Obj)) (m : UM) (all : Nat), At1 W w' K W.heap.size 50 m → OnM all 0 m → Calls Try.prog 11 #[sptr W.heap.size, .int .i64 0] w' fun e w'' => e = .returned (.tuple #[.int .i64 0, .bool false]) ∧ At1 W w'' K W.heap.size 50 m) := Lib.hid (fun w' K m all h hm => by
    obtain ⟨b1, b2, b3⟩ := hm.stop (x := 0)
    have := h.again 0
    rwa [b1, b2, b3] at this)
  have HL := Lib.hid undlives_any
  have HN : Hid (UM.none.now = UM.none.l.length) := Lib.hid rfl
  obtain ⟨s, hs⟩ : ∃ s, W.heap.size = s := ⟨_, rfl⟩
  have HW := Lib.hid hs
  rw [hs] at H0 HP HQ HF HB HS HG HE
  clear hs hv
  unfold sptr at *
  generalize l.length = n at *
  clear l
  go_enter Try.func4, Try.ntmps4
  go_wp2_with fail
  refine H0.out.mono ?_
  rintro e w0 ⟨rfl, h0⟩
  have HA0 := Lib.hid h0
  clear h0 H0
  go_upto_block 0 with fail
  go_cut [] (fun wx => ∃ m : UM, At1 W wx [] s 50 m ∧ m.now = m.l.length)
  case first =>
    go_wp2_with fail
    go_loopg [7] n (fun kk iv wr => ∃ (i : Nat) (m : UM), kk = n - i ∧ i ≤ n ∧ i ≤ 70 ∧ iv = .int .i64 (i : Int) ∧ At1 W wr [] s 50 m ∧ m.now = m.l.length)
    case atStart => exact ⟨0, _, rfl, Nat.zero_le _, Nat.zero_le _, rfl, HA0.out, HN.out⟩
    case round =>
      obtain ⟨i, m, hk, hi, hi70, rfl, h, hm⟩ := hrel
      have HI := Lib.hid (And.intro h hm)
      clear h hm
      by_cases h1 : i < n
      · have d0 : (i : Int) < (n : Int) := by omega
        by_cases h2 : i < 70
        · have d1 : (i : Int) < 70 := by omega
          obtain ⟨b, off, z, ⟨A', cap', e, e2⟩, hb, c0⟩ := HR.out wr HI.out.1.any i h1
          cases e
          subst e2
          have HC := Lib.hid (HP.out _ _ z HI.out.1)
          go_wp2_with fail
          refine HC.out.mono ?_
          rintro e w1 ⟨rfl, m1, g1, g2⟩
          have HI1 := Lib.hid (And.intro g1 g2)
          clear g1 g2
          go_wp2_with fail
          go_roundg (n - (i + 1))
          case measure => omega
          case rel => exact ⟨i + 1, m1, rfl, h1, h2, by go_num, HI1.out⟩
        · have d1 : decide ((i : Int) < 70) = false := decide_eq_false (by omega)
          go_wp2_with fail
          go_meet
          case rel => exact ⟨m, HI.out⟩
      · have d0 : decide ((i : Int) < (n : Int)) = false := decide_eq_false (by omega)
        go_wp2_with fail
        go_meet
        case rel => exact ⟨m, HI.out⟩
  case rest =>
    obtain ⟨m0, h, hm⟩ := hcut
    have HI := Lib.hid (And.intro h hm)
    have hall : m0.now ≤ 50 := Nat.le_trans h.ok.le h.ok.len
    have HQ0 := Lib.hid (HQ.out _ _ _ h)
    have HSt := Lib.hid (StepM.start hm)
    obtain ⟨all, hal⟩ : ∃ all, m0.now = all := ⟨_, rfl⟩
    rw [hal] at HQ0 hall HSt
    clear h hm hal HA0 HP HR
    go_wp2_with fail
    refine HQ0.out.mono ?_
    rintro e w1 ⟨rfl, rfl⟩
    go_upto_block 2 with fail
    obtain ⟨gb, hgb⟩ : ∃ gb, wc.heap.size = gb := ⟨_, rfl⟩
    have HB0 := Lib.hid (HI.out.1.box (.cells zeros60 39))
    have HGb : Hid (W.heap.size ≤ gb) := Lib.hid (hgb ▸ HI.out.1.any.below.size)
    rw [hgb] at HB0
    simp only [hgb]
    clear hgb
    go_cut [10] (fun kv wx => ∃ (k : Nat) (m : UM) (arr : Array Value), kv = .int .i64 (k : Int) ∧ k < 60 ∧ At1 W wx [(gb, .cells arr 39)] s 50 m ∧ StepM all k m ∧ Given arr k)
    case first =>
      go_wp2_with fail
      go_loopg [10] 60 (fun kk kv wr => ∃ (k : Nat) (m : UM) (arr : Array Value), kk = 60 - k ∧ kv = .int .i64 (k : Int) ∧ k < 60 ∧ At1 W wr [(gb, .cells arr 39)] s 50 m ∧ StepM all k m ∧ Given arr k)
      case atStart => exact ⟨0, m0, zeros60, rfl, rfl, by omega, HB0.out, HSt.out, Given.zero⟩
      case round =>
        obtain ⟨k, m, arr, hk, rfl, hk60, h, hm, hg⟩ := hrel
        have HJ := Lib.hid (And.intro h (And.intro hm hg))
        clear h hm hg
        by_cases h1 : k < r
        · have d0 : (k : Int) < (r : Int) := by omega
          have d1 : (k : Int) < 60 := by omega
          by_cases h2 : k < all
          · have HC := Lib.hid (HB.out _ _ _ _ _ HJ.out.1 HJ.out.2.1 h2)
            have HG0 := Lib.hid HJ.out.2.2
            clear HJ
            go_wp2_with fail
            refine HC.out.mono ?_
            rintro e w2 ⟨z, rfl, m2, g1, g2⟩
            have s2 := g1.kept _ (List.mem_singleton.2 rfl)
            simp only at s2
            have r2 := own_row s2
            have f2 := own_free s2
            have lt2 := own_lt s2
            obtain ⟨z0, hz0⟩ := HG0.out.2.2 k hk60
            have r3 : w2.cell? ⟨gb, k, none⟩ = some (.int .i64 z0) := (r2 k).trans hz0
            have HS3 := Lib.hid (g1.store (i := k) (u := .int .i64 (1000 + (k : Int))) HGb.out)
            have HG3 := Lib.hid (HG0.out.set hk60)
            have HM3 := Lib.hid g2
            have HQ3 := Lib.hid (HQ.out _ _ _ HS3.out)
            have HF3 := Lib.hid (HF.out _ _ _ HS3.out)
            rw [g2.now] at HQ3 HF3
            rw [g2.len] at HF3
            obtain ⟨p1, hp1⟩ : ∃ p1, all - (k + 1) = p1 := ⟨_, rfl⟩
            obtain ⟨p2, hp2⟩ : ∃ p2, all - (all - (k + 1)) = p2 := ⟨_, rfl⟩
            rw [hp2] at HF3
            rw [hp1] at HQ3
            have e3 : (p1 : Int) + (p2 : Int) = (all : Int) := by omega
            clear g1 g2 s2 r2 HC HG0 hz0 hp1 hp2
            go_wp2_with fail
            refine HQ3.out.mono ?_
            rintro e w4 ⟨rfl, rfl⟩
            go_wp2_with fail
            refine HF3.out.mono ?_
            rintro e w5 ⟨rfl, b5⟩
            have HZ := Lib.hid (HS3.out.later b5)
            clear b5 r3 f2 lt2
            go_wp2_with fail
            go_roundg (60 - (k + 1))
            case measure => omega
            case rel => exact ⟨k + 1, m2, _, rfl, by go_num, by omega, HZ.out, HM3.out, HG3.out⟩
          · have HC := Lib.hid (HS.out _ _ _ _ _ HJ.out.1 HJ.out.2.1 h2)
            have HJ2 := Lib.hid HJ.out.2
            clear HJ
            go_wp2_with fail
            refine HC.out.mono ?_
            rintro e w2 ⟨rfl, g1⟩
            have HZ := Lib.hid g1
            clear g1 HC
            go_wp2_with fail
            go_meet
            case rel => exact ⟨k, m, arr, rfl, hk60, HZ.out, HJ2.out⟩
        · have d0 : decide ((k : Int) < (r : Int)) = false := decide_eq_false (by omega)
          go_wp2_with fail
          go_meet
          case rel => exact ⟨k, m, arr, rfl, hk60, HJ.out⟩
    case rest =>
      obtain ⟨k, m, arr, rfl, hk60, h, hm, hg⟩ := hcut
      have HJ := Lib.hid (And.intro h hm.on)
      have HG1 := Lib.hid hg
      clear h hm hg HSt HB0 HI HB HS
      go_wp2_with fail
      go_loopg [13] k (fun kk iv wr => ∃ (t : Nat) (m : UM), kk = t ∧ t ≤ k ∧ iv = .int .i64 ((t : Int) - 1) ∧ At1 W wr [(gb, .cells arr 39)] s 50 m ∧ OnM all t m)
      case atStart => exact ⟨k, m, rfl, Nat.le_refl _, by go_num, HJ.out.1, HJ.out.2⟩
      case round =>
        obtain ⟨t, m, hk, ht, rfl, h, hm⟩ := hrel
        have HJ := Lib.hid (And.intro h hm)
        clear h hm
        cases t with
        | succ t =>
          have e1 : ((t + 1 : Nat) : Int) - 1 = (t : Int) := by omega
          have HC := Lib.hid (HG.out _ _ _ _ _ HJ.out.1 HJ.out.2)
          have hgt := HG1.out.2.1 t (by omega)
          have d1 : (t : Int) < 60 := by omega
          have d2 : (0 : Int) ≤ (t : Int) := by omega
          rw [e1]
          clear HJ e1
          go_wp2_with fail
          refine HC.out.mono ?_
          rintro e w2 ⟨rfl, m2, g1, g2⟩
          have s2 := g1.kept _ (List.mem_singleton.2 rfl)
          simp only at s2
          have r2 : w2.cell? ⟨gb, t, none⟩ = some (.int .i64 (1000 + (t : Int))) := (own_row s2 _).trans hgt
          have lt2 := own_lt s2
          have HZ := Lib.hid (And.intro g1 g2)
          clear g1 g2 s2 HC hgt
          go_wp2_with fail
          go_roundg t
          case measure => omega
          case rel => exact ⟨t, m2, rfl, by omega, rfl, HZ.out.1, HZ.out.2⟩
        | zero =>
          have HC := Lib.hid (HE.out _ _ _ _ HJ.out.1 HJ.out.2)
          have HQ3 := Lib.hid (fun w' => HQ.out w' [(gb, .cells arr 39)] m)
          rw [HJ.out.2.now, Nat.sub_zero] at HQ3
          clear HJ
          go_wp2_with fail
          refine HC.out.mono ?_
          rintro e w2 ⟨rfl, g1⟩
          have HC3 := Lib.hid (HQ3.out _ g1)
          have HAn := Lib.hid g1.any
          clear g1 HQ3 HC
          go_wp2_with fail
          refine HC3.out.mono ?_
          rintro e w3 ⟨rfl, rfl⟩
          go_wp2_with fail
          refine (HL.out _).mono ?_
          rintro e w4 ⟨rfl, b4⟩
          have HB4 := Lib.hid b4
          clear b4
          go_wp2_with fail
          go_ret
          exact ⟨rfl, HAn.out.trans HB4.out⟩
end Go.Proofs.Ytnbchaigbkblfaa
