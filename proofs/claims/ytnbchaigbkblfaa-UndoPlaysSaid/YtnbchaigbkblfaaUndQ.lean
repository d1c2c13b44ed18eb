/- undo: the program's turn, New, Past, Future, Clear, Back, Again: by contract. -/
import Derived.Test.YtnbchaigbkblfaaUndP
namespace Go.Proofs.Ytnbchaigbkblfaa
set_option linter.unusedSimpArgs false
set_option linter.unusedVariables false
set_option linter.unusedSectionVars false
open Go.RowKit

set_option maxRecDepth 100000 in
theorem turn_any (g n cap i : Nat) (z x : Int) (cur : Array Value) (w : World) (hg : w.heap[g]? = some (.cells cur 3)) (hz : cur[i]? = some (.int .i64 z)) (hi : i < n) :
    Calls Try.prog 18 #[.slice (some ⟨g, 0, none⟩) n cap, .int .i64 (i : Int), .int .i64 x] w fun e w' => e = .returned (.int .i64 z) ∧ w' = w.setCell ⟨g, i, none⟩ (.int .i64 x) := by
  have c0 : w.cell? ⟨g, i, none⟩ = some (.int .i64 z) := (own_row hg _).trans hz
  have f0 := own_free hg
  have lt := own_lt hg
  have d0 : (i : Int) < (n : Int) := by omega
  clear hg hz
  go_enter Try.func18, Try.ntmps18
  go_wp2_with fail
  go_ret
  exact ⟨rfl, rfl⟩
set_option maxRecDepth 100000 in
theorem past_any (s : Nat) (v : Value) (most : Nat) (m : UM) (w : World) (h : IsS w s v most m) : Calls Try.prog 16 #[sptr s] w fun e w' => e = .returned (.int .i64 (m.now : Int)) ∧ w = w' := by
  have r0 := own_row h.blk
  have lt := own_lt h.blk
  clear h
  unfold sptr
  go_enter Try.func16, Try.ntmps16
  go_wp2_with fail
  go_ret
  exact ⟨rfl, rfl⟩
theorem past_nil (w : World) : Calls Try.prog 16 #[.pointer none] w fun e w' => e = .returned (.int .i64 0) ∧ w = w' := by
  go_enter Try.func16, Try.ntmps16
  go_wp2_with fail
  go_ret
  exact ⟨rfl, rfl⟩
set_option maxRecDepth 100000 in
theorem future_any (s : Nat) (v : Value) (most : Nat) (m : UM) (w : World) (h : IsS w s v most m) : Calls Try.prog 17 #[sptr s] w fun e w' => e = .returned (.int .i64 ((m.l.length - m.now : Nat) : Int)) ∧ AnyLater w w' := by
  have r0 := own_row h.blk
  have lt := own_lt h.blk
  have hle := h.ok.le
  have hl := h.ok.len
  have hm := h.most.2
  obtain ⟨A, cap, rfl, -⟩ := h.row.form
  have E : Hid (((m.l.length - m.now : Nat) : Int) = (m.l.length : Int) - (m.now : Int)) := Lib.hid (by omega)
  clear h
  generalize m.l.length = n at *
  generalize m.now = k at *
  unfold sptr
  go_enter Try.func17, Try.ntmps17
  go_wp2_with fail
  go_quiet (fail)
  go_wp2_with fail
  go_ret
  exact ⟨by rw [E.out]; rfl, (AnyLater.refl _).drewN _⟩
theorem future_nil (w : World) : Calls Try.prog 17 #[.pointer none] w fun e w' => e = .returned (.int .i64 0) ∧ AnyLater w w' := by
  go_enter Try.func17, Try.ntmps17
  go_wp2_with fail
  go_ret
  exact ⟨rfl, AnyLater.refl _⟩
theorem unew_bad (x : Int) (w : World) (hx : x < 1 ∨ 1024 < x) : Calls Try.prog 7 #[.int .i64 x] w fun e w' => e = .returned (.tuple #[.pointer none, .int .i64 1]) ∧ w = w' := by
  by_cases h1 : x < 1
  · clear hx
    go_enter Try.func7, Try.ntmps7
    go_wp2_with fail
    refine bodyPost_ret (v := .tuple #[.pointer none, .int .i64 1]) (by simp [results, Try.results7, go_sem]) rfl ?_
    exact ⟨rfl, rfl⟩
  · have h2 : 1024 < x := by omega
    have d1 : decide (x < 1) = false := decide_eq_false h1
    clear hx h1
    go_enter Try.func7, Try.ntmps7
    go_wp2_with fail
    refine bodyPost_ret (v := .tuple #[.pointer none, .int .i64 1]) (by simp [results, Try.results7, go_sem]) rfl ?_
    exact ⟨rfl, rfl⟩
set_option maxRecDepth 100000 in
theorem unew_any (most : Nat) (w : World) (h1 : 1 ≤ most) (h2 : most ≤ 1024) : Calls Try.prog 7 #[.int .i64 (most : Int)] w fun e w' => e = .returned (.tuple #[sptr w.heap.size, .int .i64 0]) ∧ AnyLater w w' ∧ IsS w' w.heap.size (.slice none 0 0) most UM.none := by
  have d1 : decide ((most : Int) < 1) = false := decide_eq_false (by omega)
  have d2 : decide ((1024 : Int) < (most : Int)) = false := decide_eq_false (by omega)
  have HZ : Hid (1 ≤ most ∧ most ≤ 1024) := Lib.hid ⟨h1, h2⟩
  clear h1 h2
  unfold sptr
  go_enter Try.func7, Try.ntmps7
  go_wp2_with fail
  refine bodyPost_ret (v := .tuple #[.pointer (some ⟨w.heap.size, 0, none⟩), .int .i64 0]) (by simp [results, Try.results7, go_sem]) rfl ?_
  exact ⟨rfl, (AnyLater.refl _).alloc _, heap_new rfl, ⟨rfl, .inl ⟨rfl, rfl⟩⟩, UOk.none _, HZ.out⟩
set_option maxRecDepth 100000 in
theorem uclear_any (s : Nat) (v : Value) (most : Nat) (m : UM) (w : World) (h : IsS w s v most m) : Calls Try.prog 13 #[sptr s] w fun e w' => e = .returned (.tuple #[]) ∧ TurnsS w s v most UM.none w' := by
  have r0 := own_row h.blk
  have lt := own_lt h.blk
  have f0 := own_free h.blk
  have HZ : Hid (TurnsS w s v most UM.none ((w.setCell ⟨s, 0, none⟩ (.slice none 0 0)).setCell ⟨s, 1, none⟩ (.int .i64 0))) := Lib.hid ⟨.slice none 0 0, ⟨heap_at (heap_at h.blk rfl) rfl, ⟨rfl, .inl ⟨rfl, rfl⟩⟩, UOk.none _, h.most⟩, ((Stays.refl _ _).setCell (.inl rfl) _).setCell (.inl rfl) _, fun k e => by cases e⟩
  obtain ⟨A, cap, rfl, -⟩ := h.row.form
  clear h
  generalize m.l.length = n at *
  generalize m.now = k at *
  unfold sptr
  go_enter Try.func13, Try.ntmps13
  go_wp2_with fail
  go_end0
  exact ⟨rfl, HZ.out⟩
theorem uclear_nil (w : World) : Calls Try.prog 13 #[.pointer none] w fun e w' => e = .returned (.tuple #[]) ∧ w = w' := by
  go_enter Try.func13, Try.ntmps13
  go_wp2_with fail
  exact bodyPost_ret (v := .tuple #[]) (by simp [results, Try.results13, go_sem]) rfl ⟨rfl, rfl⟩
theorem uback_nil (x : Int) (w : World) : Calls Try.prog 9 #[.pointer none, .int .i64 x] w fun e w' => e = .returned (.tuple #[.int .i64 x, .bool false]) ∧ w = w' := by
  have HP := Lib.hid (past_nil w)
  go_enter Try.func9, Try.ntmps9
  go_wp2_with fail
  refine HP.out.mono ?_
  rintro e w' ⟨rfl, rfl⟩
  go_wp2_with fail
  refine bodyPost_ret (v := .tuple #[.int .i64 x, .bool false]) (by simp [results, Try.results9, go_sem]) rfl ?_
  exact ⟨rfl, rfl⟩
theorem uagain_nil (x : Int) (w : World) : Calls Try.prog 11 #[.pointer none, .int .i64 x] w fun e w' => e = .returned (.tuple #[.int .i64 x, .bool false]) ∧ AnyLater w w' := by
  have HP := Lib.hid (future_nil w)
  go_enter Try.func11, Try.ntmps11
  go_wp2_with fail
  refine HP.out.mono ?_
  rintro e w' ⟨rfl, b⟩
  go_wp2_with fail
  refine bodyPost_ret (v := .tuple #[.int .i64 x, .bool false]) (by simp [results, Try.results11, go_sem]) rfl ?_
  exact ⟨rfl, b⟩
/-- one value of the row turned over, and where one is -/
theorem IsS.turn {w : World} {s g : Nat} {cap most i k : Nat} {m : UM} {x : Int} (h : IsS w s (.slice (some ⟨g, 0, none⟩) m.l.length cap) most m) (hk : k ≤ m.l.length) (hne : g ≠ s) :
    TurnsS w s (.slice (some ⟨g, 0, none⟩) m.l.length cap) most ⟨m.l.set i x, k⟩ ((w.setCell ⟨s, 1, none⟩ (.int .i64 (k : Int))).drew.setCell ⟨g, i, none⟩ (.int .i64 x)) := by
  refine ⟨.slice (some ⟨g, 0, none⟩) m.l.length cap, ⟨?_, ?_, ⟨by rw [List.length_set]; exact hk, by rw [List.length_set]; exact h.ok.len⟩, h.most⟩, ?_, fun q e => .inl e⟩
  · exact heap_far (fun e => hne e.symm) (heap_drew (heap_at h.blk rfl))
  · have h1 : ON .i64 3 (w.setCell ⟨s, 1, none⟩ (.int .i64 (k : Int))).drew (s + 1) (.slice (some ⟨g, 0, none⟩) m.l.length cap) m.l :=
      h.row.stays (((Stays.refl (fun q => q = s) w).setCell rfl _).later ((AnyLater.refl _).drew)) (fun q e q2 => hne (by cases e; exact q2))
    exact ON.set x h1
  · exact Stays.setCell (((Stays.refl _ w).setCell (.inl rfl) _).later ((AnyLater.refl _).drew)) (.inr rfl) _
set_option maxRecDepth 100000 in
set_option maxHeartbeats 1600000 in
theorem uback_any (s : Nat) (v : Value) (most : Nat) (m : UM) (x : Int) (w : World) (h : IsS w s v most m) : Calls Try.prog 9 #[sptr s, .int .i64 x] w fun e w' => e = .returned (.tuple #[.int .i64 (backV m x), .bool (backB m)]) ∧ TurnsS w s v most (backU m x) w' := by
  have HP := Lib.hid (past_any s v most m w h)
  unfold backV backB backU
  by_cases h0 : m.now = 0
  · have HZ := Lib.hid (TurnsS.same h (.refl w))
    rw [if_pos h0, if_pos h0, h0]
    rw [h0] at HP
    clear h h0
    unfold sptr at *
    go_enter Try.func9, Try.ntmps9
    go_wp2_with fail
    refine HP.out.mono ?_
    rintro e w' ⟨rfl, rfl⟩
    go_wp2_with fail
    refine bodyPost_ret (v := .tuple #[.int .i64 x, .bool false]) (by simp [results, Try.results9, go_sem]) rfl ?_
    exact ⟨rfl, HZ.out⟩
  · have hle := h.ok.le
    have hlen := h.ok.len
    have hmost := h.most.2
    rw [if_neg h0, if_neg h0]
    obtain ⟨k, hk⟩ : ∃ k, m.now = k + 1 := ⟨m.now - 1, by omega⟩
    obtain ⟨g, cap, cur, rfl, hB, hg, hc, -, -, hcell⟩ := h.row.at (by omega)
    have hne : g ≠ s := by omega
    have HT := Lib.hid (h.turn (i := k) (k := k) (x := x) (by omega) hne)
    have hz := hcell k (by omega)
    have e1 : m.l.getD (m.now - 1) 0 = m.l[k] := by rw [hk, Nat.add_sub_cancel, List.getD_eq_getElem?_getD, List.getElem?_eq_getElem (by omega)]; rfl
    rw [e1, hk, Nat.add_sub_cancel]
    rw [hk] at HP
    have s0 := h.blk
    rw [hk] at s0
    have r0 := own_row s0
    have f0 := own_free s0
    have lt := own_lt s0
    have HS : Hid ((w.setCell ⟨s, 1, none⟩ (.int .i64 (k : Int))).heap[s]? = some (.cells #[.slice (some ⟨g, 0, none⟩) m.l.length cap, .int .i64 (k : Int), .int .i64 (most : Int)] 44)) := Lib.hid (heap_at s0 rfl)
    have HTn : Hid (∀ (_ : Unit), Calls Try.prog 18 #[.slice (some ⟨g, 0, none⟩) m.l.length cap, .int .i64 (k : Int), .int .i64 x] (w.setCell ⟨s, 1, none⟩ (.int .i64 (k : Int))).drew fun e w' => e = .returned (.int .i64 m.l[k]) ∧ w' = (w.setCell ⟨s, 1, none⟩ (.int .i64 (k : Int))).drew.setCell ⟨g, k, none⟩ (.int .i64 x)) := Lib.hid (fun _ => turn_any g _ cap k _ x cur _ (heap_drew (heap_far hne hg)) hz (by omega))
    have i1 : (((k + 1 : Nat) : Int) == 0) = false := by simp; omega
    have hk9 : k + 1 ≤ 1024 := by omega
    clear hz hcell e1
    generalize m.l[k]'_ = z at *
    clear h s0 hg hk h0 hc hB
    generalize m.l.set k x = L at *
    generalize m.l.length = n at *
    obtain ⟨k1, hk1⟩ : ∃ k1, ((k + 1 : Nat) : Int) = k1 := ⟨_, rfl⟩
    have hk2 : k1 - 1 = (k : Int) := by omega
    have hk3 : 1 ≤ k1 ∧ k1 ≤ 1024 := by omega
    rw [hk1] at HP i1 r0
    clear hk1
    unfold sptr at *
    go_enter Try.func9, Try.ntmps9
    go_wp2_with fail
    refine HP.out.mono ?_
    rintro e w' ⟨rfl, rfl⟩
    go_wp2_with fail
    apply wp_region_acts 10 [(9, .int .i64 z)] (fun w' => w'.heap[s]? = some (.cells #[.slice (some ⟨g, 0, none⟩) n cap, .int .i64 (k : Int), .int .i64 (most : Int)] 44)) (stL [fun w' => w' = (w.setCell ⟨s, 1, none⟩ (.int .i64 (k : Int))).drew, fun w' => w' = (w.setCell ⟨s, 1, none⟩ (.int .i64 (k : Int))).drew.setCell ⟨g, k, none⟩ (.int .i64 x)]) (by kernel_rfl) (by kernel_rfl) (by kernel_rfl) (heap_drew HS.out) rfl
    case hlex =>
      intro U hU
      have q0 := own_row hU
      have q1 := own_lt hU
      simp only [actFrom, actOp, List.lookup, Nat.reduceBEq, Nat.reduceLeDiff, Nat.reduceAdd, if_false, if_true]
      repeat (go_big_quiet_step (fail))
      exact wpQuiet_nil rfl
    case hact =>
      intro jj hjj o ho
      obtain rfl : jj = 0 := by simp at hjj; omega
      cases ho
      refine ⟨rfl, fun w' hC hS => ?_⟩
      obtain rfl : w' = (w.setCell ⟨s, 1, none⟩ (.int .i64 (k : Int))).drew := hS
      refine act_call (f := 18) (args := #[.slice (some ⟨g, 0, none⟩) n cap, .int .i64 (k : Int), .int .i64 x]) (by simp [go_sem, execOp]) ((HTn.out ()).mono ?_)
      rintro e w' ⟨rfl, rfl⟩
      exact ⟨rfl, heap_far (fun e => hne e.symm) (heap_drew HS.out), rfl⟩
    case htail =>
      intro w' hC hS
      obtain rfl : w' = (w.setCell ⟨s, 1, none⟩ (.int .i64 (k : Int))).drew.setCell ⟨g, k, none⟩ (.int .i64 x) := hS
      simp only [List.drop_succ_cons, List.drop_zero, List.drop_nil]
      go_wp2_with fail
      refine bodyPost_ret (v := .tuple #[.int .i64 z, .bool true]) (by simp [results, Try.results9, go_sem]) rfl ?_
      exact ⟨rfl, HT.out⟩
theorem TurnsS.from {w w1 w' : World} {s : Nat} {v : Value} {most : Nat} {m : UM} (ha : AnyLater w w1) (h : TurnsS w1 s v most m w') : TurnsS w s v most m w' := by
  obtain ⟨v', h1, h2, h3⟩ := h
  refine ⟨v', h1, (Stays.of ha).trans h2, fun k e => ?_⟩
  rcases h3 k e with q | q
  · exact .inl q
  · exact .inr (Nat.le_trans ha.below.size q)
set_option maxRecDepth 100000 in
set_option maxHeartbeats 1600000 in
theorem uagain_any (s : Nat) (v : Value) (most : Nat) (m : UM) (x : Int) (w : World) (h : IsS w s v most m) : Calls Try.prog 11 #[sptr s, .int .i64 x] w fun e w' => e = .returned (.tuple #[.int .i64 (againV m x), .bool (againB m)]) ∧ TurnsS w s v most (againU m x) w' := by
  have HP := Lib.hid (future_any s v most m w h)
  unfold againV againB againU
  by_cases h0 : m.l.length ≤ m.now
  · have HZ := Lib.hid (fun w' (a : AnyLater w w') => TurnsS.same h a)
    rw [if_pos h0, if_pos h0, decide_eq_false (Nat.not_lt.2 h0)]
    rw [Nat.sub_eq_zero_of_le h0] at HP
    clear h h0
    unfold sptr at *
    go_enter Try.func11, Try.ntmps11
    go_wp2_with fail
    refine HP.out.mono ?_
    rintro e w' ⟨rfl, b⟩
    go_wp2_with fail
    refine bodyPost_ret (v := .tuple #[.int .i64 x, .bool false]) (by simp [results, Try.results11, go_sem]) rfl ?_
    exact ⟨rfl, HZ.out _ b⟩
  · have hle := h.ok.le
    have hlen := h.ok.len
    have hmost := h.most.2
    rw [if_neg h0, if_neg h0, decide_eq_true (Nat.lt_of_not_le h0)]
    obtain ⟨k, hk⟩ : ∃ k, m.now = k := ⟨_, rfl⟩
    have HL := Lib.hid (fun w' (a : AnyLater w w') => h.later a)
    obtain ⟨g, cap, cur, rfl, hB, hg, hc, -, -, hcell⟩ := h.row.at (by omega)
    have hne : g ≠ s := by omega
    have hz := hcell k (by omega)
    have e1 : m.l.getD m.now 0 = m.l[k] := by rw [hk, List.getD_eq_getElem?_getD, List.getElem?_eq_getElem (by omega)]; rfl
    rw [e1, hk]
    obtain ⟨d, hd⟩ : ∃ d, m.l.length - m.now = d := ⟨_, rfl⟩
    rw [hd] at HP
    have i1 : ((d : Int) == 0) = false := by simp; omega
    have HT := Lib.hid (fun w' (a : AnyLater w w') => TurnsS.from a ((h.later a).turn (i := k) (k := k + 1) (x := x) (by omega) hne))
    have s0 := h.blk
    rw [hk] at s0
    have HS := Lib.hid s0
    have HS2 : Hid (∀ w', AnyLater w w' → (w'.setCell ⟨s, 1, none⟩ (.int .i64 ((k + 1 : Nat) : Int))).heap[s]? = some (.cells #[.slice (some ⟨g, 0, none⟩) m.l.length cap, .int .i64 ((k + 1 : Nat) : Int), .int .i64 (most : Int)] 44)) := Lib.hid (fun w' a => heap_at (any_own a s0) rfl)
    have HTn : Hid (∀ w', AnyLater w w' → Calls Try.prog 18 #[.slice (some ⟨g, 0, none⟩) m.l.length cap, .int .i64 (k : Int), .int .i64 x] (w'.setCell ⟨s, 1, none⟩ (.int .i64 ((k + 1 : Nat) : Int))).drew fun e w'' => e = .returned (.int .i64 m.l[k]) ∧ w'' = (w'.setCell ⟨s, 1, none⟩ (.int .i64 ((k + 1 : Nat) : Int))).drew.setCell ⟨g, k, none⟩ (.int .i64 x)) := Lib.hid (fun w' a => turn_any g _ cap k _ x cur _ (heap_drew (heap_far hne (any_own a hg))) hz (by omega))
    have hk9 : k + 1 ≤ 1024 := by omega
    clear hz hcell e1 HL
    generalize m.l[k]'_ = z at *
    clear h s0 hg hk h0 hc hB hd
    generalize m.l.set k x = L at *
    generalize m.l.length = n at *
    obtain ⟨k1, hk1⟩ : ∃ k1, ((k + 1 : Nat) : Int) = k1 := ⟨_, rfl⟩
    rw [hk1] at HS2 HTn HT
    have hk2 : (k : Int) + 1 = k1 := by omega
    have hk3 : k1 - 1 = (k : Int) := by omega
    have hk4 : 1 ≤ k1 ∧ k1 ≤ 1024 := by omega
    unfold sptr at *
    go_enter Try.func11, Try.ntmps11
    go_wp2_with fail
    refine HP.out.mono ?_
    rintro e w1 ⟨rfl, b⟩
    have s1 := any_own b HS.out
    have r0 := own_row s1
    have f0 := own_free s1
    have lt := own_lt s1
    have HC := Lib.hid (And.intro (HS2.out _ b) (And.intro (HTn.out _ b) (HT.out _ b)))
    clear HS2 HTn HT HS s1 b hk1
    go_wp2_with fail
    apply wp_region_acts 11 [(10, .int .i64 z)] (fun w' => w'.heap[s]? = some (.cells #[.slice (some ⟨g, 0, none⟩) n cap, .int .i64 k1, .int .i64 (most : Int)] 44)) (stL [fun w' => w' = (w1.setCell ⟨s, 1, none⟩ (.int .i64 k1)).drew, fun w' => w' = (w1.setCell ⟨s, 1, none⟩ (.int .i64 k1)).drew.setCell ⟨g, k, none⟩ (.int .i64 x)]) (by kernel_rfl) (by kernel_rfl) (by kernel_rfl) (heap_drew HC.out.1) rfl
    case hlex =>
      intro U hU
      have q0 := own_row hU
      have q1 := own_lt hU
      simp only [actFrom, actOp, List.lookup, Nat.reduceBEq, Nat.reduceLeDiff, Nat.reduceAdd, if_false, if_true]
      repeat (go_big_quiet_step (fail))
      exact wpQuiet_nil rfl
    case hact =>
      intro jj hjj o ho
      obtain rfl : jj = 0 := by simp at hjj; omega
      cases ho
      refine ⟨rfl, fun w' hC hS => ?_⟩
      obtain rfl : w' = (w1.setCell ⟨s, 1, none⟩ (.int .i64 k1)).drew := hS
      refine act_call (f := 18) (args := #[.slice (some ⟨g, 0, none⟩) n cap, .int .i64 (k : Int), .int .i64 x]) (by simp [go_sem, execOp]) (HC.out.2.1.mono ?_)
      rintro e w' ⟨rfl, rfl⟩
      exact ⟨rfl, heap_far (fun e => hne e.symm) (heap_drew HC.out.1), rfl⟩
    case htail =>
      intro w' hC hS
      obtain rfl : w' = (w1.setCell ⟨s, 1, none⟩ (.int .i64 k1)).drew.setCell ⟨g, k, none⟩ (.int .i64 x) := hS
      simp only [List.drop_succ_cons, List.drop_zero, List.drop_nil]
      go_wp2_with fail
      refine bodyPost_ret (v := .tuple #[.int .i64 z, .bool true]) (by simp [results, Try.results11, go_sem]) rfl ?_
      exact ⟨rfl, HC.out.2.2⟩
end Go.Proofs.Ytnbchaigbkblfaa
