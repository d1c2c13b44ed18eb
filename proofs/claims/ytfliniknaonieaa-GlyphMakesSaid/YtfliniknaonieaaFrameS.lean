/- frame: the program's Clone and Same, by contract. -/
import Derived.Test.YtfliniknaonieaaFrameR
namespace Go.Proofs.Ytfliniknaonieaa
set_option linter.unusedSimpArgs false
set_option linter.unusedVariables false
set_option linter.unusedSectionVars false
open Go.RowKit

/-! ### Clone -/
set_option maxRecDepth 100000 in
set_option maxHeartbeats 3200000 in
theorem clone_any {w : World} {a : Nat} {m : FM} {S : Nat → Prop} (h : Fr w a m S) (hs : Small m) : Calls Try.prog 19 #[ptr a] w fun e w' => ∃ b T, e = .returned (ptr b) ∧ AnyLater w w' ∧ Fr w' b ⟨m.w, m.rows, 0⟩ T ∧ ∀ k, T k → w.heap.size ≤ k := by
  obtain ⟨A, cap, h⟩ := h
  obtain ⟨s1, s2, s3, s4, s5⟩ := hs
  obtain ⟨W, rows, n0⟩ := m
  simp only at h s1 s2 s3
  have HA := Lib.hid h
  have s0_w := h.top
  have r0_w := own_row s0_w
  have f0_w := own_free s0_w
  have l0_w := own_lt s0_w
  have z_w := Nat.le_refl w.heap.size
  simp only at s0_w r0_w
  have hNm : W * rows.length ≤ 4096 * 4096 := Nat.mul_le_mul s2 s3
  have HN : Hid (W * rows.length ≤ 20000000) := Lib.hid (by omega)
  have H1 := Lib.hid s1
  clear h hNm
  obtain ⟨H, hH⟩ : ∃ H, rows.length = H := ⟨_, rfl⟩
  obtain ⟨N, hN⟩ : ∃ N, W * H = N := ⟨_, rfl⟩
  rw [hH] at s0_w r0_w s3 HN
  rw [hN] at s0_w r0_w HN
  have HE : Hid (rows.length = H ∧ W * H = N) := Lib.hid ⟨hH, hN⟩
  have HR : Hid (∀ w', AnyLater w w' → RU w' (.slice A N cap) (flatL W rows)) := Lib.hid (fun w' ha => by
    have := (HA.out.any ha).allRU
    simp only [hH, hN] at this
    exact this)
  have HL : Hid ((flatL W rows).length = N) := Lib.hid (by rw [flatL_len, hH, hN])
  clear hH hN
  unfold ptr
  go_enter Try.func19, Try.ntmps19
  go_wp2_with fail
  apply wp_region_mem (13) [⟨12, 17, isPix (flatL W rows)⟩] (by kernel_rfl) (by kernel_rfl) (by simp)
  case hstab =>
    intro e he v x y hxy hv
    simp only [List.mem_cons, List.not_mem_nil, or_false] at he
    rcases he with rfl
    · exact isPix_stays hxy hv
  case hlex =>
    intro U
    have q0 := fun (v : Later (later U)) => own_row (any_own ⟨v, rfl⟩ (any_own ⟨U, rfl⟩ s0_w))
    simp only [absFrom, absOp, idx, List.map_cons, List.map_nil, List.contains_cons, List.contains_nil, Nat.reduceBEq, Bool.or_false, Bool.false_or, Bool.true_or, Bool.or_true, Bool.false_eq_true, Nat.reduceLeDiff, Nat.reduceAdd, if_false, if_true]
    repeat (go_big_quiet_step (first | fail))
    exact wpQuiet_nil rfl
  case hown =>
    intro e he o ho
    simp only [List.mem_cons, List.not_mem_nil, or_false] at he
    rcases he with rfl
    · cases ho; intro x hx; simp [go_sem, execOp]; exact clonePix_any x _ _ (HR.out x hx) (by rw [HL.out]; exact HN.out)
  case htail =>
    intro g u hst hne
    have b_w1 : AnyLater w (later u) := ⟨u, rfl⟩
    generalize later u = w1 at *
    clear u
    obtain ⟨p17_w1, o17_w1⟩ := hst _ (List.mem_of_getElem? (i := 0) rfl)
    dsimp only at p17_w1 o17_w1
    clear hst hne
    simp only [fillAll, Act.put, List.setIfInBounds_toArray, List.set_cons_zero, List.set_cons_succ, List.drop_succ_cons, List.drop_zero]
    generalize g 12 = v17 at *
    have z_w1 := b_w1.below.size
    have a_w1 := b_w1
    have s0_w1 := any_own b_w1 s0_w
    have r0_w1 := own_row s0_w1
    have f0_w1 := own_free s0_w1
    have l0_w1 := own_lt s0_w1
    (try clear r0_w); (try clear f0_w)
    have HP := Lib.hid (And.intro p17_w1 o17_w1)
    obtain ⟨A3, c3, rfl⟩ : ∃ A3 c3, v17 = .slice A3 N c3 := by
      obtain ⟨A3, c3, h, _⟩ := p17_w1
      rw [HL.out] at h
      exact ⟨_, _, h⟩
    clear p17_w1 o17_w1
    go_wp2_with fail
    go_ret
    refine ⟨w1.heap.size, sinceS w (w1.alloc (.cells #[.int .i64 W, .int .i64 H, .slice A3 N c3, .int .i64 0] 67)), rfl, a_w1.alloc _, ⟨A3, c3, ?_⟩, fun k hk => hk.1⟩
    obtain ⟨e1, e2⟩ := HE.out
    subst e1
    obtain ⟨⟨A4, c4, e4, k1, k2⟩, k3⟩ := HP.out
    rw [HL.out] at e4
    cases e4
    refine ⟨⟨z_w1, by simp⟩, ?_, ⟨H1.out.wide⟩, ?_, fun h0 => ?_, fun k hk => hk.2⟩
    · show _ = some (Obj.cells #[.int .i64 W, .int .i64 rows.length, .slice A3 (W * rows.length) c3, .int .i64 0] 67)
      rw [e2]
      exact heap_new rfl
    · show W * rows.length ≤ c3
      rw [e2, ← HL.out]
      exact k1
    · obtain ⟨q, cells, rfl, hq, hc⟩ := k2 (by rw [HL.out, ← e2]; exact h0)
      obtain ⟨k4, k5⟩ := k3 q rfl
      exact ⟨q, cells, rfl, ⟨k4, by simp; omega⟩, heap_old k5 hq, PixF.of_flat hc⟩

/-! ### Equal -/
set_option maxRecDepth 100000 in
set_option maxHeartbeats 1600000 in
theorem equal_some (b off n cap b2 off2 cap2 : Nat) (l l2 : List Int) (w : World) (hl : l.length = n) (hl2 : l2.length = n) (hn : n ≤ 20000000) (hc : ∀ (j : Nat) (h : j < l.length), w.cell? ⟨b, off + j, none⟩ = some (.int .u32 l[j]))
    (hc2 : ∀ (j : Nat) (h : j < l2.length), w.cell? ⟨b2, off2 + j, none⟩ = some (.int .u32 l2[j])) (hb : b < w.heap.size) (hb2 : b2 < w.heap.size) :
    Calls Try.prog 46 #[.slice (some ⟨b, off, none⟩) n cap, .slice (some ⟨b2, off2, none⟩) n cap2] w fun e w' => e = .returned (.bool (decide (l = l2))) ∧ AnyLater w w' := by
  have HL := Lib.hid hl
  have HL2 := Lib.hid hl2
  have HC := Lib.hid hc
  have HC2 := Lib.hid hc2
  clear hl hc hl2 hc2
  go_enter Try.func46, Try.ntmps46
  go_wp2_with fail
  go_loopg [13] n (fun k i wr => AnyLater w wr ∧ ∃ j : Nat, k = n - j ∧ j ≤ n ∧ i = .int .i64 j ∧ l.take j = l2.take j)
  case atStart => exact ⟨AnyLater.refl _, 0, by omega, by omega, rfl, by simp⟩
  case round =>
    obtain ⟨a_wr, j, hk, hj, rfl, hf⟩ := hrel
    have HF := Lib.hid hf
    have HA := Lib.hid a_wr
    clear hf
    by_cases hlt : j < n
    · have lj : j < l.length := by rw [HL.out]; exact hlt
      have lj2 : j < l2.length := by rw [HL2.out]; exact hlt
      have i1 : (j : Int) < (n : Int) := by omega
      have c0 : wr.cell? ⟨b, off + j, none⟩ = some (.int .u32 l[j]) := (a_wr.below.cell hb).trans (HC.out j lj)
      have d0 : wr.cell? ⟨b2, off2 + j, none⟩ = some (.int .u32 l2[j]) := (a_wr.below.cell hb2).trans (HC2.out j lj2)
      have HT : Hid (l.take (j + 1) = l.take j ++ [l[j]] ∧ l2.take (j + 1) = l2.take j ++ [l2[j]]) := Lib.hid ⟨List.take_succ_eq_append_getElem lj, List.take_succ_eq_append_getElem lj2⟩
      have HD : Hid (l[j] ≠ l2[j] → decide (l = l2) = false) := Lib.hid (fun hx => decide_eq_false (fun e => hx (by subst e; rfl)))
      generalize l[j] = x at *
      generalize l2[j] = x2 at *
      clear a_wr
      by_cases h : x = x2
      · subst h
        go_wp2_with fail
        go_quiet (fail)
        go_wp2_with fail
        go_roundg (n - (j + 1))
        case measure => omega
        case rel => exact ⟨HA.out.drewN _, j + 1, rfl, hlt, by go_num, by rw [HT.out.1, HT.out.2, HF.out]⟩
      · have Q := Lib.hid (HD.out h)
        have hx : (x != x2) = true := by simpa using h
        clear HD HT
        go_wp2_with fail
        go_quiet (fail)
        go_wp2_with fail
        go_ret
        exact ⟨ret_bool Q.out.symm, HA.out.drewN _⟩
    · obtain rfl : j = n := by omega
      have Q : Hid (decide (l = l2) = true) := Lib.hid (decide_eq_true (by
        have := HF.out
        rwa [List.take_of_length_le (Nat.le_of_eq HL.out), List.take_of_length_le (Nat.le_of_eq HL2.out)] at this))
      clear a_wr
      go_wp2_with fail
      go_ret
      exact ⟨ret_bool Q.out.symm, HA.out⟩
theorem equal_apart (A A2 : Option Addr) (n n2 cap cap2 : Nat) (w : World) (h : n ≠ n2) :
    Calls Try.prog 46 #[.slice A n cap, .slice A2 n2 cap2] w fun e w' => e = .returned (.bool false) ∧ w = w' := by
  have h1 : ((n : Int) != (n2 : Int)) = true := by simp; omega
  clear h
  go_enter Try.func46, Try.ntmps46
  go_wp2_with fail
  go_ret
  exact ⟨rfl, rfl⟩
theorem equal_none (A A2 : Option Addr) (cap cap2 : Nat) (w : World) :
    Calls Try.prog 46 #[.slice A 0 cap, .slice A2 0 cap2] w fun e w' => e = .returned (.bool true) ∧ w = w' := by
  go_enter Try.func46, Try.ntmps46
  go_wp2_with fail
  refine wp_loop_rounds 1 ?_
  rw [rounds_succ]
  go_wp2_with fail
  go_ret
  exact ⟨rfl, rfl⟩
theorem equal_any (v v2 : Value) (l l2 : List Int) (w : World) (c : Bool) (hcc : decide (l = l2) = c) (h : RU w v l) (h2 : RU w v2 l2) (hn : l.length ≤ 20000000) :
    Calls Try.prog 46 #[v, v2] w fun e w' => e = .returned (.bool c) ∧ AnyLater w w' := by
  subst hcc
  obtain ⟨A, cap, rfl, p1, p2⟩ := h
  obtain ⟨A2, cap2, rfl, q1, q2⟩ := h2
  by_cases hle : l.length = l2.length
  · rcases Nat.eq_zero_or_pos l.length with h0 | h0
    · have e1 := List.eq_nil_of_length_eq_zero h0
      have e2 := List.eq_nil_of_length_eq_zero (hle.symm.trans h0)
      subst e1; subst e2
      exact same_later (equal_none A A2 cap cap2 w)
    · obtain ⟨b, off, rfl, hb, hc⟩ := p2 h0
      obtain ⟨b2, off2, rfl, hb2, hc2⟩ := q2 (by omega)
      rw [← hle]
      exact equal_some b off _ cap b2 off2 cap2 l l2 w rfl hle.symm hn hc hc2 hb hb2
  · have e : decide (l = l2) = false := decide_eq_false (fun h => hle (by rw [h]))
    rw [e]
    exact same_later (equal_apart A A2 _ _ cap cap2 w hle)

/-! ### Same -/
theorem flat_same {W : Nat} {rows rows2 : Pix} (h1 : ∀ (i : Nat) (h : i < rows.length), rows[i].length = W) (h2 : ∀ (i : Nat) (h : i < rows2.length), rows2[i].length = W) (hl : rows.length = rows2.length) : flatL W rows = flatL W rows2 ↔ rows = rows2 := by
  constructor
  · intro h
    apply List.ext_getElem hl
    intro i hi hi2
    apply List.ext_getElem (by rw [h1 i hi, h2 i hi2])
    intro j hj hj2
    have hjW : j < W := by rw [← h1 i hi]; exact hj
    have a1 := flatL_at hi hjW
    have a2 := flatL_at hi2 hjW
    rw [px_get hi hj] at a1
    rw [px_get hi2 hj2] at a2
    rw [← a1, ← a2]
    simp only [h]
  · intro h
    rw [h]
set_option maxRecDepth 100000 in
set_option maxHeartbeats 6400000 in
theorem frSame_any {w : World} {a b : Nat} {m k : FM} {S T : Nat → Prop} (c : Bool) (hc : sameB m k = c) (h : Fr w a m S) (h2 : Fr w b k T) (hs : Small m) (hs2 : Small k) : Calls Try.prog 20 #[ptr a, ptr b] w fun e w' => e = .returned (.bool c) ∧ AnyLater w w' := by
  obtain ⟨A, cap, h⟩ := h
  obtain ⟨A2, cap2, h2⟩ := h2
  obtain ⟨s1, s2, s3, s4, s5⟩ := hs
  obtain ⟨t1, t2, t3, t4, t5⟩ := hs2
  obtain ⟨W, rows, n0⟩ := m
  obtain ⟨W2, rows2, n2⟩ := k
  simp only at h h2 s1 s2 s3 t1 t2 t3
  have HA := Lib.hid h
  have HB := Lib.hid h2
  have s0_w := h.top
  have s1_w := h2.top
  have r0_w := own_row s0_w
  have f0_w := own_free s0_w
  have l0_w := own_lt s0_w
  have r1_w := own_row s1_w
  have f1_w := own_free s1_w
  have l1_w := own_lt s1_w
  simp only at s0_w s1_w r0_w r1_w
  have hNm : W * rows.length ≤ 4096 * 4096 := Nat.mul_le_mul s2 s3
  have HN : Hid ((flatL W rows).length ≤ 20000000) := Lib.hid (by rw [flatL_len]; omega)
  have HR : Hid (∀ w', AnyLater w w' → RU w' (.slice A (W * rows.length) cap) (flatL W rows)) := Lib.hid (fun w' ha => (HA.out.any ha).allRU)
  have HR2 : Hid (∀ w', AnyLater w w' → RU w' (.slice A2 (W2 * rows2.length) cap2) (flatL W2 rows2)) := Lib.hid (fun w' ha => (HB.out.any ha).allRU)
  have HC : Hid (decide (W = W2 ∧ rows = rows2) = c) := Lib.hid hc
  have HM : Hid (W = W2 → rows.length = rows2.length → decide (flatL W rows = flatL W2 rows2) = c) := Lib.hid (fun e1 e2 => by
    rw [← HC.out, Bool.eq_iff_iff]
    simp only [decide_eq_true_eq]
    subst e1
    rw [flat_same s1.wide t1.wide e2]
    simp)
  have HF1 : Hid (W ≠ W2 → c = false) := Lib.hid (fun e => by rw [← HC.out]; exact decide_eq_false (fun q => e q.1))
  have HF2 : Hid (rows.length ≠ rows2.length → c = false) := Lib.hid (fun e => by rw [← HC.out]; exact decide_eq_false (fun q => e (by rw [q.2])))
  clear h h2 hNm hc
  unfold ptr
  by_cases e1 : W = W2
  · by_cases e2 : rows.length = rows2.length
    · have HM2 := Lib.hid (HM.out e1 e2)
      have d1 : ((W : Int) == (W2 : Int)) = true := by simp; omega
      have d2 : ((rows.length : Int) == (rows2.length : Int)) = true := by simp; omega
      clear HM HF1 HF2 e1 e2
      generalize W * rows.length = N at *
      generalize W2 * rows2.length = N2 at *
      generalize rows.length = H at *
      generalize rows2.length = H2 at *
      go_enter Try.func20, Try.ntmps20
      go_wp2_with fail
      apply wp_region_mem (31) [] (by kernel_rfl) (by kernel_rfl) (by simp)
      case hstab =>
        intro e he v x y hxy hv
        simp only [List.mem_cons, List.not_mem_nil, or_false] at he
      case hlex =>
        intro U
        have q0 := fun (v : Later (later U)) => own_row (any_own ⟨v, rfl⟩ (any_own ⟨U, rfl⟩ s0_w))
        have q1 := fun (v : Later (later U)) => own_row (any_own ⟨v, rfl⟩ (any_own ⟨U, rfl⟩ s1_w))
        simp only [absFrom, absOp, idx, List.map_cons, List.map_nil, List.contains_cons, List.contains_nil, Nat.reduceBEq, Bool.or_false, Bool.false_or, Bool.true_or, Bool.or_true, Bool.false_eq_true, Nat.reduceLeDiff, Nat.reduceAdd, if_false, if_true]
        repeat (go_big_quiet_step (first | (go_at_call 46; exact in_later (equal_any _ _ _ _ _ _ HM2.out (HR.out _ (AnyLater.trans ⟨U, rfl⟩ ⟨_, rfl⟩)) (HR2.out _ (AnyLater.trans ⟨U, rfl⟩ ⟨_, rfl⟩)) HN.out))))
        exact wpQuiet_nil rfl
      case hown =>
        intro e he o ho
        simp only [List.mem_cons, List.not_mem_nil, or_false] at he
      case htail =>
        intro g u hst hne
        have b_w1 : AnyLater w (later u) := ⟨u, rfl⟩
        generalize later u = w1 at *
        clear u
        clear hst hne
        simp only [fillAll, Act.put, List.setIfInBounds_toArray, List.set_cons_zero, List.set_cons_succ, List.drop_succ_cons, List.drop_zero]
        have z_w1 := b_w1.below.size
        have a_w1 := b_w1
        have s0_w1 := any_own b_w1 s0_w
        have s1_w1 := any_own b_w1 s1_w
        have r0_w1 := own_row s0_w1
        have f0_w1 := own_free s0_w1
        have l0_w1 := own_lt s0_w1
        have r1_w1 := own_row s1_w1
        have f1_w1 := own_free s1_w1
        have l1_w1 := own_lt s1_w1
        (try clear r0_w); (try clear f0_w)
        (try clear r1_w); (try clear f1_w)
        go_wp2_with fail
        go_ret
        exact ⟨rfl, a_w1⟩
    · have HZ := Lib.hid (HF2.out e2)
      have d1 : ((W : Int) == (W2 : Int)) = true := by simp; omega
      have d2 : ((rows.length : Int) == (rows2.length : Int)) = false := by simp; omega
      clear HM HF1 HF2 e1 e2
      generalize W * rows.length = N at *
      generalize W2 * rows2.length = N2 at *
      generalize rows.length = H at *
      generalize rows2.length = H2 at *
      go_enter Try.func20, Try.ntmps20
      go_wp2_with fail
      apply wp_region_mem (31) [] (by kernel_rfl) (by kernel_rfl) (by simp)
      case hstab =>
        intro e he v x y hxy hv
        simp only [List.mem_cons, List.not_mem_nil, or_false] at he
      case hlex =>
        intro U
        have q0 := fun (v : Later (later U)) => own_row (any_own ⟨v, rfl⟩ (any_own ⟨U, rfl⟩ s0_w))
        have q1 := fun (v : Later (later U)) => own_row (any_own ⟨v, rfl⟩ (any_own ⟨U, rfl⟩ s1_w))
        simp only [absFrom, absOp, idx, List.map_cons, List.map_nil, List.contains_cons, List.contains_nil, Nat.reduceBEq, Bool.or_false, Bool.false_or, Bool.true_or, Bool.or_true, Bool.false_eq_true, Nat.reduceLeDiff, Nat.reduceAdd, if_false, if_true]
        repeat (go_big_quiet_step (first | fail))
        exact wpQuiet_nil rfl
      case hown =>
        intro e he o ho
        simp only [List.mem_cons, List.not_mem_nil, or_false] at he
      case htail =>
        intro g u hst hne
        have b_w1 : AnyLater w (later u) := ⟨u, rfl⟩
        generalize later u = w1 at *
        clear u
        clear hst hne
        simp only [fillAll, Act.put, List.setIfInBounds_toArray, List.set_cons_zero, List.set_cons_succ, List.drop_succ_cons, List.drop_zero]
        have z_w1 := b_w1.below.size
        have a_w1 := b_w1
        have s0_w1 := any_own b_w1 s0_w
        have s1_w1 := any_own b_w1 s1_w
        have r0_w1 := own_row s0_w1
        have f0_w1 := own_free s0_w1
        have l0_w1 := own_lt s0_w1
        have r1_w1 := own_row s1_w1
        have f1_w1 := own_free s1_w1
        have l1_w1 := own_lt s1_w1
        (try clear r0_w); (try clear f0_w)
        (try clear r1_w); (try clear f1_w)
        go_wp2_with fail
        go_ret
        exact ⟨ret_bool HZ.out.symm, a_w1⟩
  · have HZ := Lib.hid (HF1.out e1)
    have d1 : ((W : Int) == (W2 : Int)) = false := by simp; omega
    clear HM HF1 HF2 e1
    generalize W * rows.length = N at *
    generalize W2 * rows2.length = N2 at *
    generalize rows.length = H at *
    generalize rows2.length = H2 at *
    go_enter Try.func20, Try.ntmps20
    go_wp2_with fail
    apply wp_region_mem (31) [] (by kernel_rfl) (by kernel_rfl) (by simp)
    case hstab =>
      intro e he v x y hxy hv
      simp only [List.mem_cons, List.not_mem_nil, or_false] at he
    case hlex =>
      intro U
      have q0 := fun (v : Later (later U)) => own_row (any_own ⟨v, rfl⟩ (any_own ⟨U, rfl⟩ s0_w))
      have q1 := fun (v : Later (later U)) => own_row (any_own ⟨v, rfl⟩ (any_own ⟨U, rfl⟩ s1_w))
      simp only [absFrom, absOp, idx, List.map_cons, List.map_nil, List.contains_cons, List.contains_nil, Nat.reduceBEq, Bool.or_false, Bool.false_or, Bool.true_or, Bool.or_true, Bool.false_eq_true, Nat.reduceLeDiff, Nat.reduceAdd, if_false, if_true]
      repeat (go_big_quiet_step (first | fail))
      exact wpQuiet_nil rfl
    case hown =>
      intro e he o ho
      simp only [List.mem_cons, List.not_mem_nil, or_false] at he
    case htail =>
      intro g u hst hne
      have b_w1 : AnyLater w (later u) := ⟨u, rfl⟩
      generalize later u = w1 at *
      clear u
      clear hst hne
      simp only [fillAll, Act.put, List.setIfInBounds_toArray, List.set_cons_zero, List.set_cons_succ, List.drop_succ_cons, List.drop_zero]
      have z_w1 := b_w1.below.size
      have a_w1 := b_w1
      have s0_w1 := any_own b_w1 s0_w
      have s1_w1 := any_own b_w1 s1_w
      have r0_w1 := own_row s0_w1
      have f0_w1 := own_free s0_w1
      have l0_w1 := own_lt s0_w1
      have r1_w1 := own_row s1_w1
      have f1_w1 := own_free s1_w1
      have l1_w1 := own_lt s1_w1
      (try clear r0_w); (try clear f0_w)
      (try clear r1_w); (try clear f1_w)
      go_wp2_with fail
      go_ret
      exact ⟨ret_bool HZ.out.symm, a_w1⟩
theorem sameNone_any (w : World) (a : Nat) : Calls Try.prog 20 #[ptr a, .pointer none] w fun e w' => e = .returned (.bool false) ∧ AnyLater w w' := by
  unfold ptr
  go_enter Try.func20, Try.ntmps20
  go_wp2_with fail
  go_ret
  exact ⟨rfl, AnyLater.refl _⟩
theorem noneSame_any (w : World) : Calls Try.prog 20 #[.pointer none, .pointer none] w fun e w' => e = .returned (.bool true) ∧ AnyLater w w' := by
  go_enter Try.func20, Try.ntmps20
  go_wp2_with fail
  go_ret
  exact ⟨rfl, AnyLater.refl _⟩
end Go.Proofs.Ytfliniknaonieaa
