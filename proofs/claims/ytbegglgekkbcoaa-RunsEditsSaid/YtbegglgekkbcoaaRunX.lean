/- runs, the program: Insert, Delete; what the program's functions tell. -/
import Derived.Test.YtbegglgekkbcoaaRunV
namespace Go.Proofs.Ytbegglgekkbcoaa
set_option linter.unusedSimpArgs false
set_option linter.unusedVariables false
set_option linter.unusedSectionVars false
open Go.RowKit

/-! ### Insert -/
set_option maxRecDepth 100000 in
theorem pins_bad (v : Value) (l : Runs) (a n : Int) (N : Nat) (w : World) (hN : (sR l).length = N) (hx : a < 0 ∨ (N : Int) < a ∨ n < 0) (h : Asks w v l) : Calls Try.prog 20 #[v, .int .i64 a, .int .i64 n] w (Tells2 w [] 1) := by
  have HLen := Lib.hid (plen_any v l w N hN h.1.1 h.2.1 (by have := h.2.2; omega))
  clear h hN
  by_cases h1 : a < 0
  · clear hx
    go_enter Try.func20, Try.ntmps20
    go_wp2_with (go_at_call 16; refine HLen.out.mono ?_; rintro e w0 ⟨rfl, b0⟩; have HB0 := Lib.hid b0; clear b0)
    refine bodyPost_ret (v := .tuple #[.slice none 0 0, .int .i64 1]) (by simp [results, Try.results20, go_sem]) rfl ?_
    exact ⟨_, rfl, HB0.out, rr_none _⟩
  · have d1 : decide (a < 0) = false := decide_eq_false h1
    by_cases h2 : (N : Int) < a
    · clear hx
      go_enter Try.func20, Try.ntmps20
      go_wp2_with (go_at_call 16; refine HLen.out.mono ?_; rintro e w0 ⟨rfl, b0⟩; have HB0 := Lib.hid b0; clear b0)
      refine bodyPost_ret (v := .tuple #[.slice none 0 0, .int .i64 1]) (by simp [results, Try.results20, go_sem]) rfl ?_
      exact ⟨_, rfl, HB0.out, rr_none _⟩
    · have d2 : decide ((N : Int) < a) = false := decide_eq_false h2
      have h3 : n < 0 := by omega
      clear hx
      go_enter Try.func20, Try.ntmps20
      go_wp2_with (go_at_call 16; refine HLen.out.mono ?_; rintro e w0 ⟨rfl, b0⟩; have HB0 := Lib.hid b0; clear b0)
      refine bodyPost_ret (v := .tuple #[.slice none 0 0, .int .i64 1]) (by simp [results, Try.results20, go_sem]) rfl ?_
      exact ⟨_, rfl, HB0.out, rr_none _⟩
set_option maxRecDepth 100000 in
theorem pins_many (v : Value) (l : Runs) (a n : Int) (N : Nat) (w : World) (hN : (sR l).length = N) (h1 : 0 ≤ a) (h2 : a ≤ N) (h3 : 0 ≤ n) (h4 : 16777216 - (N : Int) < n) (h : Asks w v l) : Calls Try.prog 20 #[v, .int .i64 a, .int .i64 n] w (Tells2 w [] 2) := by
  have HLen := Lib.hid (plen_any v l w N hN h.1.1 h.2.1 (by have := h.2.2; omega))
  have hN2 : N ≤ 16777216 := by rw [← hN]; exact sR_len l
  have d1 : decide (a < 0) = false := decide_eq_false (by omega)
  have d2 : decide ((N : Int) < a) = false := decide_eq_false (by omega)
  have d3 : decide (n < 0) = false := decide_eq_false (by omega)
  clear h hN
  go_enter Try.func20, Try.ntmps20
  go_wp2_with (go_at_call 16; refine HLen.out.mono ?_; rintro e w0 ⟨rfl, b0⟩; have HB0 := Lib.hid b0; clear b0)
  refine bodyPost_ret (v := .tuple #[.slice none 0 0, .int .i64 2]) (by simp [results, Try.results20, go_sem]) rfl ?_
  exact ⟨_, rfl, HB0.out, rr_none _⟩
theorem ahead_good (l : Runs) (a : Int) : goodS (aheadL (sR l) a) = true := by
  unfold aheadL
  rw [List.getD_eq_getElem?_getD]
  cases h : (sR l)[(a - 1).toNat]? with
  | none => rfl
  | some x => exact sR_good x (List.mem_of_getElem? h)
set_option maxRecDepth 100000 in
theorem pins_good (v : Value) (l m : Runs) (a n : Int) (N : Nat) (w : World) (hN : (sR l).length = N) (h1 : 0 ≤ a) (h2 : a ≤ N) (h3 : 0 ≤ n) (h4 : n ≤ 16777216 - (N : Int)) (hm : ofR (insL (sR l) a n) = m) (h : Asks w v l) : Calls Try.prog 20 #[v, .int .i64 a, .int .i64 n] w (Tells2 w m 0) := by
  have HLen := Lib.hid (plen_any v l w N hN h.1.1 h.2.1 (by have := h.2.2; omega))
  have HT := Lib.hid (three_of h)
  have hN2 : N ≤ 16777216 := by rw [← hN]; exact sR_len l
  have HM : Hid (tidyR (partR l 0 a ++ [(n, aheadL (sR l) a)] ++ partR l a (sR l).length) = m) := Lib.hid (by
    rw [make_three l a a n _ h1 (by omega) h1 (by omega) h3 (ahead_good l a) (by omega), ← hm]
    rfl)
  have HNN := Lib.hid hN
  have HSI := Lib.hid (goodS_i64 (ahead_good l a))
  have HAT : Hid (∀ (w' : World) (i : Int), AnyLater w w' → i = max (a - 1) 0 → Calls Try.prog 17 #[v, .int .i64 i] w' fun e w2 => e = .returned (.int .i64 (aheadL (sR l) a)) ∧ AnyLater w' w2) := Lib.hid (fun w' i ha hi => pstyle_any v l i _ w' (by
    subst hi
    unfold atR aheadL
    rw [if_pos (by omega), show (max (a - 1) 0).toNat = (a - 1).toNat by omega]) (h.1.1.later ha) h.2.1 (by have := h.2.2; omega))
  have d1 : decide (a < 0) = false := decide_eq_false (by omega)
  have d2 : decide ((N : Int) < a) = false := decide_eq_false (by omega)
  have d3 : decide (n < 0) = false := decide_eq_false (by omega)
  have d4 : decide (16777216 - (N : Int) < n) = false := decide_eq_false (by omega)
  have h5 : a ≤ 16777216 := by omega
  have h6 : n ≤ 16777216 := by omega
  generalize aheadL (sR l) a = s at *
  clear h hN hm
  go_enter Try.func20, Try.ntmps20
  go_wp2_with (go_at_call 16; refine HLen.out.mono ?_; rintro e w0 ⟨rfl, b0⟩; have HB0 := Lib.hid b0; clear b0)
  all_goals
    refine (HAT.out _ _ HB0.out (by omega)).mono ?_
    rintro e wx ⟨rfl, bx⟩
    have HBX := Lib.hid (HB0.out.trans bx)
    clear bx
    go_wp2_with fail
    refine (HT.out.1 _ 0 a HBX.out).mono ?_
    rintro e w1 ⟨u1, rfl, b1, o1⟩
    have HB1 := Lib.hid (And.intro (HBX.out.trans b1) o1.reads)
    clear b1 o1
    go_wp2_with fail
    refine (HT.out.1 _ a N HB1.out.1).mono ?_
    rintro e w2 ⟨u2, rfl, b2, o2⟩
    have HB2 := Lib.hid (And.intro (HB1.out.1.trans b2) (And.intro (HB1.out.2.later b2) o2.reads))
    clear b2 o2
    go_wp2_with fail
    refine (HT.out.2 _ u1 u2 a a _ _ HB2.out.2.1 (by rw [HNN.out]; exact HB2.out.2.2) (by constructor <;> omega) HSI.out).mono ?_
    rintro e w3 ⟨u3, rfl, b3, o3⟩
    have HB3 := Lib.hid (And.intro (HB2.out.1.trans b3) o3.typed)
    clear b3 o3
    go_wp2_with fail
    refine bodyPost_ret (v := .tuple #[u3, .int .i64 0]) (by simp [results, Try.results20, go_sem]) rfl ?_
    exact ⟨_, rfl, HB3.out.1, by rw [← HM.out]; exact HB3.out.2⟩
/-- Insert into any runs -/
theorem pins_any (v : Value) (l m : Runs) (a n c : Int) (w : World) (hm : insR l a n = (m, c)) (h : Asks w v l) : Calls Try.prog 20 #[v, .int .i64 a, .int .i64 n] w (Tells2 w m c) := by
  unfold insR at hm
  split at hm
  · rename_i hx
    cases hm
    exact pins_bad v l a n _ w rfl hx h
  · rename_i hx
    split at hm
    · rename_i hs
      cases hm
      exact pins_many v l a n _ w rfl (by omega) (by omega) (by omega) (by omega) h
    · rename_i hs
      cases hm
      exact pins_good v l _ a n _ w rfl (by omega) (by omega) (by omega) (by omega) rfl h

/-! ### Delete -/
set_option maxRecDepth 100000 in
theorem pdel_bad (v : Value) (l : Runs) (a n : Int) (N : Nat) (w : World) (hN : (sR l).length = N) (hx : ¬ Span3 a n N) (h : Asks w v l) : Calls Try.prog 21 #[v, .int .i64 a, .int .i64 n] w (Tells2 w [] 1) := by
  have HLen := Lib.hid (plen_any v l w N hN h.1.1 h.2.1 (by have := h.2.2; omega))
  have HS := Lib.hid (fun w => pspan_no a n N w hx (by have := sR_len l; omega) (by omega))
  clear h hN hx
  go_enter Try.func21, Try.ntmps21
  go_wp2_with (go_at_call 16; refine HLen.out.mono ?_; rintro e w0 ⟨rfl, b0⟩; have HB0 := Lib.hid b0; clear b0)
  refine (HS.out _).mono ?_
  rintro e wx ⟨rfl, rfl⟩
  go_wp2_with fail
  refine bodyPost_ret (v := .tuple #[.slice none 0 0, .int .i64 1]) (by simp [results, Try.results21, go_sem]) rfl ?_
  exact ⟨_, rfl, HB0.out, rr_none _⟩
set_option maxRecDepth 100000 in
theorem pdel_good (v : Value) (l m : Runs) (a n : Int) (N : Nat) (w : World) (hN : (sR l).length = N) (hx : Span3 a n N) (hm : ofR (delL (sR l) a n) = m) (h : Asks w v l) : Calls Try.prog 21 #[v, .int .i64 a, .int .i64 n] w (Tells2 w m 0) := by
  have HLen := Lib.hid (plen_any v l w N hN h.1.1 h.2.1 (by have := h.2.2; omega))
  have hN2 : N ≤ 16777216 := by rw [← hN]; exact sR_len l
  have HS := Lib.hid (fun w => pspan_yes a n N w hx (by omega))
  have HT := Lib.hid (three_of h)
  obtain ⟨h1, h2, h3, h4⟩ := hx
  have HM : Hid (tidyR (partR l 0 a ++ [(0, 0)] ++ partR l (a + n) (sR l).length) = m) := Lib.hid (by
    rw [make_three l a (a + n) 0 0 h1 (by omega) (by omega) (by omega) (by omega) rfl (by omega), ← hm]
    unfold delL
    rw [show (0 : Int).toNat = 0 from rfl, List.replicate_zero, List.append_nil])
  have HNN := Lib.hid hN
  clear h hN hm
  go_enter Try.func21, Try.ntmps21
  go_wp2_with (go_at_call 16; refine HLen.out.mono ?_; rintro e w0 ⟨rfl, b0⟩; have HB0 := Lib.hid b0; clear b0)
  refine (HS.out _).mono ?_
  rintro e wx ⟨rfl, rfl⟩
  go_wp2_with fail
  refine (HT.out.1 _ 0 a HB0.out).mono ?_
  rintro e w1 ⟨u1, rfl, b1, o1⟩
  have HB1 := Lib.hid (And.intro (HB0.out.trans b1) o1.reads)
  clear b1 o1
  go_wp2_with fail
  refine (HT.out.1 _ (a + n) N HB1.out.1).mono ?_
  rintro e w2 ⟨u2, rfl, b2, o2⟩
  have HB2 := Lib.hid (And.intro (HB1.out.1.trans b2) (And.intro (HB1.out.2.later b2) o2.reads))
  clear b2 o2
  go_wp2_with fail
  refine (HT.out.2 _ u1 u2 a (a + n) 0 0 HB2.out.2.1 (by rw [HNN.out]; exact HB2.out.2.2) (by constructor <;> omega) (by constructor <;> omega)).mono ?_
  rintro e w3 ⟨u3, rfl, b3, o3⟩
  have HB3 := Lib.hid (And.intro (HB2.out.1.trans b3) o3.typed)
  clear b3 o3
  go_wp2_with fail
  refine bodyPost_ret (v := .tuple #[u3, .int .i64 0]) (by simp [results, Try.results21, go_sem]) rfl ?_
  exact ⟨_, rfl, HB3.out.1, by rw [← HM.out]; exact HB3.out.2⟩
/-- Delete out of any runs -/
theorem pdel_any (v : Value) (l m : Runs) (a n c : Int) (w : World) (hm : delR l a n = (m, c)) (h : Asks w v l) : Calls Try.prog 21 #[v, .int .i64 a, .int .i64 n] w (Tells2 w m c) := by
  unfold delR at hm
  split at hm
  · rename_i hx
    cases hm
    exact pdel_bad v l a n _ w rfl (fun hs => by unfold Span3 at hs; omega) h
  · rename_i hx
    cases hm
    exact pdel_good v l _ a n _ w rfl (by unfold Span3; omega) rfl h

/-! ### what the program's functions tell -/
theorem tells_of {w : World} {p : Program} {f : FuncId} {args : Array Value} {m : Runs} (h : Calls p f args w (RowN w m)) : Calls p f args w (Tells1 w m) :=
  h.mono fun _ _ ⟨u, h1, h2, h3⟩ => ⟨u, h1, h2, h3.typed⟩
theorem rsays : RSays where
  good l c hc h := pgoodl_any _ l c _ hc h.1.1 h.2.1 (by have := h.2.2; omega)
  tidy l m hm h := by
    subst hm
    exact tells_of (ptidy_any _ l _ h.1.1 h.2.1 (by have := h.2.2; omega))
  len l n hn h := plen_any _ l _ n hn h.1.1 h.2.1 (by have := h.2.2; omega)
  style l i c hc h _ := pstyle_any _ l i c _ hc h.1.1 h.2.1 (by have := h.2.2; omega)
  set l m f t s c hm h _ ht _ := pset_any _ l m f t s c _ hm h ht
  ins l m a n c hm h _ _ := pins_any _ l m a n c _ hm h
  del l m a n c hm h _ _ := pdel_any _ l m a n c _ hm h
  part l m f t hm h _ _ := tells_of (ppart_any _ l m f t _ hm h.1.1 h.2.1 (by have := h.2.2; omega))
end Go.Proofs.Ytbegglgekkbcoaa
