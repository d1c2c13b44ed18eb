/- runs, the program: Set, Insert, Delete; what the program's functions tell. -/
import Derived.Test.YtbegglgekkbcoaaRunU
namespace Go.Proofs.Ytbegglgekkbcoaa
set_option linter.unusedSimpArgs false
set_option linter.unusedVariables false
set_option linter.unusedSectionVars false
open Go.RowKit

/-! ### what lies ahead, a run, what lies behind -/
theorem ofR_drop_le (s : List Int) : ∀ k, (ofR (s.drop k)).length ≤ (ofR s).length
  | 0 => Nat.le_refl _
  | k + 1 => by
    refine Nat.le_trans ?_ (ofR_drop_le s k)
    cases h : s.drop k with
    | nil => rw [List.drop_eq_nil_of_le (by have := List.drop_eq_nil_iff.1 h; omega)]; exact Nat.le_refl _
    | cons x r =>
      rw [show s.drop (k + 1) = r by rw [← List.drop_drop, h]; rfl]
      show (ofR r).length ≤ (consR x (ofR r)).length
      cases ofR r with
      | nil => exact Nat.zero_le _
      | cons y q => obtain ⟨n, t⟩ := y; rw [consR_cons]; split <;> simp
theorem ofR_take_le2 : ∀ (s : List Int) (k : Nat), (ofR (s.take k)).length ≤ (ofR s).length
  | [], k => by rw [List.take_nil]; exact Nat.le_refl _
  | x :: s, 0 => Nat.zero_le _
  | x :: [], k + 1 => by rw [List.take_succ_cons, List.take_nil]; exact Nat.le_refl _
  | x :: y :: s, 1 => (consR_length x (ofR (y :: s))).2
  | x :: y :: s, k + 2 => by
    have ih := ofR_take_le2 (y :: s) (k + 1)
    show (consR x (ofR (y :: s.take k))).length ≤ (consR x (ofR (y :: s))).length
    rw [List.take_succ_cons] at ih
    obtain ⟨n1, r1, e1, _⟩ := ofR_head y (s.take k)
    obtain ⟨n2, r2, e2, _⟩ := ofR_head y s
    rw [e1, e2] at ih
    rw [e1, e2, consR_cons, consR_cons]
    simp only [List.length_cons] at ih
    split <;> simp only [List.length_cons] <;> omega
theorem partR_le (l : Runs) (f q : Int) : (partR l f q).length ≤ l.length := by
  unfold partR partL
  refine Nat.le_trans (ofR_drop_le _ _) (Nat.le_trans (ofR_take_le2 _ _) ?_)
  exact tidyR_le l
theorem part_good (l : Runs) (f q : Int) : ∀ x ∈ partL (sR l) f q, goodS x = true := fun x hx => sR_good x (List.mem_of_mem_take (List.mem_of_mem_drop hx))
theorem part_len (l : Runs) (f q : Int) : (partL (sR l) f q).length ≤ 16777216 := by
  have := sR_len l
  unfold partL
  rw [List.length_drop, List.length_take]; omega
theorem part_ahead {s : List Int} {f : Int} (h0 : 0 ≤ f) (h1 : f ≤ s.length) : partL s 0 f = s.take f.toNat := by
  unfold partL
  rw [show clampZ f s.length = f.toNat by unfold clampZ; omega, show clampZ 0 s.length = 0 by unfold clampZ; omega, List.drop_zero]
theorem part_behind {s : List Int} {t : Int} (h0 : 0 ≤ t) (h1 : t ≤ s.length) : partL s t s.length = s.drop t.toNat := by
  unfold partL
  rw [show clampZ (s.length : Int) s.length = s.length by unfold clampZ; omega, show clampZ t s.length = t.toNat by unfold clampZ; omega, List.take_of_length_le (Nat.le_refl _)]
theorem oneR_all {n s : Int} (h1 : 0 ≤ n) (h2 : n ≤ 16777216) (h3 : goodS s = true) : oneR (n, s) = List.replicate n.toNat s := by
  by_cases h : 1 ≤ n
  · exact oneR_fair h h2 h3
  · obtain rfl : n = 0 := by omega
    unfold oneR fairR
    rw [if_neg (by simp)]; rfl
theorem tidy_three {A B : List Int} {n s : Int} (hA : ∀ x ∈ A, goodS x = true) (hB : ∀ x ∈ B, goodS x = true) (h1 : 0 ≤ n) (h3 : goodS s = true) (hl : A.length + n.toNat + B.length ≤ 16777216) :
    tidyR (ofR A ++ [(n, s)] ++ ofR B) = ofR (A ++ List.replicate n.toNat s ++ B) := by
  have e : stylesR (ofR A ++ [(n, s)] ++ ofR B) = A ++ List.replicate n.toNat s ++ B := by
    rw [stylesR_append, stylesR_append, stylesR_cons, stylesR_nil, List.append_nil, styles_of hA (by omega), styles_of hB (by omega), oneR_all h1 (by omega) h3]
  unfold tidyR
  rw [sR_small (by rw [e, List.length_append, List.length_append, List.length_replicate]; omega), e]
theorem rr_none (w : World) : RRt w (.slice none 0 0) [] := (orn_nil w 0).typed

/-- what Set, Insert and Delete make: of what lies ahead of a, a run, what lies behind b -/
theorem make_three (l : Runs) (a b n s : Int) (ha : 0 ≤ a) (ha2 : a ≤ (sR l).length) (hb : 0 ≤ b) (hb2 : b ≤ (sR l).length) (hn : 0 ≤ n) (hs : goodS s = true) (hl : a + n + (((sR l).length : Int) - b) ≤ 16777216) :
    tidyR (partR l 0 a ++ [(n, s)] ++ partR l b (sR l).length) = ofR ((sR l).take a.toNat ++ List.replicate n.toNat s ++ (sR l).drop b.toNat) := by
  unfold partR
  rw [part_ahead ha ha2, part_behind hb hb2]
  refine tidy_three (fun x hx => sR_good x (List.mem_of_mem_take hx)) (fun x hx => sR_good x (List.mem_of_mem_drop hx)) hn hs ?_
  rw [List.length_take, List.length_drop]; omega
/-- the three calls by contract -/
def Three (w : World) (v : Value) (l : Runs) : Prop :=
  (∀ (w' : World) (f q : Int), AnyLater w w' → Calls Try.prog 23 #[v, .int .i64 f, .int .i64 q] w' (RowN w' (partR l f q))) ∧
  (∀ (w' : World) (v1 v3 : Value) (a b n s : Int), RRn w' v1 (partR l 0 a) → RRn w' v3 (partR l b (sR l).length) → I64s n → I64s s → Calls Try.prog 28 #[v1, .agg #[.int .i64 n, .int .i64 s], v3] w' (RowN w' (tidyR (partR l 0 a ++ [(n, s)] ++ partR l b (sR l).length))))
theorem three_of {w : World} {v : Value} {l : Runs} (h : Asks w v l) : Three w v l :=
  ⟨fun w' f q ha => ppart_any v l _ f q w' rfl (h.1.1.later ha) h.2.1 (by have := h.2.2; omega),
   fun w' v1 v3 a b n s h1 h3 hn hs => pbetween_any v1 v3 _ _ _ n s w' rfl h1 h3 (nums_of (part_good l _ _) (part_len l _ _)) (nums_of (part_good l _ _) (part_len l _ _)) hn hs (by
    have e1 := partR_le l 0 a
    have e2 := partR_le l b (sR l).length
    have := h.2.2
    omega)⟩

set_option maxRecDepth 100000 in
theorem pset_bad (v : Value) (l : Runs) (f t s : Int) (N : Nat) (w : World) (hN : (sR l).length = N) (hx : f < 0 ∨ t < f ∨ (N : Int) < t) (h : Asks w v l) : Calls Try.prog 18 #[v, .int .i64 f, .int .i64 t, .int .i64 s] w (Tells2 w [] 1) := by
  have HLen := Lib.hid (plen_any v l w N hN h.1.1 h.2.1 (by have := h.2.2; omega))
  clear h hN
  by_cases h1 : f < 0
  · clear hx
    go_enter Try.func18, Try.ntmps18
    go_wp2_with (go_at_call 16; refine HLen.out.mono ?_; rintro e w0 ⟨rfl, b0⟩; have HB0 := Lib.hid b0; clear b0)
    refine bodyPost_ret (v := .tuple #[.slice none 0 0, .int .i64 1]) (by simp [results, Try.results18, go_sem]) rfl ?_
    exact ⟨_, rfl, HB0.out, rr_none _⟩
  · have d1 : decide (f < 0) = false := decide_eq_false h1
    by_cases h2 : t < f
    · clear hx
      go_enter Try.func18, Try.ntmps18
      go_wp2_with (go_at_call 16; refine HLen.out.mono ?_; rintro e w0 ⟨rfl, b0⟩; have HB0 := Lib.hid b0; clear b0)
      refine bodyPost_ret (v := .tuple #[.slice none 0 0, .int .i64 1]) (by simp [results, Try.results18, go_sem]) rfl ?_
      exact ⟨_, rfl, HB0.out, rr_none _⟩
    · have d2 : decide (t < f) = false := decide_eq_false h2
      have h3 : (N : Int) < t := by omega
      clear hx
      go_enter Try.func18, Try.ntmps18
      go_wp2_with (go_at_call 16; refine HLen.out.mono ?_; rintro e w0 ⟨rfl, b0⟩; have HB0 := Lib.hid b0; clear b0)
      refine bodyPost_ret (v := .tuple #[.slice none 0 0, .int .i64 1]) (by simp [results, Try.results18, go_sem]) rfl ?_
      exact ⟨_, rfl, HB0.out, rr_none _⟩
set_option maxRecDepth 100000 in
theorem pset_kind (v : Value) (l : Runs) (f t s : Int) (N : Nat) (w : World) (hN : (sR l).length = N) (h1 : 0 ≤ f) (h2 : f ≤ t) (h3 : t ≤ N) (hs : goodS s = false) (h : Asks w v l) : Calls Try.prog 18 #[v, .int .i64 f, .int .i64 t, .int .i64 s] w (Tells2 w [] 5) := by
  have HLen := Lib.hid (plen_any v l w N hN h.1.1 h.2.1 (by have := h.2.2; omega))
  have HG := Lib.hid (fun w => pgood_any s w false hs)
  have d1 : decide (f < 0) = false := decide_eq_false (by omega)
  have d2 : decide (t < f) = false := decide_eq_false (by omega)
  have d3 : decide ((N : Int) < t) = false := decide_eq_false (by omega)
  clear h hN hs
  go_enter Try.func18, Try.ntmps18
  go_wp2_with (go_at_call 16; refine HLen.out.mono ?_; rintro e w0 ⟨rfl, b0⟩; have HB0 := Lib.hid b0; clear b0)
  refine (HG.out _).mono ?_
  rintro e wx ⟨rfl, rfl⟩
  go_wp2_with fail
  refine bodyPost_ret (v := .tuple #[.slice none 0 0, .int .i64 5]) (by simp [results, Try.results18, go_sem]) rfl ?_
  exact ⟨_, rfl, HB0.out, rr_none _⟩
set_option maxRecDepth 100000 in
theorem pset_good (v : Value) (l m : Runs) (f t s : Int) (N : Nat) (w : World) (hN : (sR l).length = N) (h1 : 0 ≤ f) (h2 : f ≤ t) (h3 : t ≤ N) (hs : goodS s = true) (hi : I64s t) (hm : ofR (setL (sR l) f t s) = m) (h : Asks w v l) : Calls Try.prog 18 #[v, .int .i64 f, .int .i64 t, .int .i64 s] w (Tells2 w m 0) := by
  have HLen := Lib.hid (plen_any v l w N hN h.1.1 h.2.1 (by have := h.2.2; omega))
  have HG := Lib.hid (fun w => pgood_any s w true hs)
  have HT := Lib.hid (three_of h)
  have hN2 : N ≤ 16777216 := by rw [← hN]; exact sR_len l
  have HM : Hid (tidyR (partR l 0 f ++ [(t - f, s)] ++ partR l t (sR l).length) = m) := Lib.hid (by
    rw [make_three l f t (t - f) s h1 (by omega) (by omega) (by omega) (by omega) hs (by omega), ← hm]
    rfl)
  have HNN := Lib.hid hN
  have HSI := Lib.hid (goodS_i64 hs)
  have d1 : decide (f < 0) = false := decide_eq_false (by omega)
  have d2 : decide (t < f) = false := decide_eq_false (by omega)
  have d3 : decide ((N : Int) < t) = false := decide_eq_false (by omega)
  clear h hN hs hm hi
  go_enter Try.func18, Try.ntmps18
  go_wp2_with (go_at_call 16; refine HLen.out.mono ?_; rintro e w0 ⟨rfl, b0⟩; have HB0 := Lib.hid b0; clear b0)
  refine (HG.out _).mono ?_
  rintro e wx ⟨rfl, rfl⟩
  go_wp2_with fail
  refine (HT.out.1 _ 0 f HB0.out).mono ?_
  rintro e w1 ⟨u1, rfl, b1, o1⟩
  have HB1 := Lib.hid (And.intro (HB0.out.trans b1) o1.reads)
  clear b1 o1
  go_wp2_with fail
  refine (HT.out.1 _ t N HB1.out.1).mono ?_
  rintro e w2 ⟨u2, rfl, b2, o2⟩
  have HB2 := Lib.hid (And.intro (HB1.out.1.trans b2) (And.intro (HB1.out.2.later b2) o2.reads))
  clear b2 o2
  go_wp2_with fail
  refine (HT.out.2 _ u1 u2 f t _ _ HB2.out.2.1 (by rw [HNN.out]; exact HB2.out.2.2) (by constructor <;> omega) HSI.out).mono ?_
  rintro e w3 ⟨u3, rfl, b3, o3⟩
  have HB3 := Lib.hid (And.intro (HB2.out.1.trans b3) o3.typed)
  clear b3 o3
  go_wp2_with fail
  refine bodyPost_ret (v := .tuple #[u3, .int .i64 0]) (by simp [results, Try.results18, go_sem]) rfl ?_
  exact ⟨_, rfl, HB3.out.1, by rw [← HM.out]; exact HB3.out.2⟩
/-- Set of any runs -/
theorem pset_any (v : Value) (l m : Runs) (f t s c : Int) (w : World) (hm : setR l f t s = (m, c)) (h : Asks w v l) (hi : I64s t) : Calls Try.prog 18 #[v, .int .i64 f, .int .i64 t, .int .i64 s] w (Tells2 w m c) := by
  unfold setR at hm
  split at hm
  · rename_i hx
    cases hm
    exact pset_bad v l f t s _ w rfl hx h
  · rename_i hx
    split at hm
    · rename_i hs
      cases hm
      exact pset_good v l _ f t s _ w rfl (by omega) (by omega) (by omega) hs hi rfl h
    · rename_i hs
      cases hm
      exact pset_kind v l f t s _ w rfl (by omega) (by omega) (by omega) (by simpa using hs) h
end Go.Proofs.Ytbegglgekkbcoaa
