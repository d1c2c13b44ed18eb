/- cells: how wide a cell is, as mathematics, and told by the program and by the document; Blank, Show. -/
import Derived.Test.YteplnejnhgmfiaaDoorFlat
import Derived.Test.YteplnejnhgmfiaaDoorShdA
import Derived.Test.YteplnejnhgmfiaaDoorRunsB
import Derived.BigQuiet
namespace Go.Proofs.YteplnejnhgmfiaaDoor
set_option linter.unusedSimpArgs false
set_option linter.unusedVariables false
set_option linter.unusedSectionVars false
open Go.RowKit

/-- a cell: At, N, Rune, Style -/
abbrev Cel := Int × Int × Int × Int
abbrev Cels := List Cel
def celF : Flat Cel where
  fl c := [.int .i64 c.1, .int .i64 c.2.1, .int .i32 c.2.2.1, .int .i64 c.2.2.2]
  k := 4
  pos := by decide
  len _ := rfl
  one a u hu := by
    simp only [List.mem_cons, List.not_mem_nil, or_false] at hu
    rcases hu with rfl | rfl | rfl | rfl <;> rfl
def celT (W : World → Value → Cels → Prop) := W
set_option maxRecDepth 100000 in
theorem celFT : FlatT celF 63 41 (.agg #[.int .i64 0, .int .i64 0, .int .i32 0, .int .i64 0]) 32 where
  und := Tryd.underlying41
  el := by kernel_rfl
  info := by kernel_rfl
  size := fun w => by simp [go_sem, celF]
  zero := rfl
  few := by decide
abbrev I32s (x : Int) : Prop := -2147483648 ≤ x ∧ x ≤ 2147483647
/-- the numbers of a cell are numbers -/
def CelOk (c : Cel) : Prop := I64s c.1 ∧ I64s c.2.1 ∧ I32s c.2.2.1 ∧ I64s c.2.2.2
def CelsOk (l : Cels) : Prop := ∀ c ∈ l, CelOk c
/-- how wide a letter of a face is -/
def advC (f : Int) : Int := if f = 2 then 12 else 6 + f
def widR (r s x : Int) : Int := if r = 9 then (if x < 0 ∨ 1073741824 < x then 0 else 48 - x % 48) else advC (faceS s)
def widC (c : Cel) (x : Int) : Int := widR c.2.2.1 c.2.2.2 x
theorem faceS_in (s : Int) : 0 ≤ faceS s ∧ faceS s ≤ 2 := by
  unfold faceS
  split
  · omega
  · omega
theorem advC_in (s : Int) : 6 ≤ advC (faceS s) ∧ advC (faceS s) ≤ 12 := by
  have := faceS_in s
  unfold advC
  split <;> omega
theorem widR_in (r s x : Int) : 0 ≤ widR r s x ∧ widR r s x ≤ 48 := by
  have := advC_in s
  unfold widR
  split
  · split <;> omega
  · omega
/-- where each of the cells begins, the first at x, and where the last one ends -/
def xsC (x : Int) : Cels → List Int
  | [] => [x]
  | c :: l => x :: xsC (x + widC c x) l
theorem xsC_length : ∀ (l : Cels) (x : Int), (xsC x l).length = l.length + 1
  | [], _ => rfl
  | c :: l, x => by rw [xsC, List.length_cons, xsC_length l, List.length_cons]
/-- where the last of the cells ends -/
def endC (x : Int) (l : Cels) : Int := l.foldl (fun x c => x + widC c x) x
theorem endC_snoc (x : Int) (l : Cels) (c : Cel) : endC x (l ++ [c]) = endC x l + widC c (endC x l) := by unfold endC; rw [List.foldl_append]; rfl
theorem xsC_snoc : ∀ (l : Cels) (x : Int) (c : Cel), xsC x (l ++ [c]) = xsC x l ++ [endC x (l ++ [c])]
  | [], x, c => rfl
  | d :: l, x, c => by
    show x :: xsC _ (l ++ [c]) = x :: (xsC _ l ++ _)
    rw [xsC_snoc l]; rfl
theorem endC_in : ∀ (l : Cels) (x : Int), x ≤ endC x l ∧ endC x l ≤ x + 48 * l.length
  | [], x => by simp [endC]
  | c :: l, x => by
    have h := endC_in l (x + widC c x)
    have h2 := widR_in c.2.2.1 c.2.2.2 x
    show x ≤ endC (x + widC c x) l ∧ _
    change _ ∧ endC (x + widC c x) l ≤ _
    unfold widC at *
    rw [List.length_cons]
    omega
theorem xsC_last (l : Cels) (x : Int) : (xsC x l)[l.length]? = some (endC x l) := by
  rcases List.eq_nil_or_concat l with rfl | ⟨m, c, rfl⟩
  · rfl
  · rw [List.concat_eq_append, xsC_snoc, List.length_append, List.getElem?_append_right (by rw [xsC_length]; simp), xsC_length]
    simp

/-! ### the program's small functions -/
set_option maxRecDepth 100000 in
theorem cface_any (s : Int) (w : World) (c : Int) (hc : faceS s = c) (hs : I64s s) : Calls Tryd.prog 69 #[.int .i64 s] w fun e w' => e = .returned (.int .i64 c) ∧ w = w' := by
  rcases hg : goodS s
  · have HG := Lib.hid (fun w => pgood_any s w false hg)
    have HC : Hid (0 = c) := Lib.hid (by rw [← hc]; unfold faceS; rw [hg]; rfl)
    clear hc hg
    obtain ⟨s1, s2⟩ := hs
    go_enter Tryd.func69, Tryd.ntmps69
    go_wp2_with fail
    refine (HG.out _).mono ?_
    rintro e w1 ⟨rfl, rfl⟩
    go_wp2_with fail
    go_ret
    exact ⟨ret_i64 HC.out, rfl⟩
  · have HG := Lib.hid (fun w => pgood_any s w true hg)
    have HC : Hid (s % 3 = c) := Lib.hid (by rw [← hc]; unfold faceS; rw [hg]; rfl)
    obtain ⟨s1, s2⟩ := goodS_in hg
    clear hc hg hs
    go_enter Tryd.func69, Tryd.ntmps69
    go_wp2_with fail
    refine (HG.out _).mono ?_
    rintro e w1 ⟨rfl, rfl⟩
    go_wp2_with fail
    go_ret
    exact ⟨ret_i64 HC.out, rfl⟩
theorem cadv_any (f r : Int) (w : World) (c : Int) (hc : advC f = c) (hf : 0 ≤ f ∧ f ≤ 2) : Calls Tryd.prog 68 #[.int .i64 f, .int .i32 r] w fun e w' => e = .returned (.int .i64 c) ∧ w = w' := by
  have hff : f = 0 ∨ f = 1 ∨ f = 2 := by omega
  clear hf
  rcases hff with rfl | rfl | rfl
  all_goals
    have H := Lib.hid hc
    clear hc
    go_enter Tryd.func68, Tryd.ntmps68
    go_wp2_with fail
    go_ret
    exact ⟨ret_i64 (by rw [← H.out]; rfl), rfl⟩
theorem cmod_any (x : Int) (w : World) (hx : 0 ≤ x ∧ x ≤ 1073741824) : Calls Tryd.prog 81 #[.int .i64 x, .int .i64 48] w fun e w' => e = .returned (.int .i64 (x % 48)) ∧ w = w' := by
  obtain ⟨h1, h2⟩ := hx
  go_enter Tryd.func81, Tryd.ntmps81
  go_wp2_with fail
  go_ret
  exact ⟨rfl, rfl⟩
theorem cnext_any (x : Int) (w : World) (hx : 0 ≤ x ∧ x ≤ 1073741824) : Calls Tryd.prog 70 #[.int .i64 x, .int .i64 48] w fun e w' => e = .returned (.int .i64 (x + (48 - x % 48))) ∧ w = w' := by
  have HM := Lib.hid (fun w => cmod_any x w hx)
  obtain ⟨h1, h2⟩ := hx
  obtain ⟨m, hm⟩ : ∃ m, x % 48 = m := ⟨_, rfl⟩
  have h3 : 0 ≤ m := by omega
  have h4 : m ≤ 47 := by omega
  rw [hm] at HM ⊢
  clear hm
  go_enter Tryd.func70, Tryd.ntmps70
  go_wp2_with fail
  refine (HM.out _).mono ?_
  rintro e w1 ⟨rfl, rfl⟩
  go_wp2_with fail
  go_ret
  exact ⟨rfl, rfl⟩
theorem cxwide_any (f : Int) (w : World) (c : Int) (hc : advC f = c) (hf : 0 ≤ f ∧ f ≤ 2) : Calls Tryd.prog 73 #[.int .i64 f] w fun e w' => e = .returned (.int .i64 c) ∧ w = w' := by
  have hff : f = 0 ∨ f = 1 ∨ f = 2 := by omega
  clear hf
  rcases hff with rfl | rfl | rfl
  all_goals
    have H := Lib.hid hc
    clear hc
    go_enter Tryd.func73, Tryd.ntmps73
    go_wp2_with fail
    go_ret
    exact ⟨ret_i64 (by rw [← H.out]; rfl), rfl⟩

/-! ### Width -/
set_option maxRecDepth 100000 in
set_option maxHeartbeats 1600000 in
theorem cwidth_any (a n r s x : Int) (w : World) (c : Int) (hc : widR r s x = c) (hr : I32s r) (hs : I64s s) (hx : I64s x) :
    Calls Tryd.prog 52 #[.agg #[.int .i64 a, .int .i64 n, .int .i32 r, .int .i64 s], .int .i64 x] w fun e w' => e = .returned (.int .i64 c) ∧ AnyLater w w' := by
  obtain ⟨r1, r2⟩ := hr
  by_cases h9 : r = 9
  · subst h9
    by_cases h1 : x < 0
    · have HC : Hid (0 = c) := Lib.hid (by rw [← hc]; unfold widR; rw [if_pos rfl, if_pos (.inl h1)])
      clear hc
      go_enter Tryd.func52, Tryd.ntmps52
      go_wp2_with fail
      go_ret
      exact ⟨ret_i64 HC.out, by repeat' (first | with_reducible assumption | with_reducible exact AnyLater.refl _ | with_reducible apply AnyLater.setCell | with_reducible apply AnyLater.later | with_reducible apply AnyLater.drewN | with_reducible apply AnyLater.drew | with_reducible apply AnyLater.alloc | ((try simp only [World.size_alloc, World.size_setCell, World.size_drew]); (try dsimp only); omega))⟩
    · by_cases h2 : 1073741824 < x
      · have HC : Hid (0 = c) := Lib.hid (by rw [← hc]; unfold widR; rw [if_pos rfl, if_pos (.inr h2)])
        have d1 : decide (x < 0) = false := decide_eq_false h1
        clear hc
        go_enter Tryd.func52, Tryd.ntmps52
        go_wp2_with fail
        go_ret
        exact ⟨ret_i64 HC.out, by repeat' (first | with_reducible assumption | with_reducible exact AnyLater.refl _ | with_reducible apply AnyLater.setCell | with_reducible apply AnyLater.later | with_reducible apply AnyLater.drewN | with_reducible apply AnyLater.drew | with_reducible apply AnyLater.alloc | ((try simp only [World.size_alloc, World.size_setCell, World.size_drew]); (try dsimp only); omega))⟩
      · have HC : Hid (48 - x % 48 = c) := Lib.hid (by rw [← hc]; unfold widR; rw [if_pos rfl, if_neg (by omega)])
        have HN := Lib.hid (fun w => cnext_any x w ⟨by omega, by omega⟩)
        have d1 : decide (x < 0) = false := decide_eq_false h1
        have d2 : decide (1073741824 < x) = false := decide_eq_false h2
        obtain ⟨m, hm⟩ : ∃ m, x % 48 = m := ⟨_, rfl⟩
        have h3 : 0 ≤ m := by omega
        have h4 : m ≤ 47 := by omega
        rw [hm] at HN HC
        clear hc hm
        go_enter Tryd.func52, Tryd.ntmps52
        go_wp2_with fail
        refine (HN.out _).mono ?_
        rintro e w1 ⟨rfl, rfl⟩
        go_wp2_with fail
        go_ret
        exact ⟨ret_i64 (by have := HC.out; omega), by repeat' (first | with_reducible assumption | with_reducible exact AnyLater.refl _ | with_reducible apply AnyLater.setCell | with_reducible apply AnyLater.later | with_reducible apply AnyLater.drewN | with_reducible apply AnyLater.drew | with_reducible apply AnyLater.alloc | ((try simp only [World.size_alloc, World.size_setCell, World.size_drew]); (try dsimp only); omega))⟩
  · have h9f : (r != 9) = true := by simpa using h9
    have HC : Hid (advC (faceS s) = c) := Lib.hid (by rw [← hc]; unfold widR; rw [if_neg h9])
    have hfs := faceS_in s
    have HF := Lib.hid (fun w => cface_any s w _ rfl hs)
    generalize faceS s = f at *
    have HA := Lib.hid (fun w => cadv_any f r w c HC.out hfs)
    clear hc h9
    obtain ⟨s1, s2⟩ := hs
    go_enter Tryd.func52, Tryd.ntmps52
    go_wp2_with fail
    first | refine settle_wp (fun wS => AnyLater w wS ∧ wS.heap[w.heap.size]? = some (.cells #[.int .i64 a, .int .i64 n, .int .i32 r, .int .i64 s] 63)) ?_ ?_ | refine settle_calls (fun wS => AnyLater w wS ∧ wS.heap[w.heap.size]? = some (.cells #[.int .i64 a, .int .i64 n, .int .i32 r, .int .i64 s] 63)) ?_ ?_
    · refine ⟨?_, ?_⟩
      · repeat' (first | with_reducible assumption | with_reducible exact AnyLater.refl _ | with_reducible apply AnyLater.setCell | with_reducible apply AnyLater.later | with_reducible apply AnyLater.drewN | with_reducible apply AnyLater.drew | with_reducible apply AnyLater.alloc | ((try simp only [World.size_alloc, World.size_setCell, World.size_drew]); (try dsimp only); omega))
      · ((repeat (first | with_reducible assumption | ((with_reducible apply heap_new); (try simp only [World.size_alloc, World.size_setCell, World.size_drew, World.heap_drewN]); done) | ((with_reducible apply heap_new); (try simp only [World.size_alloc, World.size_setCell, World.size_drew, World.heap_drewN]); omega) | (with_reducible refine heap_old (by (try simp only [World.size_alloc, World.size_setCell, World.size_drew, World.heap_drewN]); omega) ?_) | (with_reducible refine heap_drew ?_) | (with_reducible refine heap_far (by omega) ?_) | (with_reducible apply heap_at))); all_goals rfl)
    rintro w1 ⟨b_w1, s0_w1⟩
    have a_w1 := b_w1
    have r0_w1 := own_row s0_w1
    have f0_w1 := own_free s0_w1
    have l0_w1 := own_lt s0_w1
    have z_w1 := b_w1.below.size
    apply wp_region_mem (6) [] (by kernel_rfl) (by kernel_rfl) (by simp)
    case hstab =>
      intro e he v x y hxy hv
      simp only [List.mem_cons, List.not_mem_nil, or_false] at he
    case hlex =>
      intro U
      have q0 := fun (v : Later (later U)) => own_row (any_own ⟨v, rfl⟩ (any_own ⟨U, rfl⟩ s0_w1))
      simp only [absFrom, absOp, idx, List.map_cons, List.map_nil, List.contains_cons, List.contains_nil, Nat.reduceBEq, Bool.or_false, Bool.false_or, Bool.true_or, Bool.or_true, Bool.false_eq_true, Nat.reduceLeDiff, Nat.reduceAdd, if_false, if_true]
      repeat (go_big_quiet_step (first | (go_at_call 69; exact in_later_same (HF.out _)) | (go_at_call 68; exact in_later_same (HA.out _))))
      exact wpQuiet_nil rfl
    case hown =>
      intro e he o ho
      simp only [List.mem_cons, List.not_mem_nil, or_false] at he
    case htail =>
      intro g u hst hne
      have b_w2 : AnyLater w1 (later u) := ⟨u, rfl⟩
      generalize later u = w2 at *
      clear u
      clear hst hne
      simp only [fillAll, Act.put, List.setIfInBounds_toArray, List.set_cons_zero, List.set_cons_succ, List.drop_succ_cons, List.drop_zero]
      have z_w2 := b_w2.below.size
      have a_w2 := a_w1.trans b_w2
      have s0_w2 := any_own b_w2 s0_w1
      have r0_w2 := own_row s0_w2
      have f0_w2 := own_free s0_w2
      have l0_w2 := own_lt s0_w2
      (try clear r0_w1); (try clear f0_w1)
      go_wp2_with fail
      go_ret
      exact ⟨rfl, by repeat' (first | with_reducible assumption | with_reducible exact AnyLater.refl _ | with_reducible apply AnyLater.setCell | with_reducible apply AnyLater.later | with_reducible apply AnyLater.drewN | with_reducible apply AnyLater.drew | with_reducible apply AnyLater.alloc | ((try simp only [World.size_alloc, World.size_setCell, World.size_drew]); (try dsimp only); omega))⟩
set_option maxRecDepth 100000 in
set_option maxHeartbeats 1600000 in
theorem cxwidth_any (a n r s x : Int) (w : World) (c : Int) (hc : widR r s x = c) (hr : I32s r) (hs : I64s s) (hx : I64s x) :
    Calls Tryd.prog 60 #[.agg #[.int .i64 a, .int .i64 n, .int .i32 r, .int .i64 s], .int .i64 x] w fun e w' => e = .returned (.int .i64 c) ∧ AnyLater w w' := by
  obtain ⟨r1, r2⟩ := hr
  by_cases h9 : r = 9
  · subst h9
    by_cases h1 : x < 0
    · have HC : Hid (0 = c) := Lib.hid (by rw [← hc]; unfold widR; rw [if_pos rfl, if_pos (.inl h1)])
      clear hc
      go_enter Tryd.func60, Tryd.ntmps60
      go_wp2_with fail
      go_ret
      exact ⟨ret_i64 HC.out, by repeat' (first | with_reducible assumption | with_reducible exact AnyLater.refl _ | with_reducible apply AnyLater.setCell | with_reducible apply AnyLater.later | with_reducible apply AnyLater.drewN | with_reducible apply AnyLater.drew | with_reducible apply AnyLater.alloc | ((try simp only [World.size_alloc, World.size_setCell, World.size_drew]); (try dsimp only); omega))⟩
    · by_cases h2 : 1073741824 < x
      · have HC : Hid (0 = c) := Lib.hid (by rw [← hc]; unfold widR; rw [if_pos rfl, if_pos (.inr h2)])
        have d1 : decide (x < 0) = false := decide_eq_false h1
        clear hc
        go_enter Tryd.func60, Tryd.ntmps60
        go_wp2_with fail
        go_ret
        exact ⟨ret_i64 HC.out, by repeat' (first | with_reducible assumption | with_reducible exact AnyLater.refl _ | with_reducible apply AnyLater.setCell | with_reducible apply AnyLater.later | with_reducible apply AnyLater.drewN | with_reducible apply AnyLater.drew | with_reducible apply AnyLater.alloc | ((try simp only [World.size_alloc, World.size_setCell, World.size_drew]); (try dsimp only); omega))⟩
      · have HC : Hid (48 - x % 48 = c) := Lib.hid (by rw [← hc]; unfold widR; rw [if_pos rfl, if_neg (by omega)])
        have d1 : decide (x < 0) = false := decide_eq_false h1
        have d2 : decide (1073741824 < x) = false := decide_eq_false h2
        have h3 : 0 ≤ x := by omega
        clear hc
        go_enter Tryd.func60, Tryd.ntmps60
        go_wp2_with fail
        go_ret
        exact ⟨ret_i64 HC.out, by repeat' (first | with_reducible assumption | with_reducible exact AnyLater.refl _ | with_reducible apply AnyLater.setCell | with_reducible apply AnyLater.later | with_reducible apply AnyLater.drewN | with_reducible apply AnyLater.drew | with_reducible apply AnyLater.alloc | ((try simp only [World.size_alloc, World.size_setCell, World.size_drew]); (try dsimp only); omega))⟩
  · have h9f : (r != 9) = true := by simpa using h9
    have HC : Hid (advC (faceS s) = c) := Lib.hid (by rw [← hc]; unfold widR; rw [if_neg h9])
    have hfs := faceS_in s
    have HF := Lib.hid (fun w => refFaceS_any s w _ rfl hs)
    generalize faceS s = f at *
    have HA := Lib.hid (fun w => cxwide_any f w c HC.out hfs)
    clear hc h9
    obtain ⟨s1, s2⟩ := hs
    go_enter Tryd.func60, Tryd.ntmps60
    go_wp2_with fail
    refine (HF.out _).mono ?_
    rintro e w1 ⟨rfl, rfl⟩
    go_wp2_with fail
    refine (HA.out _).mono ?_
    rintro e w1 ⟨rfl, rfl⟩
    go_wp2_with fail
    go_ret
    exact ⟨rfl, by repeat' (first | with_reducible assumption | with_reducible exact AnyLater.refl _ | with_reducible apply AnyLater.setCell | with_reducible apply AnyLater.later | with_reducible apply AnyLater.drewN | with_reducible apply AnyLater.drew | with_reducible apply AnyLater.alloc | ((try simp only [World.size_alloc, World.size_setCell, World.size_drew]); (try dsimp only); omega))⟩

/-! ### Blank, Show -/
set_option maxRecDepth 100000 in
theorem cblank_any (a n r s : Int) (w : World) (c : Bool) (hc : decide (r = 9 ∨ r = 32) = c) :
    Calls Tryd.prog 53 #[.agg #[.int .i64 a, .int .i64 n, .int .i32 r, .int .i64 s]] w fun e w' => e = .returned (.bool c) ∧ AnyLater w w' := by
  by_cases h1 : r = 32
  · subst h1
    have HC : Hid (true = c) := Lib.hid (by rw [← hc]; rfl)
    clear hc
    go_enter Tryd.func53, Tryd.ntmps53
    go_wp2_with fail
    go_ret
    exact ⟨ret_bool HC.out, by repeat' (first | with_reducible assumption | with_reducible exact AnyLater.refl _ | with_reducible apply AnyLater.setCell | with_reducible apply AnyLater.later | with_reducible apply AnyLater.drewN | with_reducible apply AnyLater.drew | with_reducible apply AnyLater.alloc | ((try simp only [World.size_alloc, World.size_setCell, World.size_drew]); (try dsimp only); omega))⟩
  · have e1 : (r == 32) = false := by simpa using h1
    have HC : Hid ((r == 9) = c) := Lib.hid (by rw [← hc]; by_cases h2 : r = 9 <;> simp [h1, h2])
    generalize hb : (r == 9) = b at *
    clear hc h1
    go_enter Tryd.func53, Tryd.ntmps53
    go_wp2_with fail
    go_ret
    exact ⟨ret_bool HC.out, by repeat' (first | with_reducible assumption | with_reducible exact AnyLater.refl _ | with_reducible apply AnyLater.setCell | with_reducible apply AnyLater.later | with_reducible apply AnyLater.drewN | with_reducible apply AnyLater.drew | with_reducible apply AnyLater.alloc | ((try simp only [World.size_alloc, World.size_setCell, World.size_drew]); (try dsimp only); omega))⟩
def showC (r : Int) : Int := if r = 9 then 32 else r
end Go.Proofs.YteplnejnhgmfiaaDoor
