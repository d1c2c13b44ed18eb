/- seq: in which height a place lies: by contract. Up to 90000 heights. -/
import Derived.Test.YtjoadlfkdkeomaaSeqM
import Derived.Test.YtjoadlfkdkeomaaFree
import Derived.Test.YtjoadlfkdkeomaaClc
import Derived.Test.YtjoadlfkdkeomaaStor
import Derived.LoopN
import Derived.Deep.LoopGhost
import Derived.BigRegion
import Derived.RegionTactic
import Derived.Shelf.Abstract
import Derived.ChangeKeysEq
import Derived.Deep.DeepCutAuto
import Derived.Deep.CutBlock
namespace Go.Proofs.Ytjoadlfkdkeomaa
set_option linter.unusedSimpArgs false
set_option linter.unusedVariables false
set_option linter.unusedSectionVars false
open Go.RowKit

/-! ### in which a place lies -/
def tlV (k : Nat) (x : Int × Int) : Int := if k = 1 then x.1 else x.2
theorem tlC_cons {k : Nat} (hk : k = 1 ∨ k = 2) (x : Int × Int) (l : Qs) : tlC k (x :: l) = tlV k x + tlC k l := by
  rcases hk with rfl | rfl <;> rfl
theorem tlV_nonneg {k : Nat} {x : Int × Int} {l : Qs} (h : Tls (x :: l)) : 0 ≤ tlV k x := by
  have := h x (List.mem_cons_self ..)
  unfold tlV
  split <;> omega
theorem Tls.tail {x : Int × Int} {l : Qs} (h : Tls (x :: l)) : Tls l := fun y hy => h y (List.mem_cons_of_mem _ hy)
/-- the last one that has something, of which what is ahead is not above y, or the first one: its number, and how much all ahead of it are -/
def fdL (k : Nat) (y : Int) : Qs → Int → Int → Int → Int → Int × Int
  | [], _, b, t, _ => (b, t)
  | x :: l, i, b, t, s => if 0 < tlV k x ∧ (b < 0 ∨ s ≤ y) then fdL k y l (i + 1) i s (s + tlV k x) else fdL k y l (i + 1) b t (s + tlV k x)
theorem fdL_append {k : Nat} (hk : k = 1 ∨ k = 2) (y : Int) : ∀ (a m : Qs) (i b t s : Int), fdL k y (a ++ m) i b t s = fdL k y m (i + a.length) (fdL k y a i b t s).1 (fdL k y a i b t s).2 (s + tlC k a)
  | [], m, i, b, t, s => by simp [fdL, tlC_nil]
  | x :: a, m, i, b, t, s => by
    rw [List.cons_append, fdL, fdL, tlC_cons hk, List.length_cons]
    split
    · rw [fdL_append hk y a m, show i + 1 + (a.length : Int) = i + ((a.length + 1 : Nat) : Int) by omega, Int.add_assoc]
    · rw [fdL_append hk y a m, show i + 1 + (a.length : Int) = i + ((a.length + 1 : Nat) : Int) by omega, Int.add_assoc]
theorem fdL_none {k : Nat} (hk : k = 1 ∨ k = 2) (y : Int) : ∀ (a : Qs) (i b t s : Int), Tls a → tlC k a = 0 → fdL k y a i b t s = (b, t)
  | [], i, b, t, s, _, _ => rfl
  | x :: a, i, b, t, s, h, h0 => by
    have h1 := tlV_nonneg (k := k) h
    have h2 := h.tail.cnt k
    rw [tlC_cons hk] at h0
    rw [fdL, if_neg (by omega), fdL_none hk y a _ _ _ _ h.tail (by omega)]
theorem fdL_past {k : Nat} (y : Int) : ∀ (a : Qs) (i b t s : Int), Tls a → y < s → 0 ≤ b → fdL k y a i b t s = (b, t)
  | [], i, b, t, s, _, _, _ => rfl
  | x :: a, i, b, t, s, h, h0, hb => by
    have h1 := tlV_nonneg (k := k) h
    rw [fdL, if_neg (by omega), fdL_past y a _ _ _ _ h.tail (by omega) hb]
theorem fdL_found {k : Nat} (hk : k = 1 ∨ k = 2) (y : Int) (pre post : Qs) (x : Int × Int) (h : Tls (pre ++ x :: post)) (c : Int) (hc : clcClamp y 0 (tlC k (pre ++ x :: post) - 1) = c) (h1 : tlC k pre ≤ c) (h2 : c < tlC k (pre ++ [x])) :
    fdL k y (pre ++ x :: post) 0 (-1) 0 0 = ((pre.length : Int), tlC k pre) := by
  have e : tlC k (pre ++ x :: post) = tlC k pre + (tlV k x + tlC k post) := by rw [tlC_append, tlC_cons hk]
  have e2 : tlC k (pre ++ [x]) = tlC k pre + tlV k x := by rw [tlC_append, tlC_cons hk, tlC_nil]; omega
  have hp := h.left.cnt k
  have hq := h.right.tail.cnt k
  rw [e] at hc
  rw [e2] at h2
  rw [fdL_append hk, fdL]
  have hx : 0 < tlV k x := by omega
  unfold clcClamp at hc
  by_cases hy : y < 0
  · rw [if_pos (.inl hy)] at hc
    have hz : tlC k pre = 0 := by omega
    rw [fdL_none hk y pre _ _ _ _ h.left hz, if_pos ⟨hx, .inl (by decide)⟩, fdL_past y post _ _ _ _ h.right.tail (by omega) (by omega)]
    simp
  · rw [if_neg (by omega)] at hc
    have hcy : c ≤ y := by
      split at hc <;> omega
    rw [if_pos ⟨hx, .inr (by omega)⟩]
    by_cases hl : tlC k pre + (tlV k x + tlC k post) - 1 < y
    · rw [if_pos hl] at hc
      rw [fdL_none hk y post _ _ _ _ h.right.tail (by omega)]
      simp
    · rw [if_neg hl] at hc
      rw [fdL_past y post _ _ _ _ h.right.tail (by omega) (by omega)]
      simp
theorem lies_in {k : Nat} (hk : k = 1 ∨ k = 2) : ∀ (l : Qs) (c : Int), Tls l → 0 ≤ c → c < tlC k l → ∃ pre x post, l = pre ++ x :: post ∧ tlC k pre ≤ c ∧ c < tlC k (pre ++ [x])
  | [], c, _, h0, h1 => by rw [tlC_nil] at h1; omega
  | x :: l, c, h, h0, h1 => by
    rw [tlC_cons hk] at h1
    by_cases hx : c < tlV k x
    · exact ⟨[], x, l, rfl, by rw [tlC_nil]; exact h0, by rw [List.nil_append, tlC_cons hk, tlC_nil]; omega⟩
    · obtain ⟨pre, z, post, e, h3, h4⟩ := lies_in hk l (c - tlV k x) h.tail (by omega) (by omega)
      exact ⟨x :: pre, z, post, by rw [e]; rfl, by rw [tlC_cons hk]; omega, by rw [List.cons_append, tlC_cons hk]; omega⟩
/-- what is known while some of a find's acts have been done: its two boxes -/
structure InvF (W : World) (m R H : Int) (L : Nat → Bool) (g : Nat → Value) (x : World) : Prop where
  any : AnyLater W x
  e13 : L 13 = true → ∃ b, g 13 = .pointer (some ⟨b, 0, none⟩) ∧ W.heap.size ≤ b ∧ ∃ u v, x.heap[b]? = some (.cells #[u, v] 33)
  e14 : L 14 = true → ∃ b, g 14 = .pointer (some ⟨b, 0, none⟩) ∧ W.heap.size ≤ b ∧ ∃ a1 a2 a3, x.heap[b]? = some (.cells #[a1, a2, a3] 96) ∧ (L 16 = true → a1 = .int .i64 m ∧ a2 = .int .i64 R ∧ a3 = .int .i64 H)
  o16 : L 16 = true → L 14 = true
section
variable {W x y : World} {m R H : Int} {L L' : Nat → Bool} {g : Nat → Value}
theorem InvF.init (h : AnyLater W x) : InvF W m R H (fun _ => false) (fun _ => undef) x := ⟨h, (fun h => by cases h), (fun h => by cases h), (fun h => by cases h)⟩
theorem InvF.cong (h : InvF W m R H L g x) (a : L 13 = L' 13) (b : L 14 = L' 14) (c : L 16 = L' 16) : InvF W m R H L' g x := ⟨h.any, by rw [← a]; exact h.e13, by rw [← b, ← c]; exact h.e14, by rw [← b, ← c]; exact h.o16⟩
theorem InvF.later (h : InvF W m R H L g x) (a : AnyLater x y) : InvF W m R H L g y :=
  ⟨h.any.trans a, fun q => by obtain ⟨b, e1, e2, u, v, e3⟩ := h.e13 q; exact ⟨b, e1, e2, u, v, any_own a e3⟩, fun q => by obtain ⟨b, e1, e2, u, v, z, e3, e4⟩ := h.e14 q; exact ⟨b, e1, e2, u, v, z, any_own a e3, e4⟩, h.o16⟩
theorem InvF.skip {k : Nat} (h : InvF W m R H L g x) (h1 : 13 ≠ k) (h2 : 14 ≠ k) (h3 : 16 ≠ k) (u : Value) : InvF W m R H (fun i => if i = k then true else L i) (fun i => if i = k then u else g i) x :=
  ⟨h.any, by simp only [if_neg h1]; exact h.e13, by simp only [if_neg h2, if_neg h3]; exact h.e14, by simp only [if_neg h2, if_neg h3]; exact h.o16⟩
theorem InvF.s13 (h : InvF W m R H L g x) : InvF W m R H (fun i => if i = 13 then true else L i) (fun i => if i = 13 then .pointer (some ⟨x.heap.size, 0, none⟩) else g i) (x.alloc (.cells #[.int .i64 0, .int .i64 0] 33)) := by
  have k := h.later ((AnyLater.refl x).alloc (.cells #[.int .i64 0, .int .i64 0] 33))
  exact ⟨k.any, fun _ => ⟨_, rfl, h.any.below.size, _, _, heap_new rfl⟩, k.e14, k.o16⟩
theorem InvF.s14 (h : InvF W m R H L g x) (h0 : L 14 = false) : InvF W m R H (fun i => if i = 14 then true else L i) (fun i => if i = 14 then .pointer (some ⟨x.heap.size, 0, none⟩) else g i) (x.alloc (.cells #[.int .i64 0, .int .i64 0, .int .i64 0] 96)) := by
  have k := h.later ((AnyLater.refl x).alloc (.cells #[.int .i64 0, .int .i64 0, .int .i64 0] 96))
  refine ⟨k.any, k.e13, fun _ => ⟨_, rfl, h.any.below.size, _, _, _, heap_new rfl, fun q => ?_⟩, fun _ => rfl⟩
  have := h.o16 q
  rw [h0] at this
  cases this
theorem InvF.s15 {b : Nat} {u v p q : Value} (h : InvF W m R H L g x) (hb : W.heap.size ≤ b) (hk : x.heap[b]? = some (.cells #[u, v] 33)) : InvF W m R H (fun i => if i = 15 then true else L i) (fun i => if i = 15 then undef else g i) ((x.setCell ⟨b, 0, none⟩ p).setCell ⟨b, 1, none⟩ q) := by
  refine ⟨(h.any.setCell (p := ⟨b, 0, none⟩) hb _).setCell (p := ⟨b, 1, none⟩) hb _, fun hl => ?_, fun hl => ?_, h.o16⟩
  · obtain ⟨c, e1, e2, u', v', e3⟩ := h.e13 hl
    by_cases hc : c = b
    · subst hc
      rw [hk] at e3
      exact ⟨c, e1, e2, _, _, heap_at (heap_at hk rfl) rfl⟩
    · exact ⟨c, e1, e2, u', v', heap_far hc (heap_far hc e3)⟩
  · obtain ⟨c, e1, e2, u', v', z', e3, e4⟩ := h.e14 hl
    have hc : c ≠ b := fun e => by
      subst e
      rw [hk] at e3
      cases e3
    exact ⟨c, e1, e2, u', v', z', heap_far hc (heap_far hc e3), e4⟩
theorem InvF.s16 {b : Nat} {a1 a2 a3 : Value} (h : InvF W m R H L g x) (h14 : L 14 = true) (hg : g 14 = .pointer (some ⟨b, 0, none⟩)) (hb : W.heap.size ≤ b) (hk : x.heap[b]? = some (.cells #[a1, a2, a3] 96)) : InvF W m R H (fun i => if i = 16 then true else L i) (fun i => if i = 16 then undef else g i) (((x.setCell ⟨b, 0, none⟩ (.int .i64 m)).setCell ⟨b, 1, none⟩ (.int .i64 R)).setCell ⟨b, 2, none⟩ (.int .i64 H)) := by
  refine ⟨((h.any.setCell (p := ⟨b, 0, none⟩) hb _).setCell (p := ⟨b, 1, none⟩) hb _).setCell (p := ⟨b, 2, none⟩) hb _, fun hl => ?_, fun _ => ?_, fun _ => h14⟩
  · obtain ⟨c, e1, e2, u', v', e3⟩ := h.e13 hl
    have hc : c ≠ b := fun e => by
      subst e
      rw [hk] at e3
      cases e3
    exact ⟨c, e1, e2, u', v', heap_far hc (heap_far hc (heap_far hc e3))⟩
  · exact ⟨b, hg, hb, _, _, _, heap_at (heap_at (heap_at hk rfl) rfl) rfl, fun _ => ⟨rfl, rfl, rfl⟩⟩
end
set_option maxRecDepth 100000 in
theorem sqfind_none1 (v : Value) (t : Ht) (y : Int) (w : World) (h : IsQN w v t) (hf : t.Fit) (h0 : tlC 1 t.hs = 0) : Calls Try.prog 58 #[v, .int .i64 y, .int .i64 1] w fun e w' => e = .returned (.tuple #[.int .i64 (-1), .int .i64 0]) ∧ AnyLater w w' := by
  have HC := Lib.hid (sqcounted_any v t w h hf)
  have h1 : tlR t.hs = 0 := h0
  rw [h1] at HC
  have i1 := cidx1
  clear h hf h0 h1
  go_enter Try.func58, Try.ntmps58
  go_wp2_with fail
  refine HC.out.mono ?_
  rintro e w1 ⟨rfl, b1⟩
  have HB := Lib.hid b1
  clear b1
  go_wp2_with fail
  refine bodyPost_ret (v := .tuple #[.int .i64 (-1), .int .i64 0]) (by simp [results, Try.results58, go_sem, *]) rfl ⟨rfl, ?_⟩
  exact HB.out
set_option maxRecDepth 100000 in
set_option maxHeartbeats 1600000 in
theorem sqfind_some1 (g : Nat) (t : Ht) (y : Int) (w : World) (h : IsQ w g t) (hf : t.Fit) (h0 : 0 < tlC 1 t.hs) (r : Int × Int) (hr : fdL 1 y t.hs 0 (-1) 0 0 = r) : Calls Try.prog 58 #[.pointer (some ⟨g, 0, none⟩), .int .i64 y, .int .i64 1] w fun e w' => e = .returned (.tuple #[.int .i64 r.1, .int .i64 r.2]) ∧ AnyLater w w' := by
  have HC := Lib.hid (sqcounted_any _ t w h.nil_or hf)
  obtain ⟨c, hc⟩ : ∃ c, clcClamp y 0 (tlC 1 t.hs - 1) = c := ⟨_, rfl⟩
  have hc0 : 0 ≤ c ∧ c < tlC 1 t.hs := by
    rw [← hc]
    unfold clcClamp
    split
    · omega
    · split <;> omega
  have hb := hf.sums
  obtain ⟨pre, x, post, e, h1, h2⟩ := lies_in (k := 1) (by decide) t.hs c hf.tls hc0.1 hc0.2
  have hr2 : ((pre.length : Int), tlC 1 pre) = r := by
    rw [← hr, e]
    exact (fdL_found (by decide) y pre post x (by rw [← e]; exact hf.tls) c (by rw [← e]; exact hc) h1 h2).symm
  have HK := Lib.hid (fun (w' : World) => same_later (clcClamp_any y 0 (tlC 1 t.hs - 1) w' c hc))
  obtain ⟨rv, F, hg, ht⟩ := h
  have HS := Lib.hid (fun (w' : World) (a : AnyLater w w') => hseek1 t rv c pre post x.1 x.2 w' (ht.later a).is0 hf e h1 h2)
  obtain ⟨q, rfl⟩ := ht.ptr
  have hT : tlC 1 t.hs = tlR t.hs := rfl
  rw [hT] at HK h0
  have hP : tlC 1 pre = tlR pre := rfl
  rw [hP] at hr2
  have HR := Lib.hid hr2
  have s0_w := hg
  have r0_w := own_row hg
  have f0_w := own_free hg
  have l0_w := own_lt hg
  have i1 := cidx1
  have hz : ((tlR t.hs : Int) == 0) = false := by simp; omega
  have hne : decide (tlR t.hs = 0) = false := decide_eq_false (by omega)
  have hb2 : tlR t.hs ≤ 2000000000000 := by omega
  clear ht hf hg e hr hr2 hc hc0 h1 h2 hT hP hb
  generalize x.1 = x1 at *
  generalize x.2 = x2 at *
  generalize pre.length = m at *
  generalize tlR pre = R at *
  generalize tlH pre = H at *
  generalize t.hs.length = n at *
  generalize tlR t.hs = R0 at *
  generalize tlH t.hs = H0 at *
  have hw : IntKind.i64.wrap (R0 - 1) = R0 - 1 := by rw [IntKind.wrap_i64]; omega
  go_enter Try.func58, Try.ntmps58
  go_wp2_with fail
  refine (HC.out).mono ?_
  rintro e w1 ⟨rfl, b_w1⟩
  have z_w1 := b_w1.below.size
  have a_w1 := b_w1
  have s0_w1 := any_own b_w1 s0_w
  have r0_w1 := own_row s0_w1
  have f0_w1 := own_free s0_w1
  have l0_w1 := own_lt s0_w1
  (try clear r0_w); (try clear f0_w)
  go_wp2_with fail
  apply Whole.wp_region_st (AnyLater w1) 17 [(7, .int .i64 c), (9, .tuple #[.agg #[.int .i64 x1, .int .i64 x2], .agg #[.int .i64 (m : Int), .int .i64 R, .int .i64 H]]), (13, undef), (14, undef), (15, undef), (16, undef)] [⟨13, 9, fun _ _ => True⟩, ⟨14, 10, fun _ _ => True⟩] (InvF w1 (m : Int) R H) (by kernel_rfl) (by kernel_rfl) (by kernel_rfl) (by simp) (by kernel_rfl) (fun L g x h => h.any)
  case hcong => exact fun L L' g y hc hI => hI.cong (hc _ (List.mem_of_getElem? (i := 2) rfl)) (hc _ (List.mem_of_getElem? (i := 3) rfl)) (hc _ (List.mem_of_getElem? (i := 5) rfl))
  case h0 => exact InvF.init (AnyLater.refl _).drew
  case hlex =>
    intro U hU
    have q0 := own_row (any_own hU s0_w1)
    simp only [actFrom, actOp, List.lookup, Nat.reduceBEq, Nat.reduceLeDiff, Nat.reduceAdd, if_false, if_true]
    repeat (go_big_quiet_step (fail))
    exact wpQuiet_nil rfl
  case hact =>
    intro jj hjj o ho
    have hj6 : jj = 0 ∨ jj = 1 ∨ jj = 2 ∨ jj = 3 ∨ jj = 4 ∨ jj = 5 := by simp at hjj; omega
    rcases hj6 with rfl | rfl | rfl | rfl | rfl | rfl
    · cases ho
      refine ⟨rfl, fun L g x hI hL hS => ?_⟩
      clear hS
      simp only [fillAll, Act.put, List.setIfInBounds_toArray, List.set_cons_zero, List.set_cons_succ]
      refine chain_go ?_ ((HK.out x).mono fun e x' h1 => ⟨_, h1.1, .inr (.inr rfl), (hI.later h1.2).skip (k := 7) (by decide) (by decide) (by decide) _⟩)
      simp [go_sem, execOp, hw]
    · cases ho
      refine ⟨rfl, fun L g x hI hL hS => ?_⟩
      clear hS
      simp only [fillAll, Act.put, List.setIfInBounds_toArray, List.set_cons_zero, List.set_cons_succ]
      refine chain_go ?_ ((HS.out x (a_w1.trans hI.any)).mono fun e x' h1 => ⟨_, h1.1, .inr (.inr rfl), (hI.later h1.2).skip (k := 9) (by decide) (by decide) (by decide) _⟩)
      simp [go_sem, execOp]
    · cases ho
      refine ⟨rfl, fun L g x hI hL hS => ?_⟩
      clear hS
      exact chain_value (w' := x.alloc (.cells #[.int .i64 0, .int .i64 0] 33)) (by simp [go_sem, execOp]) ⟨.inl ⟨_, List.mem_of_getElem? (i := 0) rfl, rfl⟩, hI.s13⟩
    · cases ho
      refine ⟨rfl, fun L g x hI hL hS => ?_⟩
      clear hS
      exact chain_value (w' := x.alloc (.cells #[.int .i64 0, .int .i64 0, .int .i64 0] 96)) (by simp [go_sem, execOp]) ⟨.inl ⟨_, List.mem_of_getElem? (i := 1) rfl, rfl⟩, hI.s14 hL⟩
    · cases ho
      refine ⟨rfl, fun L g x hI hL hS => ?_⟩
      have h13 := hS _ (List.mem_of_getElem? (i := 0) rfl) (List.contains_iff_mem.1 (by kernel_rfl))
      clear hS
      obtain ⟨b, e1, e2, u, v, e3⟩ := hI.e13 h13
      have q0 := own_row e3
      have q1 := own_free e3
      simp only [fillAll, Act.put, List.setIfInBounds_toArray, List.set_cons_zero, List.set_cons_succ]
      refine Whole.chain_skip (w' := (x.setCell ⟨b, 0, none⟩ (.int .i64 x1)).setCell ⟨b, 1, none⟩ (.int .i64 x2)) ?_ ⟨.inr (.inl trivial), hI.s15 e2 e3⟩
      simp [go_sem, execOp, e1, q0, q1]
    · cases ho
      refine ⟨rfl, fun L g x hI hL hS => ?_⟩
      have h14 := hS _ (List.mem_of_getElem? (i := 1) rfl) (List.contains_iff_mem.1 (by kernel_rfl))
      clear hS
      obtain ⟨b, e1, e2, a1, a2, a3, e3, -⟩ := hI.e14 h14
      have q0 := own_row e3
      have q1 := own_free e3
      simp only [fillAll, Act.put, List.setIfInBounds_toArray, List.set_cons_zero, List.set_cons_succ]
      refine Whole.chain_skip (w' := ((x.setCell ⟨b, 0, none⟩ (.int .i64 (m : Int))).setCell ⟨b, 1, none⟩ (.int .i64 R)).setCell ⟨b, 2, none⟩ (.int .i64 H)) ?_ ⟨.inr (.inl trivial), hI.s16 h14 e1 e2 e3⟩
      simp [go_sem, execOp, e1, q0, q1]
  case htail =>
    intro L g x hI hall
    obtain ⟨b, e1, e2, a1, a2, a3, e3, e4⟩ := hI.e14 (hall _ (List.mem_of_getElem? (i := 3) rfl))
    obtain ⟨rfl, rfl, rfl⟩ := e4 (hall _ (List.mem_of_getElem? (i := 5) rfl))
    have a_wc := a_w1.trans hI.any
    have r0_wc := own_row e3
    have l0_wc := own_lt e3
    clear hI hall e3
    simp only [fillAll, Act.put, List.setIfInBounds_toArray, List.set_cons_zero, List.set_cons_succ, List.drop_succ_cons, List.drop_zero, List.drop_nil]
    rw [e1]
    generalize g 13 = u9 at *
    clear e1
    go_wp2_with fail
    go_quiet (fail)
    go_wp2_with fail
    refine bodyPost_ret (v := .tuple #[.int .i64 (m : Int), .int .i64 R]) (by simp [results, Try.results58, go_sem, *]) rfl ⟨?_, ?_⟩
    · rw [← HR.out]
    · repeat' (first | with_reducible assumption | with_reducible exact AnyLater.refl _ | with_reducible apply AnyLater.setCell | with_reducible apply AnyLater.later | with_reducible apply AnyLater.drewN | with_reducible apply AnyLater.drew | with_reducible apply AnyLater.alloc | ((try simp only [World.size_alloc, World.size_setCell, World.size_drew]); (try dsimp only); omega))
set_option maxRecDepth 100000 in
theorem sqfind_none2 (v : Value) (t : Ht) (y : Int) (w : World) (h : IsQN w v t) (hf : t.Fit) (h0 : tlC 2 t.hs = 0) : Calls Try.prog 58 #[v, .int .i64 y, .int .i64 2] w fun e w' => e = .returned (.tuple #[.int .i64 (-1), .int .i64 0]) ∧ AnyLater w w' := by
  have HC := Lib.hid (sqcounted_any v t w h hf)
  have h1 : tlH t.hs = 0 := h0
  rw [h1] at HC
  have i1 := cidx2
  clear h hf h0 h1
  go_enter Try.func58, Try.ntmps58
  go_wp2_with fail
  refine HC.out.mono ?_
  rintro e w1 ⟨rfl, b1⟩
  have HB := Lib.hid b1
  clear b1
  go_wp2_with fail
  refine bodyPost_ret (v := .tuple #[.int .i64 (-1), .int .i64 0]) (by simp [results, Try.results58, go_sem, *]) rfl ⟨rfl, ?_⟩
  exact HB.out
set_option maxRecDepth 100000 in
set_option maxHeartbeats 1600000 in
theorem sqfind_some2 (g : Nat) (t : Ht) (y : Int) (w : World) (h : IsQ w g t) (hf : t.Fit) (h0 : 0 < tlC 2 t.hs) (r : Int × Int) (hr : fdL 2 y t.hs 0 (-1) 0 0 = r) : Calls Try.prog 58 #[.pointer (some ⟨g, 0, none⟩), .int .i64 y, .int .i64 2] w fun e w' => e = .returned (.tuple #[.int .i64 r.1, .int .i64 r.2]) ∧ AnyLater w w' := by
  have HC := Lib.hid (sqcounted_any _ t w h.nil_or hf)
  obtain ⟨c, hc⟩ : ∃ c, clcClamp y 0 (tlC 2 t.hs - 1) = c := ⟨_, rfl⟩
  have hc0 : 0 ≤ c ∧ c < tlC 2 t.hs := by
    rw [← hc]
    unfold clcClamp
    split
    · omega
    · split <;> omega
  have hb := hf.sums
  obtain ⟨pre, x, post, e, h1, h2⟩ := lies_in (k := 2) (by decide) t.hs c hf.tls hc0.1 hc0.2
  have hr2 : ((pre.length : Int), tlC 2 pre) = r := by
    rw [← hr, e]
    exact (fdL_found (by decide) y pre post x (by rw [← e]; exact hf.tls) c (by rw [← e]; exact hc) h1 h2).symm
  have HK := Lib.hid (fun (w' : World) => same_later (clcClamp_any y 0 (tlC 2 t.hs - 1) w' c hc))
  obtain ⟨rv, F, hg, ht⟩ := h
  have HS := Lib.hid (fun (w' : World) (a : AnyLater w w') => hseek2 t rv c pre post x.1 x.2 w' (ht.later a).is0 hf e h1 h2)
  obtain ⟨q, rfl⟩ := ht.ptr
  have hT : tlC 2 t.hs = tlH t.hs := rfl
  rw [hT] at HK h0
  have hP : tlC 2 pre = tlH pre := rfl
  rw [hP] at hr2
  have HR := Lib.hid hr2
  have s0_w := hg
  have r0_w := own_row hg
  have f0_w := own_free hg
  have l0_w := own_lt hg
  have i1 := cidx2
  have hz : ((tlH t.hs : Int) == 0) = false := by simp; omega
  have hne : decide (tlH t.hs = 0) = false := decide_eq_false (by omega)
  have hb2 : tlH t.hs ≤ 2000000000000 := by omega
  clear ht hf hg e hr hr2 hc hc0 h1 h2 hT hP hb
  generalize x.1 = x1 at *
  generalize x.2 = x2 at *
  generalize pre.length = m at *
  generalize tlR pre = R at *
  generalize tlH pre = H at *
  generalize t.hs.length = n at *
  generalize tlR t.hs = R0 at *
  generalize tlH t.hs = H0 at *
  have hw : IntKind.i64.wrap (H0 - 1) = H0 - 1 := by rw [IntKind.wrap_i64]; omega
  go_enter Try.func58, Try.ntmps58
  go_wp2_with fail
  refine (HC.out).mono ?_
  rintro e w1 ⟨rfl, b_w1⟩
  have z_w1 := b_w1.below.size
  have a_w1 := b_w1
  have s0_w1 := any_own b_w1 s0_w
  have r0_w1 := own_row s0_w1
  have f0_w1 := own_free s0_w1
  have l0_w1 := own_lt s0_w1
  (try clear r0_w); (try clear f0_w)
  go_wp2_with fail
  apply Whole.wp_region_st (AnyLater w1) 17 [(7, .int .i64 c), (9, .tuple #[.agg #[.int .i64 x1, .int .i64 x2], .agg #[.int .i64 (m : Int), .int .i64 R, .int .i64 H]]), (13, undef), (14, undef), (15, undef), (16, undef)] [⟨13, 9, fun _ _ => True⟩, ⟨14, 10, fun _ _ => True⟩] (InvF w1 (m : Int) R H) (by kernel_rfl) (by kernel_rfl) (by kernel_rfl) (by simp) (by kernel_rfl) (fun L g x h => h.any)
  case hcong => exact fun L L' g y hc hI => hI.cong (hc _ (List.mem_of_getElem? (i := 2) rfl)) (hc _ (List.mem_of_getElem? (i := 3) rfl)) (hc _ (List.mem_of_getElem? (i := 5) rfl))
  case h0 => exact InvF.init (AnyLater.refl _).drew
  case hlex =>
    intro U hU
    have q0 := own_row (any_own hU s0_w1)
    simp only [actFrom, actOp, List.lookup, Nat.reduceBEq, Nat.reduceLeDiff, Nat.reduceAdd, if_false, if_true]
    repeat (go_big_quiet_step (fail))
    exact wpQuiet_nil rfl
  case hact =>
    intro jj hjj o ho
    have hj6 : jj = 0 ∨ jj = 1 ∨ jj = 2 ∨ jj = 3 ∨ jj = 4 ∨ jj = 5 := by simp at hjj; omega
    rcases hj6 with rfl | rfl | rfl | rfl | rfl | rfl
    · cases ho
      refine ⟨rfl, fun L g x hI hL hS => ?_⟩
      clear hS
      simp only [fillAll, Act.put, List.setIfInBounds_toArray, List.set_cons_zero, List.set_cons_succ]
      refine chain_go ?_ ((HK.out x).mono fun e x' h1 => ⟨_, h1.1, .inr (.inr rfl), (hI.later h1.2).skip (k := 7) (by decide) (by decide) (by decide) _⟩)
      simp [go_sem, execOp, hw]
    · cases ho
      refine ⟨rfl, fun L g x hI hL hS => ?_⟩
      clear hS
      simp only [fillAll, Act.put, List.setIfInBounds_toArray, List.set_cons_zero, List.set_cons_succ]
      refine chain_go ?_ ((HS.out x (a_w1.trans hI.any)).mono fun e x' h1 => ⟨_, h1.1, .inr (.inr rfl), (hI.later h1.2).skip (k := 9) (by decide) (by decide) (by decide) _⟩)
      simp [go_sem, execOp]
    · cases ho
      refine ⟨rfl, fun L g x hI hL hS => ?_⟩
      clear hS
      exact chain_value (w' := x.alloc (.cells #[.int .i64 0, .int .i64 0] 33)) (by simp [go_sem, execOp]) ⟨.inl ⟨_, List.mem_of_getElem? (i := 0) rfl, rfl⟩, hI.s13⟩
    · cases ho
      refine ⟨rfl, fun L g x hI hL hS => ?_⟩
      clear hS
      exact chain_value (w' := x.alloc (.cells #[.int .i64 0, .int .i64 0, .int .i64 0] 96)) (by simp [go_sem, execOp]) ⟨.inl ⟨_, List.mem_of_getElem? (i := 1) rfl, rfl⟩, hI.s14 hL⟩
    · cases ho
      refine ⟨rfl, fun L g x hI hL hS => ?_⟩
      have h13 := hS _ (List.mem_of_getElem? (i := 0) rfl) (List.contains_iff_mem.1 (by kernel_rfl))
      clear hS
      obtain ⟨b, e1, e2, u, v, e3⟩ := hI.e13 h13
      have q0 := own_row e3
      have q1 := own_free e3
      simp only [fillAll, Act.put, List.setIfInBounds_toArray, List.set_cons_zero, List.set_cons_succ]
      refine Whole.chain_skip (w' := (x.setCell ⟨b, 0, none⟩ (.int .i64 x1)).setCell ⟨b, 1, none⟩ (.int .i64 x2)) ?_ ⟨.inr (.inl trivial), hI.s15 e2 e3⟩
      simp [go_sem, execOp, e1, q0, q1]
    · cases ho
      refine ⟨rfl, fun L g x hI hL hS => ?_⟩
      have h14 := hS _ (List.mem_of_getElem? (i := 1) rfl) (List.contains_iff_mem.1 (by kernel_rfl))
      clear hS
      obtain ⟨b, e1, e2, a1, a2, a3, e3, -⟩ := hI.e14 h14
      have q0 := own_row e3
      have q1 := own_free e3
      simp only [fillAll, Act.put, List.setIfInBounds_toArray, List.set_cons_zero, List.set_cons_succ]
      refine Whole.chain_skip (w' := ((x.setCell ⟨b, 0, none⟩ (.int .i64 (m : Int))).setCell ⟨b, 1, none⟩ (.int .i64 R)).setCell ⟨b, 2, none⟩ (.int .i64 H)) ?_ ⟨.inr (.inl trivial), hI.s16 h14 e1 e2 e3⟩
      simp [go_sem, execOp, e1, q0, q1]
  case htail =>
    intro L g x hI hall
    obtain ⟨b, e1, e2, a1, a2, a3, e3, e4⟩ := hI.e14 (hall _ (List.mem_of_getElem? (i := 3) rfl))
    obtain ⟨rfl, rfl, rfl⟩ := e4 (hall _ (List.mem_of_getElem? (i := 5) rfl))
    have a_wc := a_w1.trans hI.any
    have r0_wc := own_row e3
    have l0_wc := own_lt e3
    clear hI hall e3
    simp only [fillAll, Act.put, List.setIfInBounds_toArray, List.set_cons_zero, List.set_cons_succ, List.drop_succ_cons, List.drop_zero, List.drop_nil]
    rw [e1]
    generalize g 13 = u9 at *
    clear e1
    go_wp2_with fail
    go_quiet (fail)
    go_wp2_with fail
    refine bodyPost_ret (v := .tuple #[.int .i64 (m : Int), .int .i64 H]) (by simp [results, Try.results58, go_sem, *]) rfl ⟨?_, ?_⟩
    · rw [← HR.out]
    · repeat' (first | with_reducible assumption | with_reducible exact AnyLater.refl _ | with_reducible apply AnyLater.setCell | with_reducible apply AnyLater.later | with_reducible apply AnyLater.drewN | with_reducible apply AnyLater.drew | with_reducible apply AnyLater.alloc | ((try simp only [World.size_alloc, World.size_setCell, World.size_drew]); (try dsimp only); omega))
set_option maxRecDepth 100000 in
theorem sqFind_any (v : Value) (t : Ht) (y : Int) (w : World) (r : Int × Int) (hr : fdL 2 y t.hs 0 (-1) 0 0 = r) (h : IsQN w v t) (hf : t.Fit) : Calls Try.prog 47 #[v, .int .i64 y] w fun e w' => e = .returned (.tuple #[.int .i64 r.1, .int .i64 r.2]) ∧ AnyLater w w' := by
  have HC : Hid (Calls Try.prog 58 #[v, .int .i64 y, .int .i64 2] w fun e w' => e = .returned (.tuple #[.int .i64 r.1, .int .i64 r.2]) ∧ AnyLater w w') := Lib.hid (by
    by_cases h0 : tlC 2 t.hs = 0
    · rw [fdL_none (.inr rfl) y t.hs _ _ _ _ hf.tls h0] at hr
      subst hr
      exact sqfind_none2 v t y w h hf h0
    · have h1 := hf.tls.cnt 2
      rcases h with ⟨-, e⟩ | ⟨g, rfl, h⟩
      · rw [e] at h0; exact absurd rfl h0
      · exact sqfind_some2 g t y w h hf (by omega) r hr)
  clear h hf hr
  generalize r.1 = r1 at *
  generalize r.2 = r2 at *
  go_enter Try.func47, Try.ntmps47
  go_wp2_with fail
  refine HC.out.mono ?_
  rintro e w1 ⟨rfl, b1⟩
  have HB := Lib.hid b1
  clear b1
  go_wp2_with fail
  refine bodyPost_ret (v := .tuple #[.int .i64 r1, .int .i64 r2]) (by simp [results, Try.results47, go_sem]) rfl ⟨rfl, ?_⟩
  exact HB.out
/-! ### Check -/
end Go.Proofs.Ytjoadlfkdkeomaa
