/- seq: what lies ahead of a place and behind it; heights put in place of others: by contract. Trees of up to 90000 heights. -/
import Derived.Test.YtjoadlfkdkeomaaSeqG
import Derived.Test.YtjoadlfkdkeomaaFree
import Derived.LoopN
import Derived.Deep.LoopGhost
import Derived.BigRegion
import Derived.RegionTactic
namespace Go.Proofs.Ytjoadlfkdkeomaa
set_option linter.unusedSimpArgs false
set_option linter.unusedVariables false
set_option linter.unusedSectionVars false
open Go.RowKit
variable {B : Nat}

/-- what ahead and behind answer: a tree and a slice of heights -/
def HTwo (B : Nat) (t : Ht) (l : Qs) (swap : Bool) (w : World) (e : Ending) (w' : World) : Prop := ∃ u s, e = .returned (.tuple (if swap then #[s, u] else #[u, s])) ∧ AnyLater w w' ∧ isH B t u w' ∧ QR w' s l
def HAheads (B : Nat) (t : Ht) : Prop := ∀ (i : Nat) (v : Value) (w : World), isH B t v w → i ≤ t.hs.length → Calls Try.prog 77 #[v, .int .i64 (i : Int)] w (HTwo B (t.ahead i).1 (t.ahead i).2 false w)
def HBehinds (B : Nat) (t : Ht) : Prop := ∀ (i : Nat) (v : Value) (w : World), isH B t v w → i ≤ t.hs.length → Calls Try.prog 78 #[v, .int .i64 (i : Int)] w (HTwo B (t.behind i).2 (t.behind i).1 true w)
set_option maxRecDepth 100000 in
theorem hahead_nil {w : World} (hB : B ≤ w.heap.size) (i : Int) : Calls Try.prog 77 #[.pointer none, .int .i64 i] w (HTwo B .nil [] false w) := by
  go_enter Try.func77, Try.ntmps77
  go_wp2_with fail
  refine bodyPost_ret (v := .tuple #[.pointer none, .slice none 0 0]) (by simp [results, Try.results77, go_sem]) rfl ?_
  exact ⟨_, _, rfl, AnyLater.refl _, isH_none hB, QR.void _ _ _⟩
set_option maxRecDepth 100000 in
theorem hbehind_nil {w : World} (hB : B ≤ w.heap.size) (i : Int) : Calls Try.prog 78 #[.pointer none, .int .i64 i] w (HTwo B .nil [] true w) := by
  go_enter Try.func78, Try.ntmps78
  go_wp2_with fail
  refine bodyPost_ret (v := .tuple #[.slice none 0 0, .pointer none]) (by simp [results, Try.results78, go_sem]) rfl ?_
  exact ⟨_, _, rfl, AnyLater.refl _, isH_none hB, QR.void _ _ _⟩
set_option maxRecDepth 100000 in
theorem hahead_leaf (b : Nat) (l : Qs) (i : Nat) (v : Value) (w : World) (h : isH B (.leaf b l) v w) (hi : i ≤ l.length) : Calls Try.prog 77 #[v, .int .i64 (i : Int)] w (HTwo B .nil (l.take i) false w) := by
  have hB := h.1
  obtain ⟨k, cap, rfl, hk, ho⟩ := h.leaf
  obtain ⟨A1, cap1, q1, k1⟩ := (OQ.rq ho).uptoQ pairTall i hi
  have HQ := Lib.hid q1
  unfold hnodeC at hk
  have r0 := own_row hk
  clear hk ho q1
  generalize l.take i = m at *
  generalize l.length = n at *
  go_enter Try.func77, Try.ntmps77
  go_wp2_with fail
  go_quiet (fail)
  go_wp2_with fail
  refine bodyPost_ret (v := .tuple #[.pointer none, .slice A1 i cap1]) (by simp [results, Try.results77, go_sem]) rfl ?_
  exact ⟨_, _, rfl, (AnyLater.refl _).drewN _, isH_none hB, HQ.out.later ((AnyLater.refl _).drewN _)⟩
set_option maxRecDepth 100000 in
theorem hbehind_leaf (b : Nat) (l : Qs) (i : Nat) (v : Value) (w : World) (h : isH B (.leaf b l) v w) (hi : i ≤ l.length) : Calls Try.prog 78 #[v, .int .i64 (i : Int)] w (HTwo B .nil (l.drop i) true w) := by
  have hB := h.1
  obtain ⟨k, cap, rfl, hk, ho⟩ := h.leaf
  obtain ⟨u1, q1, k1⟩ := (OQ.rq ho).cutQ pairTall i hi
  have HQ := Lib.hid q1
  obtain ⟨A1, cap1, rfl, -⟩ := q1.form
  unfold hnodeC at hk
  have r0 := own_row hk
  clear hk ho q1
  generalize (l.drop i).length = n1 at *
  generalize l.drop i = m at *
  generalize l.length = n at *
  go_enter Try.func78, Try.ntmps78
  go_wp2_with fail
  refine bodyPost_ret (v := .tuple #[.slice A1 n1 cap1, .pointer none]) (by simp [results, Try.results78, go_sem]) rfl ?_
  exact ⟨_, _, rfl, AnyLater.refl _, isH_none hB, HQ.out⟩
set_option maxRecDepth 100000 in
set_option maxHeartbeats 1600000 in
theorem hahead_left (l r : Ht) (ih : HAheads B l) (i : Nat) (v : Value) (w : World) (h : isH B (.node l r) v w) (hf : (Ht.node l r).Fit) (hi : i ≤ l.hs.length) : Calls Try.prog 77 #[v, .int .i64 (i : Int)] w (HTwo B (l.ahead i).1 (l.ahead i).2 false w) := by
  have hm := hf.most
  rw [Ht.hs, List.length_append] at hm
  obtain ⟨k, av, bv, rfl, na, nb, hk, ha, hb⟩ := h.node
  have HJ := Lib.hid (fun (w' : World) (e : AnyLater w w') => ih i av w' (isH_stays e ha) hi)
  obtain ⟨k1, a0, a1, a2, rfl, h1⟩ := ha.noted na
  unfold hnodeC at hk h1
  have r0 := own_row hk
  have r1 := own_row h1
  have d1 : decide ((i : Int) ≤ (l.hs.length : Int)) = true := decide_eq_true (by omega)
  have d2 : decide ((i : Int) - (l.hs.length : Int) ≤ 0) = true := decide_eq_true (by omega)
  have d3 : -90000 ≤ (i : Int) - (l.hs.length : Int) := by omega
  clear ha hb hk h1 hf ih
  generalize (l.ahead i).1 = t1 at *
  generalize (l.ahead i).2 = m1 at *
  generalize l.hs.length = n at *
  go_enter Try.func77, Try.ntmps77
  go_wp2_with fail
  refine (HJ.out _ (AnyLater.refl w)).mono ?_
  rintro e w1 ⟨u, s, rfl, b1, p1, q1⟩
  have HU := Lib.hid (And.intro b1 (And.intro p1 q1))
  clear b1 p1 q1
  go_wp2_with fail
  refine bodyPost_ret (v := .tuple #[u, s]) (by simp [results, Try.results77, go_sem]) rfl ?_
  exact ⟨_, _, rfl, HU.out.1, HU.out.2.1, HU.out.2.2⟩
set_option maxRecDepth 100000 in
set_option maxHeartbeats 1600000 in
theorem hahead_right (l r : Ht) (ih : HAheads B r) (i : Nat) (v : Value) (w : World) (h : isH B (.node l r) v w) (hf : (Ht.node l r).Fit) (fn : (Ht.node l r).Fine) (hi : ¬ i ≤ l.hs.length) (hi2 : i - l.hs.length ≤ r.hs.length) : Calls Try.prog 77 #[v, .int .i64 (i : Int)] w (HTwo B (l.join (r.ahead (i - l.hs.length)).1) (r.ahead (i - l.hs.length)).2 false w) := by
  have hm := hf.most
  rw [Ht.hs, List.length_append] at hm
  obtain ⟨k, av, bv, rfl, na, nb, hk, ha, hb⟩ := h.node
  have hg := Ht.ahead_hs r (i - l.hs.length)
  have hg2 : (r.ahead (i - l.hs.length)).1.hs.length ≤ r.hs.length := by
    have := congrArg List.length hg
    rw [List.length_append, List.length_take] at this
    omega
  have hg3 : Tls (r.ahead (i - l.hs.length)).1.hs := by
    have : Tls (r.hs.take (i - l.hs.length)) := hf.right.tls.take _
    rw [← hg] at this
    exact this.left
  have HJ := Lib.hid (fun (w' : World) (e : AnyLater w w') => ih (i - l.hs.length) bv w' (isH_stays e hb) hi2)
  have HK := Lib.hid (fun (w' : World) (u : Value) (e : AnyLater w w') (hu : isH B (r.ahead (i - l.hs.length)).1 u w') => hjoin_any l (r.ahead (i - l.hs.length)).1 av u w' _ rfl (isH_stays e ha) hu fn.left (Ht.ahead_fine _ _ fn.right) hf.left.tls hg3 (by omega))
  obtain ⟨k1, a0, a1, a2, rfl, h1⟩ := ha.noted na
  obtain ⟨q2, rfl⟩ := hb.ptr
  unfold hnodeC at hk h1
  have s0_w := hk
  have r0 := own_row hk
  have r1 := own_row h1
  have hj : ((i - l.hs.length : Nat) : Int) = (i : Int) - (l.hs.length : Int) := by omega
  rw [hj] at HJ
  have d1 : decide ((i : Int) ≤ (l.hs.length : Int)) = false := decide_eq_false (by omega)
  have d2 : decide ((i : Int) - (l.hs.length : Int) ≤ 0) = false := decide_eq_false (by omega)
  have d3 : (i : Int) - (l.hs.length : Int) ≤ 90000 := by omega
  have d4 : 0 < (i : Int) - (l.hs.length : Int) := by omega
  clear ha hb h1 hf ih hj hg hg2 hg3 fn
  generalize l.join (r.ahead (i - l.hs.length)).1 = t1 at *
  generalize (r.ahead (i - l.hs.length)).1 = t2 at *
  generalize (r.ahead (i - l.hs.length)).2 = m1 at *
  generalize l.hs.length = n at *
  go_enter Try.func77, Try.ntmps77
  go_wp2_with fail
  refine (HJ.out _ (AnyLater.refl w)).mono ?_
  rintro e w1 ⟨u, s, rfl, b_w1, p1, q1⟩
  have HQ := Lib.hid q1
  have HC := Lib.hid (HK.out _ _ b_w1 p1)
  obtain ⟨A5, cap5, rfl, -⟩ := q1.form
  have z_w1 := b_w1.below.size
  have a_w1 := b_w1
  have s0_w1 := any_own b_w1 s0_w
  have r0_w1 := own_row s0_w1
  have f0_w1 := own_free s0_w1
  have l0_w1 := own_lt s0_w1
  (try clear r0_w); (try clear f0_w)
  clear p1 q1 r0 r1
  go_wp2_with fail
  refine HC.out.mono ?_
  rintro e w2 ⟨u2, rfl, b2, p2⟩
  have HU := Lib.hid (And.intro (a_w1.trans b2) (And.intro p2 (HQ.out.later b2)))
  clear b2 p2
  go_wp2_with fail
  refine bodyPost_ret (v := .tuple #[u2, .slice A5 m1.length cap5]) (by simp [results, Try.results77, go_sem]) rfl ?_
  exact ⟨_, _, rfl, HU.out.1, HU.out.2.1, HU.out.2.2⟩
set_option maxRecDepth 100000 in
set_option maxHeartbeats 1600000 in
theorem hbehind_right (l r : Ht) (ih : HBehinds B r) (i : Nat) (v : Value) (w : World) (h : isH B (.node l r) v w) (hf : (Ht.node l r).Fit) (hi : l.hs.length ≤ i) (hi2 : i - l.hs.length ≤ r.hs.length) : Calls Try.prog 78 #[v, .int .i64 (i : Int)] w (HTwo B (r.behind (i - l.hs.length)).2 (r.behind (i - l.hs.length)).1 true w) := by
  have hm := hf.most
  rw [Ht.hs, List.length_append] at hm
  obtain ⟨k, av, bv, rfl, na, nb, hk, ha, hb⟩ := h.node
  have HJ := Lib.hid (fun (w' : World) (e : AnyLater w w') => ih (i - l.hs.length) bv w' (isH_stays e hb) hi2)
  obtain ⟨k1, a0, a1, a2, rfl, h1⟩ := ha.noted na
  obtain ⟨q2, rfl⟩ := hb.ptr
  unfold hnodeC at hk h1
  have r0 := own_row hk
  have r1 := own_row h1
  have hj : ((i - l.hs.length : Nat) : Int) = (i : Int) - (l.hs.length : Int) := by omega
  rw [hj] at HJ
  have d1 : decide ((l.hs.length : Int) ≤ (i : Int)) = true := decide_eq_true (by omega)
  have d2 : decide (0 ≤ (i : Int) - (l.hs.length : Int)) = true := decide_eq_true (by omega)
  have d3 : (i : Int) - (l.hs.length : Int) ≤ 90000 := by omega
  clear ha hb hk h1 hf ih hj
  generalize (r.behind (i - l.hs.length)).2 = t1 at *
  generalize (r.behind (i - l.hs.length)).1 = m1 at *
  generalize l.hs.length = n at *
  go_enter Try.func78, Try.ntmps78
  go_wp2_with fail
  refine (HJ.out _ (AnyLater.refl w)).mono ?_
  rintro e w1 ⟨u, s, rfl, b1, p1, q1⟩
  have HU := Lib.hid (And.intro b1 (And.intro p1 q1))
  clear b1 p1 q1
  go_wp2_with fail
  refine bodyPost_ret (v := .tuple #[s, u]) (by simp [results, Try.results78, go_sem]) rfl ?_
  exact ⟨_, _, rfl, HU.out.1, HU.out.2.1, HU.out.2.2⟩
set_option maxRecDepth 100000 in
set_option maxHeartbeats 1600000 in
theorem hbehind_left (l r : Ht) (ih : HBehinds B l) (i : Nat) (v : Value) (w : World) (h : isH B (.node l r) v w) (hf : (Ht.node l r).Fit) (fn : (Ht.node l r).Fine) (hi : ¬ l.hs.length ≤ i) : Calls Try.prog 78 #[v, .int .i64 (i : Int)] w (HTwo B ((l.behind i).2.join r) (l.behind i).1 true w) := by
  have hm := hf.most
  rw [Ht.hs, List.length_append] at hm
  obtain ⟨k, av, bv, rfl, na, nb, hk, ha, hb⟩ := h.node
  have hg := Ht.behind_hs l i
  have hg2 : (l.behind i).2.hs.length ≤ l.hs.length := by
    have := congrArg List.length hg
    rw [List.length_append, List.length_drop] at this
    omega
  have hg3 : Tls (l.behind i).2.hs := by
    have : Tls (l.hs.drop i) := hf.left.tls.drop _
    rw [← hg] at this
    exact this.right
  have HJ := Lib.hid (fun (w' : World) (e : AnyLater w w') => ih i av w' (isH_stays e ha) (by omega))
  have HK := Lib.hid (fun (w' : World) (u : Value) (e : AnyLater w w') (hu : isH B (l.behind i).2 u w') => hjoin_any (l.behind i).2 r u bv w' _ rfl hu (isH_stays e hb) (Ht.behind_fine _ _ fn.left) fn.right hg3 hf.right.tls (by omega))
  obtain ⟨k1, a0, a1, a2, rfl, h1⟩ := ha.noted na
  obtain ⟨q2, rfl⟩ := hb.ptr
  unfold hnodeC at hk h1
  have s0_w := hk
  have r0 := own_row hk
  have r1 := own_row h1
  have d1 : decide ((l.hs.length : Int) ≤ (i : Int)) = false := decide_eq_false (by omega)
  have d2 : decide (0 ≤ (i : Int) - (l.hs.length : Int)) = false := decide_eq_false (by omega)
  have d3 : -90000 ≤ (i : Int) - (l.hs.length : Int) := by omega
  have d4 : (i : Int) - (l.hs.length : Int) < 0 := by omega
  clear ha hb h1 hf ih hg hg2 hg3 fn
  generalize (l.behind i).2.join r = t1 at *
  generalize (l.behind i).2 = t2 at *
  generalize (l.behind i).1 = m1 at *
  generalize l.hs.length = n at *
  go_enter Try.func78, Try.ntmps78
  go_wp2_with fail
  refine (HJ.out _ (AnyLater.refl w)).mono ?_
  rintro e w1 ⟨u, s, rfl, b_w1, p1, q1⟩
  have HQ := Lib.hid q1
  have HC := Lib.hid (HK.out _ _ b_w1 p1)
  obtain ⟨A5, cap5, rfl, -⟩ := q1.form
  have z_w1 := b_w1.below.size
  have a_w1 := b_w1
  have s0_w1 := any_own b_w1 s0_w
  have r0_w1 := own_row s0_w1
  have f0_w1 := own_free s0_w1
  have l0_w1 := own_lt s0_w1
  (try clear r0_w); (try clear f0_w)
  clear p1 q1 r0 r1
  go_wp2_with fail
  refine HC.out.mono ?_
  rintro e w2 ⟨u2, rfl, b2, p2⟩
  have HU := Lib.hid (And.intro (a_w1.trans b2) (And.intro p2 (HQ.out.later b2)))
  clear b2 p2
  go_wp2_with fail
  refine bodyPost_ret (v := .tuple #[.slice A5 m1.length cap5, u2]) (by simp [results, Try.results78, go_sem]) rfl ?_
  exact ⟨_, _, rfl, HU.out.1, HU.out.2.1, HU.out.2.2⟩
theorem haheads : ∀ (t : Ht), t.Fit → t.Fine → HAheads B t
  | .nil, _, _, i, v, w, h, hi => by
    have hB := h.1
    obtain rfl := h.nil
    exact hahead_nil hB i
  | .leaf b l, _, _, i, v, w, h, hi => hahead_leaf b l i v w h hi
  | .node l r, hf, fn, i, v, w, h, hi => by
    rw [Ht.hs, List.length_append] at hi
    unfold Ht.ahead
    split
    · rename_i hc
      exact hahead_left l r (haheads l hf.left fn.left) i v w h hf hc
    · rename_i hc
      exact hahead_right l r (haheads r hf.right fn.right) i v w h hf fn hc (by omega)
theorem hbehinds : ∀ (t : Ht), t.Fit → t.Fine → HBehinds B t
  | .nil, _, _, i, v, w, h, hi => by
    have hB := h.1
    obtain rfl := h.nil
    exact hbehind_nil hB i
  | .leaf b l, _, _, i, v, w, h, hi => hbehind_leaf b l i v w h hi
  | .node l r, hf, fn, i, v, w, h, hi => by
    rw [Ht.hs, List.length_append] at hi
    unfold Ht.behind
    split
    · rename_i hc
      exact hbehind_right l r (hbehinds r hf.right fn.right) i v w h hf hc (by omega)
    · rename_i hc
      exact hbehind_left l r (hbehinds l hf.left fn.left) i v w h hf fn hc

/-! ### heights in place of others -/
/-- a tree that may stand: as it should be, its rows apart -/
structure Ht.Ok (t : Ht) : Prop where
  fine : t.Fine
  tls : Tls t.hs
  most : t.hs.length ≤ 45000
  rows : t.bks.Nodup
theorem Ht.Ok.fit {t : Ht} (h : t.Ok) : t.Fit := ⟨h.fine.2, h.tls, by have := h.most; omega⟩
/-- what is spliced: the heights, and rows that stood there or are new -/
def isSpliced (B : Nat) (W : World) (t : Ht) (l : Qs) (v : Value) (w : World) : Prop := ∃ T : Ht, isH B T v w ∧ T.hs = l ∧ T.Fine ∧ T.bks.Nodup ∧ ∀ b ∈ T.bks, b ∈ t.bks ∨ W.heap.size ≤ b
set_option maxRecDepth 100000 in
set_option maxHeartbeats 400000 in
theorem hsplice_any (t : Ht) (a b : Nat) (v u : Value) (l : Qs) (w : World) (h : isH B t v w) (hok : t.Ok) (hab : a ≤ b) (hb : b ≤ t.hs.length) (hu : QR w u l) (hl : t.hs.length + l.length ≤ 80000) (hT : Tls l) :
    Calls Try.prog 63 #[v, .int .i64 (a : Int), .int .i64 (b : Int), u] w (HAns (isSpliced B w t (t.hs.take a ++ l ++ t.hs.drop b)) w) := by
  have HA := Lib.hid (haheads t hok.fit hok.fine a v w h (by omega))
  have HB := Lib.hid (fun (w' : World) (e : AnyLater w w') => hbehinds t hok.fit hok.fine b v w' (isH_stays e h) hb)
  have ha1 := Ht.ahead_hs t a
  have hb1 := Ht.behind_hs t b
  have ha2 := Ht.ahead_fine t a hok.fine
  have hb2 := Ht.behind_fine t b hok.fine
  have hbk := Ht.parted_bks t a b hab
  have hbn := hbk.nodup hok.rows
  have la : (t.ahead a).1.hs.length + (t.ahead a).2.length = a := by
    have := congrArg List.length ha1
    rw [List.length_append, List.length_take] at this
    omega
  have lb : (t.behind b).1.length + (t.behind b).2.hs.length = t.hs.length - b := by
    have := congrArg List.length hb1
    rwa [List.length_append, List.length_drop] at this
  have ta : Tls ((t.ahead a).1.hs ++ (t.ahead a).2) := by rw [ha1]; exact hok.tls.take _
  have tb : Tls ((t.behind b).1 ++ (t.behind b).2.hs) := by rw [hb1]; exact hok.tls.drop _
  have hmem : ∀ x, x ∈ (t.ahead a).1.bks ∨ x ∈ (t.behind b).2.bks → x ∈ t.bks := fun x hx => hbk.subset (List.mem_append.2 hx)
  have HLt : Hid (∀ x ∈ t.bks, x < w.heap.size) := Lib.hid (fun x hx => by
    obtain ⟨_, F, hF, _⟩ := h
    exact own_lt (hF.rows x hx).2.choose_spec)
  have HR : Hid (t.hs.take a ++ l ++ t.hs.drop b = (t.ahead a).1.hs ++ ((t.ahead a).2 ++ l ++ (t.behind b).1) ++ (t.behind b).2.hs) := Lib.hid (by rw [← ha1, ← hb1]; simp)
  generalize (t.ahead a).1 = X at *
  generalize (t.ahead a).2 = p at *
  generalize (t.behind b).1 = q at *
  generalize (t.behind b).2 = Y at *
  have HCat := Lib.hid (fun (g : Nat) (v1 v2 v3 : Value) (w' : World) (hg : g < w'.heap.size) c1 c2 c3 (h1 : QR w' v1 p) (h2 : QR w' v2 l) (h3 : QR w' v3 q) => tlcat_three g v1 v2 v3 p l q w' hg c1 c2 c3 h1 h2 h3 (by omega))
  have tm : Tls (p ++ l ++ q) := (ta.right.append hT).append tb.left
  have lm : (p ++ l ++ q).length = p.length + l.length + q.length := by rw [List.length_append, List.length_append]
  have HBu := Lib.hid (fun (w' : World) (z : Value) (hz : QR w' z (p ++ l ++ q)) => hbuild_any z (p ++ l ++ q) w' hz (by omega) tm)
  have HJ1 := Lib.hid (fun (w' : World) (x z : Value) (M : Ht) (hx : isH B X x w') (hz : isH B M z w') (hM : M.hs = p ++ l ++ q) (fM : M.Fine) => hjoin_any X M x z w' _ rfl hx hz ha2 fM ta.left (by rw [hM]; exact tm) (by rw [hM, lm]; omega))
  have HJ2 := Lib.hid (fun (w' : World) (x z : Value) (M : Ht) (hx : isH B (X.join M) x w') (hz : isH B Y z w') (hM : M.hs = p ++ l ++ q) (fM : M.Fine) => hjoin_any (X.join M) Y x z w' _ rfl hx hz (ha2.join fM) hb2 (by rw [Ht.hs_join, hM]; exact ta.left.append tm) tb.right (by rw [Ht.hs_join, hM, List.length_append, lm]; omega))
  have HE : Hid (∀ (w1 w' : World) (M : Ht) (z : Value), AnyLater w w1 → isH B ((X.join M).join Y) z w' → M.hs = p ++ l ++ q → M.Fine → M.bks.Nodup → (∀ x ∈ M.bks, w1.heap.size ≤ x) → isSpliced B w t (t.hs.take a ++ l ++ t.hs.drop b) z w') := Lib.hid (fun w1 w' M z e hz hM fM nM bM => by
    refine ⟨_, hz, ?_, (ha2.join fM).join hb2, ?_, fun x hx => ?_⟩
    · rw [Ht.hs_join, Ht.hs_join, hM, HR.out]
    · rw [Ht.bks_join, Ht.bks_join]
      obtain ⟨n1, n2, n3⟩ := List.nodup_append.1 hbn
      have old : ∀ x, x ∈ X.bks ∨ x ∈ Y.bks → ∀ y ∈ M.bks, x ≠ y := fun x hx y hy e2 => by
        have q1 := HLt.out x (hmem x hx)
        have q2 := bM y hy
        have q3 := e.below.size
        omega
      refine List.nodup_append.2 ⟨List.nodup_append.2 ⟨n1, nM, fun x hx y hy => old x (.inl hx) y hy⟩, n2, fun x hx y hy => ?_⟩
      rcases List.mem_append.1 hx with hx | hx
      · exact n3 x hx y hy
      · exact fun e2 => old y (.inr hy) x hx e2.symm
    · rw [Ht.bks_join, Ht.bks_join] at hx
      rcases List.mem_append.1 hx with hx | hx
      · rcases List.mem_append.1 hx with hx | hx
        · exact .inl (hmem x (.inl hx))
        · exact .inr (Nat.le_trans e.below.size (bM x hx))
      · exact .inl (hmem x (.inr hx)))
  have HU := Lib.hid hu
  have HBs := Lib.hid h.1
  obtain ⟨q0, rfl⟩ := h.ptr
  obtain ⟨A0, cap0, rfl, -⟩ := hu.form
  clear h hok hbk hbn la lb ta tb hmem HR ha1 hb1 ha2 hb2 tm lm hu hT
  generalize t.hs.take a ++ l ++ t.hs.drop b = R at *
  generalize p ++ l ++ q = pm at *
  generalize l.length = nl at *
  go_enter Try.func63, Try.ntmps63
  go_wp2_with fail
  refine HA.out.mono ?_
  rintro e w1 ⟨x1, s1, rfl, b_w1, p1, q1⟩
  have H1 := Lib.hid (And.intro b_w1 (And.intro p1 q1))
  obtain ⟨q4, rfl⟩ := p1.ptr
  obtain ⟨A1, cap1, rfl, -⟩ := q1.form
  clear b_w1 p1 q1
  go_wp2_with fail
  refine (HB.out _ H1.out.1).mono ?_
  rintro e w2 ⟨x2, s2, rfl, b_w2, p2, q2⟩
  have H2 := Lib.hid (And.intro (H1.out.1.trans b_w2) (And.intro p2 q2))
  have H1 := Lib.hid (And.intro (isH_stays b_w2 H1.out.2.1) (H1.out.2.2.later b_w2))
  obtain ⟨q5, rfl⟩ := p2.ptr
  obtain ⟨A2, cap2, rfl, -⟩ := q2.form
  have a_w2 := H2.out.1
  have z0 := b_w2.below.size
  clear b_w2 p2 q2
  go_wp2_with fail
  first | refine settle_wp (fun wS => AnyLater w2 wS ∧ wS.heap[w2.heap.size]? = some (.cells #[.slice A1 p.length cap1, .slice A0 nl cap0, .slice A2 q.length cap2] 22)) ?_ ?_ | refine settle_calls (fun wS => AnyLater w2 wS ∧ wS.heap[w2.heap.size]? = some (.cells #[.slice A1 p.length cap1, .slice A0 nl cap0, .slice A2 q.length cap2] 22)) ?_ ?_
  · refine ⟨?_, ?_⟩
    · repeat' (first | with_reducible assumption | with_reducible exact AnyLater.refl _ | with_reducible apply AnyLater.setCell | with_reducible apply AnyLater.later | with_reducible apply AnyLater.drewN | with_reducible apply AnyLater.drew | with_reducible apply AnyLater.alloc | ((try simp only [World.size_alloc, World.size_setCell, World.size_drew]); (try dsimp only); omega))
    · ((repeat (first | with_reducible assumption | ((with_reducible apply heap_new); (try simp only [World.size_alloc, World.size_setCell, World.size_drew, World.heap_drewN]); done) | ((with_reducible apply heap_new); (try simp only [World.size_alloc, World.size_setCell, World.size_drew, World.heap_drewN]); omega) | (with_reducible refine heap_old (by (try simp only [World.size_alloc, World.size_setCell, World.size_drew, World.heap_drewN]); omega) ?_) | (with_reducible refine heap_drew ?_) | (with_reducible refine heap_far (by omega) ?_) | (with_reducible apply heap_at))); all_goals rfl)
  rintro w3 ⟨b_w3, s0_w3⟩
  have a_w3 := a_w2.trans b_w3
  have r0_w3 := own_row s0_w3
  have f0_w3 := own_free s0_w3
  have l0_w3 := own_lt s0_w3
  have z_w3 := b_w3.below.size
  refine (HCat.out w2.heap.size _ _ _ w3 l0_w3 (by rw [r0_w3]; rfl) (by rw [r0_w3]; rfl) (by rw [r0_w3]; rfl) (H1.out.2.later b_w3) (HU.out.later a_w3) (H2.out.2.2.later b_w3)).mono ?_
  rintro e w4 ⟨x4, rfl, b_w4, o4⟩
  have H4 := Lib.hid (And.intro (a_w3.trans b_w4) (And.intro (b_w3.trans b_w4) o4))
  obtain ⟨A4, cap4, rfl, -⟩ := OQ.form o4
  clear o4 b_w4
  go_wp2_with fail
  refine (HBu.out w4 _ (OQ.rq H4.out.2.2)).mono ?_
  rintro e w5 ⟨x5, rfl, b_w5, p5⟩
  obtain ⟨M, hM, e1, e2, -, e3, e4⟩ := p5
  have hM := hM.mono (Nat.le_trans HBs.out H4.out.1.below.size)
  have H5 := Lib.hid (And.intro e1 (And.intro e2 (And.intro e3 e4)))
  obtain ⟨q6, rfl⟩ := hM.ptr
  have HC5 := Lib.hid (HJ1.out w5 _ _ M (isH_stays (H4.out.2.1.trans b_w5) H1.out.1) hM e1 e2)
  have H6 := Lib.hid (H4.out.2.1.trans b_w5)
  have H7 := Lib.hid (H4.out.1.trans b_w5)
  clear hM e1 e2 e3 e4 b_w5
  go_wp2_with fail
  refine HC5.out.mono ?_
  rintro e w6 ⟨x6, rfl, b_w6, p6⟩
  have HC6 := Lib.hid (HJ2.out w6 _ _ M p6 (isH_stays (H6.out.trans b_w6) H2.out.2.1) H5.out.1 H5.out.2.1)
  have H8 := Lib.hid (H7.out.trans b_w6)
  clear p6 b_w6
  go_wp2_with fail
  refine HC6.out.mono ?_
  rintro e w7 ⟨x7, rfl, b_w7, p7⟩
  have H9 := Lib.hid (And.intro (H8.out.trans b_w7) (HE.out w4 w7 M x7 H4.out.1 p7 H5.out.1 H5.out.2.1 H5.out.2.2.1 H5.out.2.2.2))
  clear p7 b_w7
  go_wp2_with fail
  go_ret
  exact ⟨_, rfl, H9.out.1, H9.out.2⟩
end Go.Proofs.Ytjoadlfkdkeomaa
