/- seq: a height that is set: by contract. Trees of up to 90000 heights. -/
import Derived.Test.YtjoadlfkdkeomaaSeqJ
import Derived.Test.YtjoadlfkdkeomaaFree
import Derived.LoopN
import Derived.Deep.LoopGhost
import Derived.BigRegion
import Derived.RegionTactic
import Derived.Shelf.Abstract
import Derived.ChangeKeysEq
namespace Go.Proofs.Ytjoadlfkdkeomaa
set_option linter.unusedSimpArgs false
set_option linter.unusedVariables false
set_option linter.unusedSectionVars false
open Go.RowKit

theorem flatQ_get (l : Qs) (k : Nat) (hk : k < l.length * 2) : (flatQ l)[k]? = if k % 2 = 0 then (l[k / 2]?).map (fun b => Value.int .i64 b.1) else (l[k / 2]?).map (fun b => Value.int .i64 b.2) := by
  rcases Nat.mod_two_eq_zero_or_one k with hm | hm
  · rw [if_pos hm]
    have e : k = k / 2 * 2 := by omega
    conv => lhs; rw [e, flatQ_0]
  · rw [if_neg (by omega)]
    have e : k = k / 2 * 2 + 1 := by omega
    conv => lhs; rw [e, flatQ_1]
/-- v[i] = x, in place -/
theorem OQ.set {t : TypeId} {w : World} {B g n cap : Nat} {l : Qs} {i : Nat} (x : Int × Int) (h : OQ t w B (.slice (some ⟨g, 0, none⟩) n cap) l) (hi : i < l.length) :
    OQ t ((w.setCell ⟨g, i * 2, none⟩ (.int .i64 x.1)).setCell ⟨g, i * 2 + 1, none⟩ (.int .i64 x.2)) B (.slice (some ⟨g, 0, none⟩) n cap) (l.set i x) := by
  refine ⟨by rw [flatQ_length], ?_⟩
  rcases h.2 with ⟨e, _⟩ | ⟨g', cap', cur, e, h2, h3, h4, h5, h6, h7⟩
  · cases e
  · cases e
    refine .inr ⟨g, cap, _, by rw [List.length_set], h2, heap_at (heap_at h3 rfl) rfl, by rw [List.length_set]; exact h4, h5, by rw [Array.size_setIfInBounds, Array.size_setIfInBounds]; exact h6, ?_⟩
    rw [List.length_set]
    apply List.ext_getElem?
    intro k
    by_cases hk : k < l.length * 2
    · have old : cur[k]? = (flatQ l)[k]? := by
        have : (cur.toList.take (l.length * 2))[k]? = (flatQ l)[k]? := by rw [h7]
        rwa [List.getElem?_take_of_lt hk, Array.getElem?_toList] at this
      rw [List.getElem?_take_of_lt hk, Array.getElem?_toList, flatQ_get _ k (by rw [List.length_set]; exact hk)]
      by_cases q1 : k = i * 2 + 1
      · subst q1
        rw [Array.getElem?_setIfInBounds_self, if_pos (by rw [Array.size_setIfInBounds]; omega), if_neg (by omega), show (i * 2 + 1) / 2 = i by omega, List.getElem?_set_self hi]
        rfl
      · rw [Array.getElem?_setIfInBounds_ne (fun e => q1 e.symm)]
        by_cases q2 : k = i * 2
        · subst q2
          rw [Array.getElem?_setIfInBounds_self, if_pos (by omega), if_pos (by omega), show i * 2 / 2 = i by omega, List.getElem?_set_self hi]
          rfl
        · rw [Array.getElem?_setIfInBounds_ne (fun e => q2 e.symm), List.getElem?_set_ne (by omega), old, flatQ_get l k hk]
    · rw [List.getElem?_eq_none (by rw [List.length_take]; omega), List.getElem?_eq_none (by rw [flatQ_length, List.length_set]; omega)]
/-- what a height is set to may be -/
def TlOk (x : Int × Int) : Prop := (0 ≤ x.1 ∧ x.1 ≤ 16777216) ∧ 0 ≤ x.2 ∧ x.2 ≤ 16777216
theorem Ht.Fit.setT {t : Ht} (h : t.Fit) (fn : t.Fine) (i : Nat) {x : Int × Int} (hx : TlOk x) : (t.setT i x).Fit := ⟨((Ht.setT_same t i x).2.2.2 fn).2, by rw [Ht.setT_hs]; exact h.tls.set hx, by rw [Ht.setT_hs, List.length_set]; exact h.most⟩
/-- four numbers are noted anew in a part -/
theorem notes_far {w : World} {k j : Nat} {a b c d : Value} (h : j ≠ k) : ((((w.setCell ⟨k, 3, none⟩ a).setCell ⟨k, 3 + 1, none⟩ b).setCell ⟨k, 3 + 2, none⟩ c).setCell ⟨k, 3 + 3, none⟩ d).heap[j]? = w.heap[j]? := by
  cases hj : w.heap[j]? with
  | none =>
    rw [Array.getElem?_eq_none_iff] at hj ⊢
    simpa only [World.size_setCell] using hj
  | some o => exact heap_far h (heap_far h (heap_far h (heap_far h hj)))
theorem notes_at {w : World} {k : Nat} {a b c d x0 x1 x2 x3 x4 x5 x6 : Value} {t : TypeId} (h : w.heap[k]? = some (.cells #[x0, x1, x2, x3, x4, x5, x6] t)) : ((((w.setCell ⟨k, 3, none⟩ a).setCell ⟨k, 3 + 1, none⟩ b).setCell ⟨k, 3 + 2, none⟩ c).setCell ⟨k, 3 + 3, none⟩ d).heap[k]? = some (.cells #[x0, x1, x2, a, b, c, d] t) :=
  heap_at (heap_at (heap_at (heap_at h rfl) rfl) rfl) rfl
def SetsT (t t' : Ht) (v : Value) (F : List Nat) (w : World) (e : Ending) (w' : World) : Prop := e = .returned (.tuple #[]) ∧ Stays (· ∈ F) w w' ∧ IsH w' t' v F
set_option maxRecDepth 100000 in
set_option maxHeartbeats 1600000 in
theorem hset_leaf (b : Nat) (l : Qs) (v : Value) (F : List Nat) (i : Nat) (x y : Int) (w : World) (h : IsH w (.leaf b l) v F) (hf : (Ht.leaf b l).Fit) (hi : i < l.length) (hx : TlOk (x, y)) :
    Calls Try.prog 61 #[v, .int .i64 (i : Int), .agg #[.int .i64 x, .int .i64 y]] w (SetsT (.leaf b l) (.leaf b (l.set i (x, y))) v F w) := by
  obtain ⟨k, cap, rfl, rfl, hk, ho⟩ := h
  obtain ⟨en, cur, hb, hsz, hlc, hcm, htk⟩ := OQ.tells ho
  have hne : k ≠ b := fun e => by subst e; exact node_tall hk hb
  have hkl := own_lt hk
  have hbl := own_lt hb
  obtain ⟨bb, off, e7, -, c0, c1⟩ := (OQ.rq ho).at i hi
  cases e7
  simp only [Nat.zero_add] at c0 c1
  have HR : Hid (∀ w1 w', AnyLater w w1 → AnyLater ((w1.setCell ⟨b, i * 2, none⟩ (.int .i64 x)).setCell ⟨b, i * 2 + 1, none⟩ (.int .i64 y)) w' → Calls Try.prog 76 #[.pointer (some ⟨k, 0, none⟩)] w' fun e w'' => e = .returned (.agg #[.int .i64 (l.length : Int), .int .i64 (tlR (l.set i (x, y))), .int .i64 (tlH (l.set i (x, y))), .int .i64 1]) ∧ AnyLater w' w'') := Lib.hid (fun w1 w' a1 a => by
    have hk2 := any_own a (heap_far (v := .int .i64 y) (i := i * 2 + 1) hne (heap_far (v := .int .i64 x) (i := i * 2) hne (any_own a1 hk)))
    have hq := (OQ.rq (OQ.set (x, y) (OQ.later a1 ho) hi)).later a
    have := reckoned_leaf k (.pointer none) (.slice (some ⟨b, 0, none⟩) l.length cap) _ _ _ _ (l.set i (x, y)) w' hk2 hq (by rw [List.length_set]; exact hf.most) (hf.tls.set hx)
    rwa [List.length_set] at this)
  have HF : Hid (∀ w1 w', AnyLater w w1 → AnyLater ((w1.setCell ⟨b, i * 2, none⟩ (.int .i64 x)).setCell ⟨b, i * 2 + 1, none⟩ (.int .i64 y)) w' → SetsT (.leaf b l) (.leaf b (l.set i (x, y))) (.pointer (some ⟨k, 0, none⟩)) [k, b] w (.returned (.tuple #[]))
      ((((w'.setCell ⟨k, 3, none⟩ (.int .i64 (l.length : Int))).setCell ⟨k, 3 + 1, none⟩ (.int .i64 (tlR (l.set i (x, y))))).setCell ⟨k, 3 + 2, none⟩ (.int .i64 (tlH (l.set i (x, y))))).setCell ⟨k, 3 + 3, none⟩ (.int .i64 1))) := Lib.hid (fun w1 w' a1 a => by
    have hk2 := any_own a (heap_far (v := .int .i64 y) (i := i * 2 + 1) hne (heap_far (v := .int .i64 x) (i := i * 2) hne (any_own a1 hk)))
    have hq := OQ.later a (OQ.set (x, y) (OQ.later a1 ho) hi)
    have mk : k ∈ [k, b] := by simp
    have mb : b ∈ [k, b] := by simp
    refine ⟨rfl, ?_, k, cap, rfl, rfl, ?_, ?_⟩
    · have s1 := ((Stays.of (S := (· ∈ [k, b])) a1).setCell (i := i * 2) mb (.int .i64 x)).setCell (i := i * 2 + 1) mb (.int .i64 y)
      exact ((((s1.later a).setCell mk _).setCell mk _).setCell mk _).setCell mk _
    · unfold hnodeC at hk2 ⊢
      rw [notes_at hk2, List.length_set]
      simp [Ht.hs, Ht.lev]
    · have := OQ.kept hq (notes_far (a := .int .i64 (l.length : Int)) (b := .int .i64 (tlR (l.set i (x, y)))) (c := .int .i64 (tlH (l.set i (x, y)))) (d := .int .i64 1) (fun e => hne e.symm))
      rwa [List.length_set])
  have s0_w := hk
  unfold hnodeC at s0_w
  have HK := Lib.hid (And.intro hk hb)
  have fb := own_free hb
  clear hk ho hx hf htk hb hsz hlc hcm en
  generalize l[i].1 = u0 at *
  generalize l[i].2 = u1 at *
  generalize tlR (l.set i (x, y)) = R1 at *
  generalize tlH (l.set i (x, y)) = H1 at *
  generalize l.length = n at *
  have r0_w := own_row s0_w
  have f0_w := own_free s0_w
  have l0_w := own_lt s0_w
  go_enter Try.func61, Try.ntmps61
  go_wp2_with fail
  first | refine settle_wp (fun wS => AnyLater w wS ∧ wS.heap[w.heap.size]? = some (.cells #[.int .i64 x, .int .i64 y] 33)) ?_ ?_ | refine settle_calls (fun wS => AnyLater w wS ∧ wS.heap[w.heap.size]? = some (.cells #[.int .i64 x, .int .i64 y] 33)) ?_ ?_
  · refine ⟨?_, ?_⟩
    · repeat' (first | with_reducible assumption | with_reducible exact AnyLater.refl _ | with_reducible apply AnyLater.setCell | with_reducible apply AnyLater.later | with_reducible apply AnyLater.drewN | with_reducible apply AnyLater.drew | with_reducible apply AnyLater.alloc | ((try simp only [World.size_alloc, World.size_setCell, World.size_drew]); (try dsimp only); omega))
    · ((repeat (first | with_reducible assumption | ((with_reducible apply heap_new); (try simp only [World.size_alloc, World.size_setCell, World.size_drew, World.heap_drewN]); done) | ((with_reducible apply heap_new); (try simp only [World.size_alloc, World.size_setCell, World.size_drew, World.heap_drewN]); omega) | (with_reducible refine heap_old (by (try simp only [World.size_alloc, World.size_setCell, World.size_drew, World.heap_drewN]); omega) ?_) | (with_reducible refine heap_drew ?_) | (with_reducible refine heap_far (by omega) ?_) | (with_reducible apply heap_at))); all_goals rfl)
  rintro w1 ⟨b_w1, s1_w1⟩
  have a_w1 := b_w1
  have s0_w1 := any_own b_w1 s0_w
  have r0_w1 := own_row s0_w1
  have f0_w1 := own_free s0_w1
  have l0_w1 := own_lt s0_w1
  (try clear r0_w); (try clear f0_w)
  have r1_w1 := own_row s1_w1
  have f1_w1 := own_free s1_w1
  have l1_w1 := own_lt s1_w1
  have z_w1 := b_w1.below.size
  have hb1 := any_own a_w1 HK.out.2
  have fb1 := own_free hb1
  have lb1 := own_lt hb1
  have c0 := (a_w1.below.cell hbl).trans c0
  have c1 := (a_w1.below.cell hbl).trans c1
  clear fb
  go_region
  go_wp2_with fail
  refine (HR.out w1 _ a_w1 (AnyLater.refl _).drew).mono ?_
  rintro e w3 ⟨rfl, b3⟩
  have b3 := ((AnyLater.refl _).drew).trans b3
  have s0_w3 := any_own b3 (heap_far (v := .int .i64 y) (i := i * 2 + 1) hne (heap_far (v := .int .i64 x) (i := i * 2) hne (any_own a_w1 HK.out.1)))
  unfold hnodeC at s0_w3
  have r0_w3 := own_row s0_w3
  have f0_w3 := own_free s0_w3
  have l0_w3 := own_lt s0_w3
  have HZ := Lib.hid (HF.out w1 w3 a_w1 b3)
  clear b3 c0 c1 HK HR HF hb1 fb1 lb1 s0_w s0_w3 s0_w1 s1_w1 r0_w1 r1_w1 f0_w1 f1_w1 l0_w1 l1_w1
  go_wp2_with fail
  refine bodyPost_ret (v := .tuple #[]) (by simp [results, Try.results61, go_sem]) rfl ?_
  exact HZ.out
/-- the parts of a tree whose left part was changed in place -/
theorem set_parts {w w1 w' : World} {k : Nat} {l r l' r' : Ht} {lv rv x3 x4 x5 x6 : Value} {F1 F2 : List Nat} (h1 : IsH w1 l' lv F1) (h2 : IsH w1 r' rv F2) (nl : l' ≠ .nil) (nr : r' ≠ .nil) (hk : w1.heap[k]? = some (.cells #[lv, rv, .slice none 0 0, x3, x4, x5, x6] 119)) (k1 : k ∉ F1) (k2 : k ∉ F2) (ha : AnyLater w1 w')
    (hs : Stays (· ∈ k :: (F1 ++ F2)) w w1) : SetsT (.node l r) (.node l' r') (.pointer (some ⟨k, 0, none⟩)) (k :: (F1 ++ F2)) w (.returned (.tuple #[]))
      ((((w'.setCell ⟨k, 3, none⟩ (.int .i64 ((l'.hs.length + r'.hs.length : Nat) : Int))).setCell ⟨k, 3 + 1, none⟩ (.int .i64 (tlR l'.hs + tlR r'.hs))).setCell ⟨k, 3 + 2, none⟩ (.int .i64 (tlH l'.hs + tlH r'.hs))).setCell ⟨k, 3 + 3, none⟩ (.int .i64 ((1 + max l'.lev r'.lev : Nat) : Int))) := by
  have mk : k ∈ k :: (F1 ++ F2) := by simp
  refine ⟨rfl, ?_, k, lv, rv, F1, F2, rfl, rfl, nl, nr, ?_, ?_, ?_⟩
  · exact (((((hs.later ha).setCell mk _).setCell mk _).setCell mk _).setCell mk _)
  · have := notes_at (a := .int .i64 ((l'.hs.length + r'.hs.length : Nat) : Int)) (b := .int .i64 (tlR l'.hs + tlR r'.hs)) (c := .int .i64 (tlH l'.hs + tlH r'.hs)) (d := .int .i64 ((1 + max l'.lev r'.lev : Nat) : Int)) (any_own ha hk)
    rw [this]
    unfold hnodeC
    rw [Ht.hs, List.length_append, tlR_append, tlH_append, Ht.lev]
  · exact (h1.later ha).frame (fun b hb => notes_far (fun e => k1 (e ▸ hb)))
  · exact (h2.later ha).frame (fun b hb => notes_far (fun e => k2 (e ▸ hb)))
def HSets (t : Ht) : Prop := ∀ (v : Value) (F : List Nat) (i : Nat) (x y : Int) (w : World), IsH w t v F → i < t.hs.length → TlOk (x, y) → Calls Try.prog 61 #[v, .int .i64 (i : Int), .agg #[.int .i64 x, .int .i64 y]] w (SetsT t (t.setT i (x, y)) v F w)
theorem set_apart {w : World} {l r : Ht} {k : Nat} {lv rv : Value} {F1 F2 : List Nat} (h : IsH w (.node l r) (.pointer (some ⟨k, 0, none⟩)) (k :: (F1 ++ F2))) (hl : IsH w l lv F1) (hr : IsH w r rv F2) (hn : (l.bks ++ r.bks).Nodup) : (∀ b ∈ F1, b ∉ F2) ∧ k ∉ F1 ∧ k ∉ F2 := by
  obtain ⟨_, _, n3⟩ := List.nodup_append.1 hn
  exact ⟨hl.apart hr (fun b hb hb2 => n3 b hb b hb2 rfl), hl.above h (by simp only [Ht.np]; omega), hr.above h (by simp only [Ht.np]; omega)⟩
set_option maxRecDepth 100000 in
set_option maxHeartbeats 1600000 in
theorem hset_left (l r : Ht) (ih : HSets l) (v : Value) (F : List Nat) (i : Nat) (x y : Int) (w : World) (h : IsH w (.node l r) v F) (hf : (Ht.node l r).Fit) (fn : (Ht.node l r).Fine) (hn : (Ht.node l r).bks.Nodup) (hi : i < l.hs.length) (hx : TlOk (x, y)) :
    Calls Try.prog 61 #[v, .int .i64 (i : Int), .agg #[.int .i64 x, .int .i64 y]] w (SetsT (.node l r) (.node (l.setT i (x, y)) r) v F w) := by
  have hm := hf.most
  rw [Ht.hs, List.length_append] at hm
  obtain ⟨k, lv, rv, F1, F2, rfl, rfl, nl, nr, hk, hl, hr⟩ := id h
  obtain ⟨ap, k1, k2⟩ := set_apart h hl hr hn
  have HI := Lib.hid (fun (w' : World) (a : AnyLater w w') => ih lv F1 i x y w' (hl.later a) hi hx)
  have HW : Hid (∀ w2 w3, AnyLater w w2 → Stays (· ∈ F1) w2 w3 → w3.heap[k]? = some (.cells (hnodeC lv rv (.slice none 0 0) (.node l r)) 119) ∧ IsH w3 r rv F2 ∧ Stays (· ∈ k :: (F1 ++ F2)) w w3) := Lib.hid (fun w2 w3 a s =>
    ⟨s.own (any_own a hk) k1, (hr.later a).stays s (fun b hb hb2 => ap b hb2 hb), (Stays.of a).trans (s.wide (fun _ _ q => by simp [q]))⟩)
  obtain ⟨t1, t2, t3, t4⟩ := Ht.setT_same l i (x, y)
  have fl := hf.left.setT fn.left i hx
  have f1 := fl.sums
  have f2 := hf.right.sums
  have v1 := fl.lev
  have v2 := hf.right.lev
  have e1 : (l.setT i (x, y)).hs.length = l.hs.length := by rw [Ht.setT_hs, List.length_set]
  have hm2 : (l.setT i (x, y)).hs.length + r.hs.length ≤ 90000 := by omega
  have nl2 : l.setT i (x, y) ≠ .nil := fun e => nl (t3.1 e)
  have HR : Hid (∀ (w3 : World) (y3 y4 y5 y6 : Value), w3.heap[k]? = some (.cells #[lv, rv, .slice none 0 0, y3, y4, y5, y6] 119) → IsH w3 (l.setT i (x, y)) lv F1 → IsH w3 r rv F2 → Calls Try.prog 76 #[.pointer (some ⟨k, 0, none⟩)] w3 fun e w' => e = .returned (.agg #[.int .i64 (((l.setT i (x, y)).hs.length + r.hs.length : Nat) : Int), .int .i64 (tlR (l.setT i (x, y)).hs + tlR r.hs), .int .i64 (tlH (l.setT i (x, y)).hs + tlH r.hs), .int .i64 ((1 + max (l.setT i (x, y)).lev r.lev : Nat) : Int)]) ∧ AnyLater w3 w') := Lib.hid (fun w3 y3 y4 y5 y6 h1 h2 h3 => by
    obtain ⟨q1, a0, a1, a2, g1, g2⟩ := h2.noted nl2
    obtain ⟨q2, b0, b1, b2, g3, g4⟩ := h3.noted nr
    unfold hnodeC at g2 g4
    rw [g1, g3] at h1
    exact reckoned_two k q1 q2 (.slice none 0 0) _ _ _ _ a0 a1 a2 b0 b1 b2 _ _ _ _ _ _ _ _ w3 h1 g2 g4 hm2 ⟨v1, v2⟩ ⟨by omega, by omega⟩ ⟨by omega, by omega⟩)
  have HF : Hid (∀ (w3 w' : World) (y3 y4 y5 y6 : Value), w3.heap[k]? = some (.cells #[lv, rv, .slice none 0 0, y3, y4, y5, y6] 119) → IsH w3 (l.setT i (x, y)) lv F1 → IsH w3 r rv F2 → AnyLater w3 w' → Stays (· ∈ k :: (F1 ++ F2)) w w3 → _) := Lib.hid (fun w3 w' y3 y4 y5 y6 h1 h2 h3 h4 h5 => set_parts (l := l) (r := r) h2 h3 nl2 nr h1 k1 k2 h4 h5)
  obtain ⟨p1, a0, a1, a2, rfl, h1⟩ := hl.noted nl
  obtain ⟨q2, rfl⟩ := hr.ptr
  unfold hnodeC at hk h1 HW
  have s0_w := hk
  have s1_w := h1
  have d1 : decide ((i : Int) - (l.hs.length : Int) < 0) = true := decide_eq_true (by omega)
  have d2 : decide ((i : Int) < (l.hs.length : Int)) = true := decide_eq_true (by omega)
  have d3 : -90000 ≤ (i : Int) - (l.hs.length : Int) := by omega
  have d4 : (i : Int) - (l.hs.length : Int) < 0 := by omega
  clear hl hr hk h1 h ih hf fn hn hx t1 t2 t3 t4 fl f1 f2 v1 v2 e1 hm2 nl2 nl nr ap k1 k2 hi
  generalize (l.setT i (x, y)).hs.length + r.hs.length = N at *
  generalize tlR (l.setT i (x, y)).hs + tlR r.hs = R at *
  generalize tlH (l.setT i (x, y)).hs + tlH r.hs = H at *
  generalize 1 + max (l.setT i (x, y)).lev r.lev = M at *
  generalize l.hs.length = n at *
  have r0_w := own_row s0_w
  have f0_w := own_free s0_w
  have l0_w := own_lt s0_w
  have r1_w := own_row s1_w
  have f1_w := own_free s1_w
  have l1_w := own_lt s1_w
  go_enter Try.func61, Try.ntmps61
  go_wp2_with fail
  first | refine settle_wp (fun wS => AnyLater w wS ∧ wS.heap[w.heap.size]? = some (.cells #[.int .i64 x, .int .i64 y] 33)) ?_ ?_ | refine settle_calls (fun wS => AnyLater w wS ∧ wS.heap[w.heap.size]? = some (.cells #[.int .i64 x, .int .i64 y] 33)) ?_ ?_
  · refine ⟨?_, ?_⟩
    · repeat' (first | with_reducible assumption | with_reducible exact AnyLater.refl _ | with_reducible apply AnyLater.setCell | with_reducible apply AnyLater.later | with_reducible apply AnyLater.drewN | with_reducible apply AnyLater.drew | with_reducible apply AnyLater.alloc | ((try simp only [World.size_alloc, World.size_setCell, World.size_drew]); (try dsimp only); omega))
    · ((repeat (first | with_reducible assumption | ((with_reducible apply heap_new); (try simp only [World.size_alloc, World.size_setCell, World.size_drew, World.heap_drewN]); done) | ((with_reducible apply heap_new); (try simp only [World.size_alloc, World.size_setCell, World.size_drew, World.heap_drewN]); omega) | (with_reducible refine heap_old (by (try simp only [World.size_alloc, World.size_setCell, World.size_drew, World.heap_drewN]); omega) ?_) | (with_reducible refine heap_drew ?_) | (with_reducible refine heap_far (by omega) ?_) | (with_reducible apply heap_at))); all_goals rfl)
  rintro w1 ⟨b_w1, s2_w1⟩
  have a_w1 := b_w1
  have s0_w1 := any_own b_w1 s0_w
  have s1_w1 := any_own b_w1 s1_w
  have r0_w1 := own_row s0_w1
  have f0_w1 := own_free s0_w1
  have l0_w1 := own_lt s0_w1
  have r1_w1 := own_row s1_w1
  have f1_w1 := own_free s1_w1
  have l1_w1 := own_lt s1_w1
  (try clear r0_w); (try clear f0_w)
  (try clear r1_w); (try clear f1_w)
  have r2_w1 := own_row s2_w1
  have f2_w1 := own_free s2_w1
  have l2_w1 := own_lt s2_w1
  have z_w1 := b_w1.below.size
  go_wp2_with fail
  apply wp_region_mem (6) [] (by kernel_rfl) (by kernel_rfl) (by simp)
  case hstab =>
    intro e he v x y hxy hv
    simp only [List.mem_cons, List.not_mem_nil, or_false] at he
  case hlex =>
    intro U
    have q0 := fun (v : Later (later U)) => own_row (any_own ⟨v, rfl⟩ (any_own ⟨U, rfl⟩ s0_w1))
    have q1 := fun (v : Later (later U)) => own_row (any_own ⟨v, rfl⟩ (any_own ⟨U, rfl⟩ s1_w1))
    have q2 := fun (v : Later (later U)) => own_row (any_own ⟨v, rfl⟩ (any_own ⟨U, rfl⟩ s2_w1))
    simp only [absFrom, absOp, idx, List.map_cons, List.map_nil, List.contains_cons, List.contains_nil, Nat.reduceBEq, Bool.or_false, Bool.false_or, Bool.true_or, Bool.or_true, Bool.false_eq_true, Nat.reduceLeDiff, Nat.reduceAdd, if_false, if_true]
    repeat (go_big_quiet_step (fail))
    exact wpQuiet_nil rfl
  case hown =>
    intro e he o ho
    simp only [List.mem_cons, List.not_mem_nil, or_false] at he
  case htail =>
    intro g u hst hne
    have b_w2 : AnyLater w1 (later u) := ⟨u, rfl⟩
    generalize later u = w2 at *
    clear u
    clear hst hne
    simp only [fillAll, Act.put, List.setIfInBounds_toArray, List.set_cons_zero, List.set_cons_succ, List.drop_succ_cons, List.drop_zero]
    have z_w2 := b_w2.below.size
    have a_w2 := a_w1.trans b_w2
    have s0_w2 := any_own b_w2 s0_w1
    have s1_w2 := any_own b_w2 s1_w1
    have s2_w2 := any_own b_w2 s2_w1
    have r0_w2 := own_row s0_w2
    have f0_w2 := own_free s0_w2
    have l0_w2 := own_lt s0_w2
    have r1_w2 := own_row s1_w2
    have f1_w2 := own_free s1_w2
    have l1_w2 := own_lt s1_w2
    have r2_w2 := own_row s2_w2
    have f2_w2 := own_free s2_w2
    have l2_w2 := own_lt s2_w2
    (try clear r0_w1); (try clear f0_w1)
    (try clear r1_w1); (try clear f1_w1)
    (try clear r2_w1); (try clear f2_w1)
    go_wp2_with fail
    refine (HI.out w2 a_w2).mono ?_
    rintro e w3 ⟨rfl, st, hl3⟩
    obtain ⟨hk3, hr3, st3⟩ := HW.out w2 w3 a_w2 st
    have HC := Lib.hid (HR.out w3 _ _ _ _ hk3 hl3 hr3)
    have HD := Lib.hid (fun w' a => HF.out w3 w' _ _ _ _ hk3 hl3 hr3 a st3)
    have HK3 := Lib.hid hk3
    clear st hl3 hr3 st3 hk3 s0_w s1_w s0_w1 s1_w1 s2_w1 s0_w2 s1_w2 s2_w2 r0_w2 r1_w2 r2_w2 f0_w2 f1_w2 f2_w2 l0_w2 l1_w2 l2_w2
    go_wp2_with fail
    refine HC.out.mono ?_
    rintro e w4 ⟨rfl, b4⟩
    have s0_w4 := any_own b4 HK3.out
    have r0_w4 := own_row s0_w4
    have f0_w4 := own_free s0_w4
    have l0_w4 := own_lt s0_w4
    have HZ := Lib.hid (HD.out w4 b4)
    clear b4 s0_w4
    go_wp2_with fail
    refine bodyPost_ret (v := .tuple #[]) (by simp [results, Try.results61, go_sem]) rfl ?_
    exact HZ.out
set_option maxRecDepth 100000 in
set_option maxHeartbeats 1600000 in
theorem hset_right (l r : Ht) (ih : HSets r) (v : Value) (F : List Nat) (i : Nat) (x y : Int) (w : World) (h : IsH w (.node l r) v F) (hf : (Ht.node l r).Fit) (fn : (Ht.node l r).Fine) (hn : (Ht.node l r).bks.Nodup) (hi : ¬ i < l.hs.length) (hi2 : i - l.hs.length < r.hs.length) (hx : TlOk (x, y)) :
    Calls Try.prog 61 #[v, .int .i64 (i : Int), .agg #[.int .i64 x, .int .i64 y]] w (SetsT (.node l r) (.node l (r.setT (i - l.hs.length) (x, y))) v F w) := by
  have hm := hf.most
  rw [Ht.hs, List.length_append] at hm
  obtain ⟨k, lv, rv, F1, F2, rfl, rfl, nl, nr, hk, hl, hr⟩ := id h
  obtain ⟨ap, k1, k2⟩ := set_apart h hl hr hn
  have HI := Lib.hid (fun (w' : World) (a : AnyLater w w') => ih rv F2 (i - l.hs.length) x y w' (hr.later a) hi2 hx)
  have HW : Hid (∀ w2 w3, AnyLater w w2 → Stays (· ∈ F2) w2 w3 → w3.heap[k]? = some (.cells (hnodeC lv rv (.slice none 0 0) (.node l r)) 119) ∧ IsH w3 l lv F1 ∧ Stays (· ∈ k :: (F1 ++ F2)) w w3) := Lib.hid (fun w2 w3 a s =>
    ⟨s.own (any_own a hk) k2, (hl.later a).stays s (fun b hb hb2 => ap b hb hb2), (Stays.of a).trans (s.wide (fun _ _ q => by simp [q]))⟩)
  obtain ⟨t1, t2, t3, t4⟩ := Ht.setT_same r (i - l.hs.length) (x, y)
  have fl := hf.right.setT fn.right (i - l.hs.length) hx
  have f1 := fl.sums
  have f2 := hf.left.sums
  have v1 := fl.lev
  have v2 := hf.left.lev
  have e1 : (r.setT (i - l.hs.length) (x, y)).hs.length = r.hs.length := by rw [Ht.setT_hs, List.length_set]
  have hm2 : l.hs.length + (r.setT (i - l.hs.length) (x, y)).hs.length ≤ 90000 := by omega
  have nr2 : r.setT (i - l.hs.length) (x, y) ≠ .nil := fun e => nr (t3.1 e)
  have HR : Hid (∀ (w3 : World) (y3 y4 y5 y6 : Value), w3.heap[k]? = some (.cells #[lv, rv, .slice none 0 0, y3, y4, y5, y6] 119) → IsH w3 l lv F1 → IsH w3 (r.setT (i - l.hs.length) (x, y)) rv F2 → Calls Try.prog 76 #[.pointer (some ⟨k, 0, none⟩)] w3 fun e w' => e = .returned (.agg #[.int .i64 ((l.hs.length + (r.setT (i - l.hs.length) (x, y)).hs.length : Nat) : Int), .int .i64 (tlR l.hs + tlR (r.setT (i - l.hs.length) (x, y)).hs), .int .i64 (tlH l.hs + tlH (r.setT (i - l.hs.length) (x, y)).hs), .int .i64 ((1 + max l.lev (r.setT (i - l.hs.length) (x, y)).lev : Nat) : Int)]) ∧ AnyLater w3 w') := Lib.hid (fun w3 y3 y4 y5 y6 h1 h2 h3 => by
    obtain ⟨q1, a0, a1, a2, g1, g2⟩ := h2.noted nl
    obtain ⟨q2, b0, b1, b2, g3, g4⟩ := h3.noted nr2
    unfold hnodeC at g2 g4
    rw [g1, g3] at h1
    exact reckoned_two k q1 q2 (.slice none 0 0) _ _ _ _ a0 a1 a2 b0 b1 b2 _ _ _ _ _ _ _ _ w3 h1 g2 g4 hm2 ⟨v2, v1⟩ ⟨by omega, by omega⟩ ⟨by omega, by omega⟩)
  have HF : Hid (∀ (w3 w' : World) (y3 y4 y5 y6 : Value), w3.heap[k]? = some (.cells #[lv, rv, .slice none 0 0, y3, y4, y5, y6] 119) → IsH w3 l lv F1 → IsH w3 (r.setT (i - l.hs.length) (x, y)) rv F2 → AnyLater w3 w' → Stays (· ∈ k :: (F1 ++ F2)) w w3 → _) := Lib.hid (fun w3 w' y3 y4 y5 y6 h1 h2 h3 h4 h5 => set_parts (l := l) (r := r) h2 h3 nl nr2 h1 k1 k2 h4 h5)
  obtain ⟨p1, a0, a1, a2, rfl, h1⟩ := hl.noted nl
  obtain ⟨q2, rfl⟩ := hr.ptr
  unfold hnodeC at hk h1 HW
  have hj : ((i - l.hs.length : Nat) : Int) = (i : Int) - (l.hs.length : Int) := by omega
  rw [hj] at HI
  have s0_w := hk
  have s1_w := h1
  have d1 : decide ((i : Int) - (l.hs.length : Int) < 0) = false := decide_eq_false (by omega)
  have d2 : decide ((i : Int) < (l.hs.length : Int)) = false := decide_eq_false (by omega)
  have d3 : 0 ≤ (i : Int) - (l.hs.length : Int) := by omega
  have d4 : (i : Int) - (l.hs.length : Int) ≤ 90000 := by omega
  clear hl hr hk h1 h ih hf fn hn hx t1 t2 t3 t4 fl f1 f2 v1 v2 e1 hm2 nr2 nl nr ap k1 k2 hi hi2 hj
  generalize r.setT (i - l.hs.length) (x, y) = r2 at *
  generalize l.hs.length + r2.hs.length = N at *
  generalize tlR l.hs + tlR r2.hs = R at *
  generalize tlH l.hs + tlH r2.hs = H at *
  generalize 1 + max l.lev r2.lev = M at *
  generalize l.hs.length = n at *
  have r0_w := own_row s0_w
  have f0_w := own_free s0_w
  have l0_w := own_lt s0_w
  have r1_w := own_row s1_w
  have f1_w := own_free s1_w
  have l1_w := own_lt s1_w
  go_enter Try.func61, Try.ntmps61
  go_wp2_with fail
  first | refine settle_wp (fun wS => AnyLater w wS ∧ wS.heap[w.heap.size]? = some (.cells #[.int .i64 x, .int .i64 y] 33)) ?_ ?_ | refine settle_calls (fun wS => AnyLater w wS ∧ wS.heap[w.heap.size]? = some (.cells #[.int .i64 x, .int .i64 y] 33)) ?_ ?_
  · refine ⟨?_, ?_⟩
    · repeat' (first | with_reducible assumption | with_reducible exact AnyLater.refl _ | with_reducible apply AnyLater.setCell | with_reducible apply AnyLater.later | with_reducible apply AnyLater.drewN | with_reducible apply AnyLater.drew | with_reducible apply AnyLater.alloc | ((try simp only [World.size_alloc, World.size_setCell, World.size_drew]); (try dsimp only); omega))
    · ((repeat (first | with_reducible assumption | ((with_reducible apply heap_new); (try simp only [World.size_alloc, World.size_setCell, World.size_drew, World.heap_drewN]); done) | ((with_reducible apply heap_new); (try simp only [World.size_alloc, World.size_setCell, World.size_drew, World.heap_drewN]); omega) | (with_reducible refine heap_old (by (try simp only [World.size_alloc, World.size_setCell, World.size_drew, World.heap_drewN]); omega) ?_) | (with_reducible refine heap_drew ?_) | (with_reducible refine heap_far (by omega) ?_) | (with_reducible apply heap_at))); all_goals rfl)
  rintro w1 ⟨b_w1, s2_w1⟩
  have a_w1 := b_w1
  have s0_w1 := any_own b_w1 s0_w
  have s1_w1 := any_own b_w1 s1_w
  have r0_w1 := own_row s0_w1
  have f0_w1 := own_free s0_w1
  have l0_w1 := own_lt s0_w1
  have r1_w1 := own_row s1_w1
  have f1_w1 := own_free s1_w1
  have l1_w1 := own_lt s1_w1
  (try clear r0_w); (try clear f0_w)
  (try clear r1_w); (try clear f1_w)
  have r2_w1 := own_row s2_w1
  have f2_w1 := own_free s2_w1
  have l2_w1 := own_lt s2_w1
  have z_w1 := b_w1.below.size
  go_wp2_with fail
  apply wp_region_mem (6) [] (by kernel_rfl) (by kernel_rfl) (by simp)
  case hstab =>
    intro e he v x y hxy hv
    simp only [List.mem_cons, List.not_mem_nil, or_false] at he
  case hlex =>
    intro U
    have q0 := fun (v : Later (later U)) => own_row (any_own ⟨v, rfl⟩ (any_own ⟨U, rfl⟩ s0_w1))
    have q1 := fun (v : Later (later U)) => own_row (any_own ⟨v, rfl⟩ (any_own ⟨U, rfl⟩ s1_w1))
    have q2 := fun (v : Later (later U)) => own_row (any_own ⟨v, rfl⟩ (any_own ⟨U, rfl⟩ s2_w1))
    simp only [absFrom, absOp, idx, List.map_cons, List.map_nil, List.contains_cons, List.contains_nil, Nat.reduceBEq, Bool.or_false, Bool.false_or, Bool.true_or, Bool.or_true, Bool.false_eq_true, Nat.reduceLeDiff, Nat.reduceAdd, if_false, if_true]
    repeat (go_big_quiet_step (fail))
    exact wpQuiet_nil rfl
  case hown =>
    intro e he o ho
    simp only [List.mem_cons, List.not_mem_nil, or_false] at he
  case htail =>
    intro g u hst hne
    have b_w2 : AnyLater w1 (later u) := ⟨u, rfl⟩
    generalize later u = w2 at *
    clear u
    clear hst hne
    simp only [fillAll, Act.put, List.setIfInBounds_toArray, List.set_cons_zero, List.set_cons_succ, List.drop_succ_cons, List.drop_zero]
    have z_w2 := b_w2.below.size
    have a_w2 := a_w1.trans b_w2
    have s0_w2 := any_own b_w2 s0_w1
    have s1_w2 := any_own b_w2 s1_w1
    have s2_w2 := any_own b_w2 s2_w1
    have r0_w2 := own_row s0_w2
    have f0_w2 := own_free s0_w2
    have l0_w2 := own_lt s0_w2
    have r1_w2 := own_row s1_w2
    have f1_w2 := own_free s1_w2
    have l1_w2 := own_lt s1_w2
    have r2_w2 := own_row s2_w2
    have f2_w2 := own_free s2_w2
    have l2_w2 := own_lt s2_w2
    (try clear r0_w1); (try clear f0_w1)
    (try clear r1_w1); (try clear f1_w1)
    (try clear r2_w1); (try clear f2_w1)
    go_wp2_with fail
    refine (HI.out w2 a_w2).mono ?_
    rintro e w3 ⟨rfl, st, hr3⟩
    obtain ⟨hk3, hl3, st3⟩ := HW.out w2 w3 a_w2 st
    have HC := Lib.hid (HR.out w3 _ _ _ _ hk3 hl3 hr3)
    have HD := Lib.hid (fun w' a => HF.out w3 w' _ _ _ _ hk3 hl3 hr3 a st3)
    have HK3 := Lib.hid hk3
    clear st hl3 hr3 st3 hk3 s0_w s1_w s0_w1 s1_w1 s2_w1 s0_w2 s1_w2 s2_w2 r0_w2 r1_w2 r2_w2 f0_w2 f1_w2 f2_w2 l0_w2 l1_w2 l2_w2
    go_wp2_with fail
    refine HC.out.mono ?_
    rintro e w4 ⟨rfl, b4⟩
    have s0_w4 := any_own b4 HK3.out
    have r0_w4 := own_row s0_w4
    have f0_w4 := own_free s0_w4
    have l0_w4 := own_lt s0_w4
    have HZ := Lib.hid (HD.out w4 b4)
    clear b4 s0_w4
    go_wp2_with fail
    refine bodyPost_ret (v := .tuple #[]) (by simp [results, Try.results61, go_sem]) rfl ?_
    exact HZ.out
theorem hset_any : ∀ (t : Ht), t.Fit → t.Fine → t.bks.Nodup → HSets t
  | .nil, _, _, _, v, F, i, x, y, w, h, hi, hx => by simp [Ht.hs] at hi
  | .leaf b l, hf, _, _, v, F, i, x, y, w, h, hi, hx => hset_leaf b l v F i x y w h hf hi hx
  | .node l r, hf, fn, hn, v, F, i, x, y, w, h, hi, hx => by
    rw [Ht.hs, List.length_append] at hi
    obtain ⟨n1, n2, _⟩ := List.nodup_append.1 (show (l.bks ++ r.bks).Nodup from hn)
    unfold Ht.setT
    split
    · rename_i hc
      exact hset_left l r (hset_any l hf.left fn.left n1) v F i x y w h hf fn hn hc hx
    · rename_i hc
      exact hset_right l r (hset_any r hf.right fn.right n2) v F i x y w h hf fn hn hc (by omega) hx
end Go.Proofs.Ytjoadlfkdkeomaa
