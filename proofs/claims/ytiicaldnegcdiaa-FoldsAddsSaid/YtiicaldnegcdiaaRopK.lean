/- rope: calc's Clamp and Span; what lies between two places of a tree, handed out piece by piece: by contract. -/
import Derived.Test.YtiicaldnegcdiaaRopI
namespace Go.Proofs.Ytiicaldnegcdiaa
set_option linter.unusedSimpArgs false
set_option linter.unusedVariables false
set_option linter.unusedSectionVars false
open Go.RowKit

/-! ### calc -/
theorem ret_z {a b : Int} (h : a = b) : Ending.returned (.int .i64 a) = .returned (.int .i64 b) := by rw [h]
def midZ (n low high : Int) : Int := if n < low ∨ high < low then low else if high < n then high else n
theorem rclamp_any (n low high : Int) (w : World) (c : Int) (hc : midZ n low high = c) :
    Calls Try.prog 77 #[.int .i64 n, .int .i64 low, .int .i64 high] w fun e w' => e = .returned (.int .i64 c) ∧ w = w' := by
  subst hc
  by_cases h1 : n < low
  · have Q : Hid (low = midZ n low high) := Lib.hid (by unfold midZ; rw [if_pos (.inl h1)])
    go_enter Try.func77, Try.ntmps77
    go_wp2
    go_ret
    exact ⟨ret_z Q.out, rfl⟩
  · by_cases h2 : high < low
    · have Q : Hid (low = midZ n low high) := Lib.hid (by unfold midZ; rw [if_pos (.inr h2)])
      go_enter Try.func77, Try.ntmps77
      go_wp2
      go_ret
      exact ⟨ret_z Q.out, rfl⟩
    · by_cases h3 : high < n
      · have Q : Hid (high = midZ n low high) := Lib.hid (by unfold midZ; rw [if_neg (by omega), if_pos h3])
        go_enter Try.func77, Try.ntmps77
        go_wp2
        go_ret
        exact ⟨ret_z (by rw [← Q.out]; omega), rfl⟩
      · have Q : Hid (n = midZ n low high) := Lib.hid (by unfold midZ; rw [if_neg (by omega), if_neg h3])
        go_enter Try.func77, Try.ntmps77
        go_wp2
        go_ret
        exact ⟨ret_z (by rw [← Q.out]; omega), rfl⟩
def In3 (a n all : Int) : Prop := 0 ≤ a ∧ a ≤ all ∧ 0 ≤ n ∧ n ≤ all - a
theorem rspan_yes (a n all : Int) (w : World) (h : In3 a n all) (ha : all ≤ 16777216) :
    Calls Try.prog 74 #[.int .i64 a, .int .i64 n, .int .i64 all] w fun e w' => e = .returned (.tuple #[.int .i64 a, .int .i64 (a + n), .bool true]) ∧ w = w' := by
  obtain ⟨h1, h2, h3, h4⟩ := h
  go_enter Try.func74, Try.ntmps74
  go_wp2
  refine bodyPost_ret (v := .tuple #[.int .i64 a, .int .i64 (a + n), .bool true]) (by simp [results, Try.results74, go_sem]) rfl ?_
  exact ⟨rfl, rfl⟩
theorem rspan_no (a n all : Int) (w : World) (h : ¬ In3 a n all) (ha : all ≤ 16777216) (h0 : 0 ≤ all) :
    Calls Try.prog 74 #[.int .i64 a, .int .i64 n, .int .i64 all] w fun e w' => e = .returned (.tuple #[.int .i64 0, .int .i64 0, .bool false]) ∧ w = w' := by
  by_cases h1 : a < 0
  · clear h
    go_enter Try.func74, Try.ntmps74
    go_wp2
    refine bodyPost_ret (v := .tuple #[.int .i64 0, .int .i64 0, .bool false]) (by simp [results, Try.results74, go_sem]) rfl ?_
    exact ⟨rfl, rfl⟩
  · by_cases h2 : all < a
    · clear h
      go_enter Try.func74, Try.ntmps74
      go_wp2
      refine bodyPost_ret (v := .tuple #[.int .i64 0, .int .i64 0, .bool false]) (by simp [results, Try.results74, go_sem]) rfl ?_
      exact ⟨rfl, rfl⟩
    · by_cases h3 : n < 0
      · clear h
        go_enter Try.func74, Try.ntmps74
        go_wp2
        refine bodyPost_ret (v := .tuple #[.int .i64 0, .int .i64 0, .bool false]) (by simp [results, Try.results74, go_sem]) rfl ?_
        exact ⟨rfl, rfl⟩
      · have h4 : all - a < n := by
          rcases Int.lt_or_le (all - a) n with h4 | h4
          · exact h4
          · exact absurd ⟨by omega, by omega, by omega, h4⟩ h
        clear h
        go_enter Try.func74, Try.ntmps74
        go_wp2
        refine bodyPost_ret (v := .tuple #[.int .i64 0, .int .i64 0, .bool false]) (by simp [results, Try.results74, go_sem]) rfl ?_
        exact ⟨rfl, rfl⟩

/-! ### from a place on, ahead of another one -/
def cutZ (l : List Int) (f t : Int) : List Int := (l.take t.toNat).drop f.toNat
theorem cutZ_append (a b : List Int) (f t : Int) : cutZ (a ++ b) f t = cutZ a f t ++ cutZ b (f - a.length) (t - a.length) := by
  unfold cutZ
  rw [List.take_append, List.drop_append, List.length_take]
  congr 1
  rcases Nat.le_total a.length t.toNat with h | h
  · rw [Nat.min_eq_right h]
    congr 1
    · omega
    · congr 1; omega
  · have e1 : t.toNat - a.length = 0 := by omega
    have e2 : (t - (a.length : Int)).toNat = 0 := by omega
    rw [e1, e2]; simp
theorem cutZ_none {l : List Int} {f t : Int} (h : t ≤ f ∨ (l.length : Int) ≤ f ∨ t ≤ 0) : cutZ l f t = [] := by
  unfold cutZ
  apply List.drop_of_length_le
  rw [List.length_take]
  omega
theorem cutZ_length_le (l : List Int) (f t : Int) : (cutZ l f t).length ≤ l.length := by
  unfold cutZ
  rw [List.length_drop, List.length_take]; omega
theorem cutZ_some {l : List Int} {f t : Int} {i j : Nat} (hi : (i : Int) = midZ f 0 l.length) (hj : (j : Int) = midZ t 0 l.length) (hij : i < j) : cutZ l f t = (l.drop i).take (j - i) := by
  unfold cutZ
  unfold midZ at hi hj
  have e1 : l.take t.toNat = l.take j := by
    split at hj
    · omega
    · split at hj
      · rw [List.take_of_length_le (by omega), List.take_of_length_le (by omega)]
      · congr 1; omega
  have e2 : f.toNat = i := by
    split at hi
    · omega
    · split at hi
      · split at hj <;> (try split at hj) <;> omega
      · omega
  rw [e1, e2, List.drop_take]
set_option maxRecDepth 100000 in
theorem RN.mid {w : World} {v : Value} {l : List Int} (h : RN .u8 w v l) (lo hi : Nat) (h1 : lo < hi) (h2 : hi ≤ l.length) : ∃ A cap, RN .u8 w (.slice A (hi - lo) cap) ((l.drop lo).take (hi - lo)) ∧
    ∀ w', (Instr.sliceAt 38 v (some (.int .i64 (lo : Int))) (some (.int .i64 (hi : Int))) none).run Try.prog w' = .ok (.slice A (hi - lo) cap) w' := by
  obtain ⟨A, cap, rfl, h3, h4⟩ := h
  obtain ⟨b, off, rfl, hb, hc⟩ := h4 (by omega)
  have hl : ((l.drop lo).take (hi - lo)).length = hi - lo := by rw [List.length_take, List.length_drop]; omega
  refine ⟨some ⟨b, off + lo, none⟩, cap - lo, ⟨_, _, by rw [hl], by rw [hl]; omega, fun _ => ⟨b, off + lo, rfl, hb, fun j hj => ?_⟩⟩, fun w' => ?_⟩
  · rw [hl] at hj
    rw [Nat.add_assoc, hc (lo + j) (by omega), List.getElem_take, List.getElem_drop]
  · rw [run_sliceAt_slice w' _ _ _ _ _ Try.underlying38, run_slice_lh w' _ (some ⟨b, off, none⟩) l.length cap Try.underlying38 .i64 .i64 (lo : Int) (hi : Int) (by omega) (by omega) (by omega)]
    have hz : ∀ w, (Go.sizeOf (Try.prog.elem 38)).run Try.prog w = .ok 1 w := fun w => by simp [go_sem]
    rw [hz]
    simp only [Result.andThen, sliced, Int.toNat_natCast, Nat.mul_one]
    rw [if_neg (by omega), Option.map_some, addr_add]

/-! ### what is handed out -/
/-- the variable at X holds a row of the call's own, which reads as these bytes -/
def OutS (W : World) (X : Nat) (w : World) (L : List Int) : Prop := AnyLater W w ∧ ∃ ov, w.heap[X]? = some (.cells #[ov] 38) ∧ ON .u8 5 w W.heap.size ov L
/-- append(v, u...) onto a row of bytes of the call's own -/
theorem app8 {w : World} {B : Nat} {v u : Value} {l m : List Int} (ho : ON .u8 5 w B v l) (hm : RN .u8 w u m) (hB : B ≤ w.heap.size) (hlen : l.length + m.length ≤ 100000) :
    ∃ v' w', (Builtin.append_ #[38, 38] 38 #[v, u]).run Try.prog w = .ok v' w' ∧ ON .u8 5 w' B v' (l ++ m) ∧ w.grownBy w' v.ownBlock := appN (s := 38) Try.underlying38 info_u8 (by decide) ho hm hB hlen
set_option maxRecDepth 100000 in
theorem put_any (W : World) (X : Nat) (u : Value) (L M : List Int) (w : World) (hX : W.heap.size ≤ X) (h : OutS W X w L) (hm : RN .u8 w u M) (hl : L.length + M.length ≤ 100000) :
    Calls Try.prog 79 #[u, .pointer (some ⟨X, 0, none⟩)] w fun e w' => e = .returned (.tuple #[]) ∧ OutS W X w' (L ++ M) := by
  obtain ⟨hW, ov, hx, ho⟩ := h
  obtain ⟨v', w2, k1, k2, k3⟩ := app8 ho hm hW.below.size hl
  have hne := owns_ne ho hx (by decide)
  have hx2 := grown_block k3 hx hne
  have HK : Hid (AnyLater W w2 ∧ w2.heap[X]? = some (.cells #[ov] 38) ∧ ON .u8 5 w2 W.heap.size v' (L ++ M)) := Lib.hid ⟨ON.grown ho (Nat.le_refl _) hW k3, hx2, k2⟩
  have K1 := Lib.hid k1
  obtain ⟨A, cap, rfl, -⟩ := ho.form
  obtain ⟨A2, cap2, rfl, -⟩ := hm.form
  obtain ⟨A3, cap3, rfl, -⟩ := k2.form
  have r1 := own_row hx
  have r2 := own_row HK.out.2.1
  have f2 := own_free HK.out.2.1
  clear hW hx ho k1 k2 k3 hne hx2 hm
  generalize L.length = n1 at *
  generalize M.length = n2 at *
  generalize (L ++ M).length = n3 at *
  go_enter Try.func79, Try.ntmps79
  go_wp2_with (at_builtin; refine Lib.wpList_append_run _ rfl _ _ _ _ rfl _ _ rfl rfl _ _ K1.out ?_)
  go_end0
  refine ⟨rfl, ?_⟩
  exact ⟨HK.out.1.setCell hX _, _, heap_at HK.out.2.1 rfl, owns_set HK.out.2.1 (by decide) _ _ HK.out.2.2⟩
theorem OutS.len {W w : World} {X : Nat} {L : List Int} (h : OutS W X w L) : AnyLater W w := h.1
/-- a later world in which nothing of the call's own was touched -/
theorem OutS.later {W w w' : World} {X : Nat} {L : List Int} (h : OutS W X w L) (ha : AnyLater w w') : OutS W X w' L := by
  obtain ⟨hW, ov, hx, ho⟩ := h
  exact ⟨hW.trans ha, ov, any_own ha hx, ho.later ha⟩
set_option maxRecDepth 100000 in
theorem each_nil (W : World) (X : Nat) (L : List Int) (f t : Int) (w : World) (h : OutS W X w L) :
    Calls Try.prog 78 #[.pointer none, .int .i64 f, .int .i64 t, .func (.func 79) #[] #[.pointer (some ⟨X, 0, none⟩)]] w fun e w' => e = .returned (.tuple #[]) ∧ OutS W X w' L := by
  have H := Lib.hid h
  clear h
  go_enter Try.func78, Try.ntmps78
  go_wp2_with fail
  refine bodyPost_ret (v := .tuple #[]) (by simp [results, Try.results78, go_sem]) rfl ⟨rfl, ?_⟩
  exact H.out
set_option maxRecDepth 100000 in
theorem each_off (W : World) (X : Nat) (L : List Int) (l r : Tr) (p : Pc) (v : Value) (f t : Int) (w : World) (hv : IsT W (.node l p r) v) (h : OutS W X w L) (hc : ((Tr.node l p r).len : Int) ≤ f ∨ t ≤ 0) :
    Calls Try.prog 78 #[v, .int .i64 f, .int .i64 t, .func (.func 79) #[] #[.pointer (some ⟨X, 0, none⟩)]] w fun e w' => e = .returned (.tuple #[]) ∧ OutS W X w' L := by
  have H := Lib.hid h
  obtain ⟨k, lv, rv, bv, fv, rfl, hk, -⟩ := IsT.later h.1 hv
  have r0 := own_row hk
  unfold nodeC at r0
  clear h hk hv
  generalize (Tr.node l p r).len = n at *
  by_cases h1 : (n : Int) ≤ f
  · clear hc
    go_enter Try.func78, Try.ntmps78
    go_wp2_with fail
    refine bodyPost_ret (v := .tuple #[]) (by simp [results, Try.results78, go_sem]) rfl ⟨rfl, ?_⟩
    exact H.out
  · have h2 : t ≤ 0 := by omega
    have d1 : decide ((n : Int) ≤ f) = false := decide_eq_false h1
    clear hc h1
    go_enter Try.func78, Try.ntmps78
    go_wp2_with fail
    refine bodyPost_ret (v := .tuple #[]) (by simp [results, Try.results78, go_sem]) rfl ⟨rfl, ?_⟩
    exact H.out
def EachDo (W : World) (X : Nat) (t : Tr) : Prop := ∀ (v : Value) (x y : Int) (w : World) (L : List Int), IsT W t v → OutS W X w L → L.length + t.len ≤ 90000 → (t.len : Int) ≤ x + 90000 → x ≤ 90000 → (t.len : Int) ≤ y + 90000 → y ≤ 90000 →
    Calls Try.prog 78 #[v, .int .i64 x, .int .i64 y, .func (.func 79) #[] #[.pointer (some ⟨X, 0, none⟩)]] w fun e w' => e = .returned (.tuple #[]) ∧ OutS W X w' (L ++ cutZ t.bs x y)
theorem midZ_cast (x : Int) (s n : Nat) : ∃ i : Nat, midZ x s ((s + n : Nat) : Int) = ((s + i : Nat) : Int) ∧ i ≤ n ∧ (i : Int) = midZ (x - s) 0 n := by
  refine ⟨(midZ (x - s) 0 n).toNat, ?_, ?_, ?_⟩
  all_goals
    unfold midZ
    split
    · (try split) <;> omega
    · (try split) <;> (try split) <;> omega
set_option maxRecDepth 100000 in
set_option maxHeartbeats 3200000 in
theorem each_on (W : World) (X : Nat) (hX : W.heap.size ≤ X) (l r : Tr) (p : Pc) (ihl : EachDo W X l) (ihr : EachDo W X r) (v : Value) (x y : Int) (w : World) (L : List Int) (hv : IsT W (.node l p r) v) (h : OutS W X w L)
    (hl : L.length + (Tr.node l p r).len ≤ 90000) (h1 : ((Tr.node l p r).len : Int) ≤ x + 90000) (h2 : x ≤ 90000) (h3 : ((Tr.node l p r).len : Int) ≤ y + 90000) (h4 : y ≤ 90000) (hc : x < ((Tr.node l p r).len : Int)) (hc2 : 0 < y) :
    Calls Try.prog 78 #[v, .int .i64 x, .int .i64 y, .func (.func 79) #[] #[.pointer (some ⟨X, 0, none⟩)]] w fun e w' => e = .returned (.tuple #[]) ∧ OutS W X w' (L ++ cutZ (Tr.node l p r).bs x y) := by
  have HN := Lib.hid (fun (w' : World) (b : AnyLater W w') => ends_any l r p v w' (IsT.later b hv) (by omega))
  obtain ⟨k, lv, rv, bv, fv, rfl, hk, hvl, hvr, hp⟩ := hv
  have hn2 : (Tr.node l p r).len = l.len + p.b.length + r.len := rfl
  obtain ⟨i, ei, hi, mi⟩ := midZ_cast x l.len p.b.length
  obtain ⟨j, ej, hj, mj⟩ := midZ_cast y l.len p.b.length
  have eb : cutZ (Tr.node l p r).bs x y = cutZ l.bs x y ++ (cutZ p.b (x - l.len) (y - l.len) ++ cutZ r.bs (x - ((l.len : Int) + (p.b.length : Int))) (y - ((l.len : Int) + (p.b.length : Int)))) := by
    rw [Tr.bs, cutZ_append, cutZ_append, Tr.len_bs, show x - (l.len : Int) - (p.b.length : Int) = x - ((l.len : Int) + (p.b.length : Int)) by omega, show y - (l.len : Int) - (p.b.length : Int) = y - ((l.len : Int) + (p.b.length : Int)) by omega]
  have k1 := cutZ_length_le l.bs x y
  have k2 := cutZ_length_le p.b (x - l.len) (y - l.len)
  rw [Tr.len_bs] at k1
  have HL := Lib.hid (fun (w' : World) (hw : OutS W X w' L) => ihl lv x y w' L hvl hw (by omega) (by omega) h2 (by omega) h4)
  have HR := Lib.hid (fun (w' : World) (hw : OutS W X w' (L ++ cutZ l.bs x y ++ cutZ p.b (x - l.len) (y - l.len))) => ihr rv (x - ((l.len : Int) + (p.b.length : Int))) (y - ((l.len : Int) + (p.b.length : Int))) w' _ hvr hw (by rw [List.length_append, List.length_append]; omega) (by omega) (by omega) (by omega) (by omega))
  have HM1 := Lib.hid (fun w' => rclamp_any x l.len ((l.len : Int) + (p.b.length : Int)) w' _ ((congrArg (midZ x l.len) (by omega)).trans ei))
  have HM2 := Lib.hid (fun w' => rclamp_any y l.len ((l.len : Int) + (p.b.length : Int)) w' _ ((congrArg (midZ y l.len) (by omega)).trans ej))
  have HE : Hid (∀ w', OutS W X w' (L ++ cutZ l.bs x y ++ cutZ p.b (x - l.len) (y - l.len) ++ cutZ r.bs (x - ((l.len : Int) + (p.b.length : Int))) (y - ((l.len : Int) + (p.b.length : Int)))) → OutS W X w' (L ++ cutZ (Tr.node l p r).bs x y)) := Lib.hid (fun w' hw => by rw [eb, ← List.append_assoc, ← List.append_assoc]; exact hw)
  have HK := Lib.hid hk
  have HP : Hid (i < j → ∃ A cap, RN .u8 W (.slice A (j - i) cap) (cutZ p.b (x - l.len) (y - l.len)) ∧ ∀ w', (Instr.sliceAt 38 bv (some (.int .i64 (i : Int))) (some (.int .i64 (j : Int))) none).run Try.prog w' = .ok (.slice A (j - i) cap) w') := Lib.hid (fun hij => by
    rw [cutZ_some mi mj hij]
    exact RN.mid hp.1.rn i j hij (by omega))
  have HP0 : Hid (¬ i < j → cutZ p.b (x - l.len) (y - l.len) = []) := Lib.hid (fun hij => by
    unfold cutZ
    apply List.drop_of_length_le
    rw [List.length_take]
    unfold midZ at mi mj
    split at mi <;> (try split at mi) <;> split at mj <;> (try split at mj) <;> omega)
  obtain ⟨A, cap, rfl, -⟩ := hp.1.form
  have HQ := Lib.hid (fun (u : Value) (w' : World) (M : List Int) (hw : OutS W X w' (L ++ cutZ l.bs x y)) (hm : RN .u8 w' u (cutZ p.b (x - l.len) (y - l.len))) => put_any W X u _ _ w' hX hw hm (by rw [List.length_append]; omega))
  have b1 : l.len ≤ 90000 := by omega
  have b2 : p.b.length ≤ 90000 := by omega
  have H0 := Lib.hid h
  have s0_w := any_own h.1 hk
  have r0_w := own_row s0_w
  unfold nodeC at HK r0_w
  have hx0 : x < ((Tr.node l p r).len : Int) := hc
  clear hvl hvr hp hk h hl hn2 eb k1 k2 ei ej mi mj ihl ihr s0_w
  generalize (cutZ r.bs (x - ((l.len : Int) + (p.b.length : Int))) (y - ((l.len : Int) + (p.b.length : Int)))) = D3 at *
  generalize cutZ p.b (x - l.len) (y - l.len) = D2 at *
  generalize cutZ l.bs x y = D1 at *
  generalize p.b.length = n at *
  generalize p.base = b0 at *
  generalize l.len = e1 at *
  generalize (Tr.node l p r).len = N at *
  have d1 : decide ((N : Int) ≤ x) = false := decide_eq_false (by omega)
  have d2 : decide (y ≤ 0) = false := decide_eq_false (by omega)
  go_enter Try.func78, Try.ntmps78
  go_wp2_with fail
  refine (HN.out _ H0.out.1).mono ?_
  rintro e w1 ⟨rfl, b_w1⟩
  have H1 := Lib.hid (H0.out.later b_w1)
  have r1 := own_row (any_own H1.out.1 HK.out)
  clear r0_w b_w1
  go_wp2_with fail
  refine (HL.out _ H1.out).mono ?_
  rintro e w2 ⟨rfl, o2⟩
  have H2 := Lib.hid o2
  have r2 := own_row (any_own o2.1 HK.out)
  clear r1 o2
  go_wp2_with fail
  refine (HM1.out _).mono ?_
  rintro e w2' ⟨rfl, rfl⟩
  go_wp2_with fail
  refine (HM2.out _).mono ?_
  rintro e w2' ⟨rfl, rfl⟩
  by_cases hij : i < j
  · obtain ⟨A9, cap9, m1, m2⟩ := HP.out hij
    have M1 := Lib.hid m1
    have d4 : (e1 : Int) + (i : Int) < (e1 : Int) + (j : Int) := by omega
    have d5 : (e1 : Int) + (i : Int) - (e1 : Int) = (i : Int) := by omega
    have d6 : (e1 : Int) + (j : Int) - (e1 : Int) = (j : Int) := by omega
    clear m1
    go_wp2_with fail
    refine (HQ.out _ _ [] H2.out (M1.out.later H2.out.1)).mono ?_
    rintro e w3 ⟨rfl, o3⟩
    have H3 := Lib.hid o3
    have r3 := own_row (any_own o3.1 HK.out)
    clear r2 o3
    go_wp2_with fail
    refine (HR.out _ H3.out).mono ?_
    rintro e w4 ⟨rfl, o4⟩
    have H4 := Lib.hid (HE.out _ o4)
    clear o4
    go_wp2_with fail
    go_end0
    exact ⟨rfl, H4.out⟩
  · have M2 := HP0.out hij
    have H3 : Hid (OutS W X w2 (L ++ D1 ++ D2)) := Lib.hid (by rw [M2, List.append_nil]; exact H2.out)
    have d4 : decide ((e1 : Int) + (i : Int) < (e1 : Int) + (j : Int)) = false := decide_eq_false (by omega)
    have d5 : decide (i < j) = false := decide_eq_false hij
    clear M2 hij
    go_wp2_with fail
    refine (HR.out _ H3.out).mono ?_
    rintro e w4 ⟨rfl, o4⟩
    have H4 := Lib.hid (HE.out _ o4)
    clear o4
    go_wp2_with fail
    go_end0
    exact ⟨rfl, H4.out⟩
theorem each_any (W : World) (X : Nat) (hX : W.heap.size ≤ X) : ∀ t : Tr, EachDo W X t
  | .nil => fun v x y w L hv h _ _ _ _ _ => by
    obtain rfl : v = .pointer none := hv
    have e : cutZ Tr.nil.bs x y = [] := by simp [cutZ, Tr.bs]
    rw [e, List.append_nil]
    exact each_nil W X L x y w h
  | .node l p r => fun v x y w L hv h hl h1 h2 h3 h4 => by
    by_cases hc : ((Tr.node l p r).len : Int) ≤ x ∨ y ≤ 0
    · have e : cutZ (Tr.node l p r).bs x y = [] := cutZ_none (by rw [Tr.len_bs]; omega)
      rw [e, List.append_nil]
      exact each_off W X L l r p v x y w hv h hc
    · exact each_on W X hX l r p (each_any W X hX l) (each_any W X hX r) v x y w L hv h hl h1 h2 h3 h4 (by omega) (by omega)
end Go.Proofs.Ytiicaldnegcdiaa
