/- undo: the document's Push, by contract. -/
import Derived.Test.YtnbchaigbkblfaaUndX
namespace Go.Proofs.Ytnbchaigbkblfaa
set_option linter.unusedSimpArgs false
set_option linter.unusedVariables false
set_option linter.unusedSectionVars false
open Go.RowKit

/-- what is known while some of it has been done -/
structure InvX (w0 : World) (X Y : List Int) (n : Int) (L : Nat → Bool) (g : Nat → Value) (x : World) : Prop where
  any : AnyLater w0 x
  e0 : L 0 = true → L 10 = false → ∃ b, g 0 = .slice (some ⟨b, 0, none⟩) 0 0 ∧ w0.heap.size ≤ b ∧ x.heap[b]? = some (.cells #[] 3)
  e10 : L 10 = true → L 13 = false → ON .i64 3 x w0.heap.size (g 10) X
  e12 : L 12 = true → L 13 = false → ∃ h, g 12 = .slice (some ⟨h, 0, none⟩) 1 1 ∧ x.heap[h]? = some (.cells #[.int .i64 n] 3)
  e13 : L 13 = true → ON .i64 3 x w0.heap.size (g 13) Y
  o13 : L 13 = true → L 10 = true
section
variable {w0 : World} {X Y : List Int} {n : Int} {L : Nat → Bool} {g : Nat → Value} {x : World}
theorem InvX.init : InvX w0 X Y n (fun _ => false) (fun _ => undef) w0.drew :=
  ⟨(AnyLater.refl w0).drew, (fun h => by cases h), (fun h => by cases h), (fun h => by cases h), (fun h => by cases h), (fun h => by cases h)⟩
theorem InvX.cong {L' : Nat → Bool} (h : InvX w0 X Y n L g x) (h0 : L 0 = L' 0) (h10 : L 10 = L' 10) (h12 : L 12 = L' 12) (h13 : L 13 = L' 13) : InvX w0 X Y n L' g x := by
  obtain ⟨a, b, c, d, e, f⟩ := h
  rw [h0, h10] at b
  rw [h10, h13] at c
  rw [h12, h13] at d
  rw [h13] at e
  rw [h13, h10] at f
  exact ⟨a, b, c, d, e, f⟩
theorem InvX.s0 (h : InvX w0 X Y n L g x) : InvX w0 X Y n (fun i => if i = 0 then true else L i) (fun i => if i = 0 then .slice (some ⟨x.heap.size, 0, none⟩) 0 0 else g i) (x.alloc (.cells #[] 3)) := by
  have a := (AnyLater.refl x).alloc (.cells #[] 3)
  exact ⟨h.any.trans a, fun _ _ => ⟨x.heap.size, rfl, h.any.below.size, heap_new rfl⟩, fun p q => (h.e10 p q).later a, fun p q => by obtain ⟨b, b1, b2⟩ := h.e12 p q; exact ⟨b, b1, any_own a b2⟩, fun p => (h.e13 p).later a, h.o13⟩
theorem InvX.s12 (h : InvX w0 X Y n L g x) : InvX w0 X Y n (fun i => if i = 12 then true else L i) (fun i => if i = 12 then .slice (some ⟨x.heap.size, 0, none⟩) 1 1 else g i) (x.alloc (.cells #[.int .i64 n] 3)) := by
  have a := (AnyLater.refl x).alloc (.cells #[.int .i64 n] 3)
  exact ⟨h.any.trans a, fun p q => by obtain ⟨b, b1, b2, b3⟩ := h.e0 p q; exact ⟨b, b1, b2, any_own a b3⟩, fun p q => (h.e10 p q).later a, fun _ _ => ⟨x.heap.size, rfl, heap_new rfl⟩, fun p => (h.e13 p).later a, h.o13⟩
theorem InvX.s10 {u : Value} {y : World} {b : Nat} (h : InvX w0 X Y n L g x) (h10 : L 10 = false) (hb : w0.heap.size ≤ b) (hb2 : x.heap[b]? = some (.cells #[] 3)) (hg : x.grownBy y (some b)) (ho : ON .i64 3 y w0.heap.size u X) :
    InvX w0 X Y n (fun i => if i = 10 then true else L i) (fun i => if i = 10 then u else g i) y := by
  have e13 : L 13 = false := by
    cases e : L 13 with
    | false => rfl
    | true => have := h.o13 e; rw [h10] at this; cases this
  refine ⟨grown_later h.any hg (fun k e => by cases e; exact hb), (fun _ q => by cases q), fun _ _ => ho, fun p q => ?_, fun p => ?_, fun _ => rfl⟩
  · obtain ⟨b', b1, b2⟩ := h.e12 p q
    refine ⟨b', b1, grown_block hg b2 (fun e => ?_)⟩
    cases e
    rw [hb2] at b2
    simp at b2
  · have p' : L 13 = true := p
    rw [e13] at p'; cases p'
theorem InvX.s13 {u : Value} {y : World} (h : InvX w0 X Y n L g x) (h10 : L 10 = true) (h13 : L 13 = false) (hg : x.grownBy y (g 10).ownBlock) (ho : ON .i64 3 y w0.heap.size u Y) :
    InvX w0 X Y n (fun i => if i = 13 then true else L i) (fun i => if i = 13 then u else g i) y := by
  refine ⟨ON.grown (h.e10 h10 h13) (Nat.le_refl _) h.any hg, fun _ q => ?_, (fun _ q => by cases q), (fun _ q => by cases q), fun _ => ho, fun _ => h10⟩
  have q' : L 10 = false := q
  rw [h10] at q'; cases q'
end
/-- append(v, u...), v a row of the call's own -/
theorem appRow {w : World} {B : Nat} {v u : Value} {l m : List Int} (ho : ON .i64 3 w B v l) (hm : RI w u m) (hB : B ≤ w.heap.size) (hl : l.length + m.length ≤ 100000) :
    ∃ v' w2, (Builtin.append_ #[29, 29] 29 #[v, u]).run Try.prog w = .ok v' w2 ∧ ON .i64 3 w2 B v' (l ++ m) ∧ w.grownBy w2 v.ownBlock :=
  appN (s := 29) Try.underlying29 info_i64 (by decide) ho hm hB hl
set_option maxRecDepth 100000 in
set_option maxHeartbeats 3200000 in
theorem xpush_any (s : Nat) (v : Value) (most : Nat) (m : UM) (x : Int) (w : World) (h : UIsX w s v most m) : Calls Try.prog 15 #[sptr s, .int .i64 x] w fun e w' => e = .returned (.tuple #[]) ∧ TurnsX w s v most (pushU most m x) w' := by
  have hle := h.ok.le
  have hlen := h.ok.len
  obtain ⟨hm1, hm2⟩ := h.most
  have HY := Lib.hid (push_len hle x)
  have HP : Hid (pushU most m x = if most < m.now + 1 then ⟨(m.l.take m.now ++ [x]).drop 1, m.now⟩ else ⟨m.l.take m.now ++ [x], m.now + 1⟩) := Lib.hid (by unfold pushU; rw [push_len hle x]; rfl)
  have HOk := Lib.hid (h.ok.push x)
  have HXl : Hid ((m.l.take m.now).length = m.now) := Lib.hid (by rw [List.length_take]; omega)
  have hr := h.row.rn
  have s0 := h.blk
  have HS := Lib.hid s0
  obtain ⟨A, cap, rfl, hcap⟩ := hr.form
  have HRn : Hid (∀ w', AnyLater w w' → RI w' (.slice A m.now cap) (m.l.take m.now)) := Lib.hid (fun w' a => RN.take (hr.later a) m.now hle)
  have hcut := upto_same A m.l.length cap m.now (by omega)
  generalize pushU most m x = M at *
  generalize m.l.take m.now = X at *
  clear h hr
  generalize m.l.length = d at *
  generalize m.l = l at *
  generalize m.now = k at *
  have lt0 := own_lt s0
  have HS1 : Hid (s + 1 ≤ w.heap.size) := Lib.hid lt0
  unfold sptr
  go_enter Try.func15, Try.ntmps15
  go_wp2_with fail
  apply Whole.wp_region_inv 14 [(0, undef), (10, undef), (12, undef), (13, undef)] [⟨0, 5, fun _ _ => True⟩, ⟨10, 15, fun _ _ => True⟩, ⟨12, 17, fun _ _ => True⟩, ⟨13, 18, fun _ _ => True⟩] (InvX w X (X ++ [x]) x) (by kernel_rfl) (by kernel_rfl) (by kernel_rfl) (by simp) (by kernel_rfl) (fun L g y hI => hI.any)
  case hcong => exact fun L L' g y hc hI => hI.cong (hc _ (List.mem_of_getElem? (i := 0) rfl)) (hc _ (List.mem_of_getElem? (i := 1) rfl)) (hc _ (List.mem_of_getElem? (i := 2) rfl)) (hc _ (List.mem_of_getElem? (i := 3) rfl))
  case h0 => exact InvX.init
  case hlex =>
    intro U hU
    have q0 := own_row (any_own hU HS.out)
    have q1 := own_lt (any_own hU HS.out)
    simp only [actFrom, actOp, List.lookup, Nat.reduceBEq, Nat.reduceLeDiff, Nat.reduceAdd, if_false, if_true]
    repeat (go_big_quiet_step (fail))
    exact wpQuiet_nil rfl
  case hact =>
    intro jj hjj o ho
    have hj6 : jj = 0 ∨ jj = 1 ∨ jj = 2 ∨ jj = 3 := by simp at hjj; omega
    rcases hj6 with rfl | rfl | rfl | rfl
    · cases ho
      refine ⟨rfl, ⟨_, List.mem_of_getElem? (i := 0) rfl, rfl⟩, fun L g y hI hL hS => ?_⟩
      clear hS
      simp only [fillAll, Act.put, List.setIfInBounds_toArray, List.set_cons_zero, List.set_cons_succ]
      exact chain_value (w' := y.alloc (.cells #[] 3)) (by simp [go_sem, execOp]) hI.s0
    · cases ho
      refine ⟨rfl, ⟨_, List.mem_of_getElem? (i := 1) rfl, rfl⟩, fun L g y hI hL hS => ?_⟩
      have h0 := hS _ (List.mem_of_getElem? (i := 0) rfl) (List.contains_iff_mem.1 (by kernel_rfl))
      obtain ⟨b, q1, q2, q3⟩ := hI.e0 h0 hL
      obtain ⟨v', w', p1, p2, p3⟩ := appRow (ON.empty q2 q3) (HRn.out y hI.any) hI.any.below.size (by have := HXl.out; simp only [List.length_nil]; omega)
      clear hS
      simp only [fillAll, Act.put, List.setIfInBounds_toArray, List.set_cons_zero, List.set_cons_succ]
      rw [← q1] at p1
      rw [List.nil_append] at p2
      exact Whole.chain_app _ _ _ _ rfl _ _ rfl rfl p1 (hI.s10 hL q2 q3 p3 p2)
    · cases ho
      refine ⟨rfl, ⟨_, List.mem_of_getElem? (i := 2) rfl, rfl⟩, fun L g y hI hL hS => ?_⟩
      clear hS
      simp only [fillAll, Act.put, List.setIfInBounds_toArray, List.set_cons_zero, List.set_cons_succ]
      exact chain_value (w' := y.alloc (.cells #[.int .i64 x] 3)) (by simp [go_sem, execOp]) hI.s12
    · cases ho
      refine ⟨rfl, ⟨_, List.mem_of_getElem? (i := 3) rfl, rfl⟩, fun L g y hI hL hS => ?_⟩
      have h10 := hS _ (List.mem_of_getElem? (i := 1) rfl) (List.contains_iff_mem.1 (by kernel_rfl))
      have h12 := hS _ (List.mem_of_getElem? (i := 2) rfl) (List.contains_iff_mem.1 (by kernel_rfl))
      obtain ⟨q, q1, q3⟩ := hI.e12 h12 hL
      obtain ⟨v', w', p1, p2, p3, p4⟩ := appOne (hI.e10 h10 hL) q3 hI.any.below.size (by have := HXl.out; omega)
      clear hS
      simp only [fillAll, Act.put, List.setIfInBounds_toArray, List.set_cons_zero, List.set_cons_succ]
      rw [← q1] at p1
      exact Whole.chain_app _ _ _ _ rfl _ _ rfl rfl p1 (hI.s13 h10 hL p3 p2)
  case htail =>
    intro L g y hI hall
    have hO := hI.e13 (hall _ (List.mem_of_getElem? (i := 3) rfl))
    have hA := hI.any
    have s1 := any_own hA HS.out
    clear hI hall hcut HRn
    simp only [fillAll, Act.put, List.setIfInBounds_toArray, List.set_cons_zero, List.set_cons_succ, List.drop_succ_cons, List.drop_zero, List.drop_nil]
    generalize g 13 = u at *
    generalize X ++ [x] = Y at *
    obtain ⟨gq, c1, cur, rfl, hBq, hq, hc1, -, -, hcell⟩ := hO.at (by have := HY.out; omega)
    have hno : w.heap.size ≤ gq := hBq
    obtain ⟨k1, hk1⟩ : ∃ k1, k + 1 = k1 := ⟨_, rfl⟩
    have HK := Lib.hid hk1
    rw [hk1] at HY HP
    have HQ := Lib.hid (And.intro hno (And.intro hq (And.intro hc1 hcell)))
    rw [HY.out] at hc1 ⊢
    have HA := Lib.hid hA
    have r1 := own_row s1
    have f1 := own_free s1
    have lt1 := own_lt s1
    have HS2 := Lib.hid s1
    have hk2 : k1 ≤ 1025 := by omega
    have hk3 : 1 ≤ k1 := by omega
    clear hO hA s1 hq hcell hno hBq hk1 HS lt0
    by_cases hgt : most < k1
    · have d1 : decide ((most : Int) < (k1 : Int)) = true := decide_eq_true (by omega)
      rw [if_pos hgt] at HP
      have hs := from_same gq 0 k1 c1 1 (by omega) hc1
      rw [if_neg (by omega), Nat.zero_add] at hs
      have hs' : ∀ w' : World, (Instr.sliceAt 29 (.slice (some ⟨gq, 0, none⟩) k1 c1) (some (.int .i64 1)) none none).run Try.prog w' = .ok (.slice (some ⟨gq, 1, none⟩) (k1 - 1) (c1 - 1)) w' := hs
      have e2 : k1 - 1 = k := by have := HK.out; omega
      rw [e2] at hs'
      clear hs e2
      go_wp2_with fail
      go_end0
      refine ⟨rfl, .slice (some ⟨gq, 1, none⟩) k (c1 - 1), ⟨heap_at (heap_at HS2.out rfl) ?_, ?_, HOk.out, hm1, hm2⟩, ((Stays.of HA.out).setCell (.inl rfl) _).setCell (.inl rfl) _, fun q e => by cases e; exact .inr HQ.out.1⟩
      · rw [HP.out]; rfl
      · rw [HP.out]
        obtain ⟨q1, q2, q3, q4⟩ := HQ.out
        have hl : (Y.drop 1).length = k := by rw [List.length_drop, HY.out]; have := HK.out; omega
        have o : OX y (s + 1) (.slice (some ⟨gq, 1, none⟩) k (c1 - 1)) (Y.drop 1) := .inr ⟨gq, 1, c1 - 1, cur, by rw [hl], Nat.le_trans HS1.out q1, q2, by rw [hl]; have := HK.out; omega, fun j hj => by
          rw [q4 (1 + j) (by rw [hl] at hj; rw [HY.out]; have := HK.out; omega), List.getElem_drop]⟩
        exact o.stays (Stays.setCell (S := fun q => q = s) (Stays.setCell (S := fun q => q = s) (Stays.refl _ y) rfl _) rfl _) (fun q e e2 => by cases e; have e3 : gq = s := e2; have := HS1.out; have := HQ.out.1; omega)
    · have d1 : decide ((most : Int) < (k1 : Int)) = false := decide_eq_false (by omega)
      rw [if_neg hgt] at HP
      go_wp2_with fail
      go_end0
      refine ⟨rfl, .slice (some ⟨gq, 0, none⟩) k1 c1, ⟨heap_at (heap_at HS2.out rfl) ?_, ?_, HOk.out, hm1, hm2⟩, ((Stays.of HA.out).setCell (.inl rfl) _).setCell (.inl rfl) _, fun q e => by cases e; exact .inr HQ.out.1⟩
      · rw [HP.out]; rfl
      · rw [HP.out]
        obtain ⟨q1, q2, q3, q4⟩ := HQ.out
        have o : OX y (s + 1) (.slice (some ⟨gq, 0, none⟩) k1 c1) Y := .inr ⟨gq, 0, c1, cur, by rw [HY.out], Nat.le_trans HS1.out q1, q2, q3, fun j hj => by rw [Nat.zero_add]; exact q4 j hj⟩
        exact o.stays (Stays.setCell (S := fun q => q = s) (Stays.setCell (S := fun q => q = s) (Stays.refl _ y) rfl _) rfl _) (fun q e e2 => by cases e; have e3 : gq = s := e2; have := HS1.out; have := HQ.out.1; omega)
end Go.Proofs.Ytnbchaigbkblfaa
