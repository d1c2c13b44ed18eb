/- undo: the program's Push, by contract. -/
import Derived.Test.YtnbchaigbkblfaaUndQ
import Derived.Test.YtnbchaigbkblfaaWhole
import Derived.Deep.AppendLies
namespace Go.Proofs.Ytnbchaigbkblfaa
set_option linter.unusedSimpArgs false
set_option linter.unusedVariables false
set_option linter.unusedSectionVars false
open Go.RowKit

/-- append(v, x), v a row of the call's own, x in a new row of one: the row is v's, or new -/
theorem appOne {w : World} {B h : Nat} {v : Value} {l : List Int} {x : Int} (ho : ON .i64 3 w B v l) (hh : w.heap[h]? = some (.cells #[.int .i64 x] 3)) (hB : B ≤ w.heap.size) (hl : l.length ≤ 90000) :
    ∃ u w2, (Builtin.append_ #[29, 29] 29 #[v, .slice (some ⟨h, 0, none⟩) 1 1]).run Try.prog w = .ok u w2 ∧ ON .i64 3 w2 B u (l ++ [x]) ∧ w.grownBy w2 v.ownBlock ∧ ∀ q, u.ownBlock = some q → v.ownBlock = some q ∨ q = w.heap.size := by
  obtain ⟨i0, hi0, hz0, hz1, hz2⟩ := info_parts info_i64
  obtain ⟨v', w', k1, k2, k3, -, k5⟩ := run_append_own_at (P := Try.prog) w B 29 29 3 i0 (.int .i64 0) 1 8 Try.underlying29 hi0 hz0 hz1 hz2 rfl (by decide) v l.length (l.map (Value.int .i64)) ho ⟨h, 0, none⟩ 1 1 [.int .i64 x] rfl (fun j u hu => by
    cases j with
    | zero => cases hu; exact own_row hh 0
    | succ j => simp at hu) (by intro u hu; simp at hu; subst hu; rfl) (by unfold maxLen; omega) (by omega) hB
  refine ⟨v', w', k1, ?_, k3, fun q e => ?_⟩
  · show w'.ownsRow B 3 1 v' (l ++ [x]).length ((l ++ [x]).map (Value.int .i64))
    rw [List.length_append, List.map_append]
    exact k2
  · rcases k5 with k | k
    · exact .inl (k ▸ e)
    · rw [e] at k; cases k; exact .inr rfl

/-- what is known while some of it has been done -/
structure InvP (w0 : World) (s : Nat) (v : Value) (l X Y : List Int) (n : Int) (L : Nat → Bool) (g : Nat → Value) (x : World) : Prop where
  any : Stays (fun q => v.ownBlock = some q) w0 x
  e0 : L 14 = false → ON .i64 3 x (s + 1) v l
  e14 : L 14 = true → L 17 = false → ON .i64 3 x (s + 1) (g 14) X ∧ (g 14).ownBlock = v.ownBlock
  e16 : L 16 = true → L 17 = false → ∃ h, g 16 = .slice (some ⟨h, 0, none⟩) 1 1 ∧ w0.heap.size ≤ h ∧ x.heap[h]? = some (.cells #[.int .i64 n] 3)
  e17 : L 17 = true → ON .i64 3 x (s + 1) (g 17) Y ∧ ∀ q, (g 17).ownBlock = some q → v.ownBlock = some q ∨ w0.heap.size ≤ q
  o17 : L 17 = true → L 14 = true
section
variable {w0 : World} {s : Nat} {v : Value} {l X Y : List Int} {n : Int} {L : Nat → Bool} {g : Nat → Value} {x : World}
theorem InvP.init (h : ON .i64 3 w0 (s + 1) v l) : InvP w0 s v l X Y n (fun _ => false) (fun _ => undef) w0.drew :=
  ⟨.of (AnyLater.refl w0).drew, fun _ => h.later (AnyLater.refl w0).drew, (fun h => by cases h), (fun h => by cases h), (fun h => by cases h), (fun h => by cases h)⟩
theorem InvP.cong {L' : Nat → Bool} (h : InvP w0 s v l X Y n L g x) (h14 : L 14 = L' 14) (h16 : L 16 = L' 16) (h17 : L 17 = L' 17) : InvP w0 s v l X Y n L' g x := by
  obtain ⟨a, b, c, d, e, f⟩ := h
  rw [h14] at b f
  rw [h14, h17] at c
  rw [h16, h17] at d
  rw [h17] at e f
  exact ⟨a, b, c, d, e, f⟩
theorem InvP.s14 {u : Value} {y : World} (hv : ∀ q, v.ownBlock = some q → q < w0.heap.size) (h : InvP w0 s v l X Y n L g x) (h14 : L 14 = false) (hg : x.grownBy y v.ownBlock) (ho : ON .i64 3 y (s + 1) u X) (hu : u.ownBlock = v.ownBlock) :
    InvP w0 s v l X Y n (fun i => if i = 14 then true else L i) (fun i => if i = 14 then u else g i) y := by
  have e17 : L 17 = false := by
    cases e : L 17 with
    | false => rfl
    | true => have := h.o17 e; rw [h14] at this; cases this
  refine ⟨h.any.trans (.grown hg (fun k e => e)), (fun b => by cases b), fun _ _ => ⟨ho, hu⟩, fun a b => ?_, fun a => ?_, fun _ => rfl⟩
  · obtain ⟨q, q1, q2, q3⟩ := h.e16 a e17
    refine ⟨q, q1, q2, (hg.block q (own_lt q3) (fun e => ?_)).trans q3⟩
    have := hv q e.symm
    omega
  · have a' : L 17 = true := a
    rw [e17] at a'; cases a'
theorem InvP.s16 (h : InvP w0 s v l X Y n L g x) : InvP w0 s v l X Y n (fun i => if i = 16 then true else L i) (fun i => if i = 16 then .slice (some ⟨x.heap.size, 0, none⟩) 1 1 else g i) (x.alloc (.cells #[.int .i64 n] 3)) := by
  have a := (AnyLater.refl x).alloc (.cells #[.int .i64 n] 3)
  exact ⟨h.any.later a, fun b => (h.e0 b).later a, fun b c => ⟨(h.e14 b c).1.later a, (h.e14 b c).2⟩, fun _ _ => ⟨x.heap.size, rfl, h.any.size, heap_new rfl⟩, fun b => ⟨(h.e17 b).1.later a, (h.e17 b).2⟩, h.o17⟩
theorem InvP.s17 {u : Value} {y : World} (h : InvP w0 s v l X Y n L g x) (h14 : L 14 = true) (h17 : L 17 = false) (hg : x.grownBy y (g 14).ownBlock) (ho : ON .i64 3 y (s + 1) u Y) (hu : ∀ q, u.ownBlock = some q → (g 14).ownBlock = some q ∨ q = x.heap.size) :
    InvP w0 s v l X Y n (fun i => if i = 17 then true else L i) (fun i => if i = 17 then u else g i) y := by
  have e := (h.e14 h14 h17).2
  refine ⟨h.any.trans (.grown hg (fun k q => by rw [← e]; exact q)), fun b => ?_, (fun _ b => by cases b), (fun _ b => by cases b), fun _ => ⟨ho, fun q hq => ?_⟩, fun _ => h14⟩
  · have b' : L 14 = false := b
    rw [h14] at b'; cases b'
  · rcases hu q hq with r | r
    · exact .inl (by rw [← e]; exact r)
    · exact .inr (by rw [r]; exact h.any.size)
end
theorem upush_nil (x : Int) (w : World) : Calls Try.prog 14 #[.pointer none, .int .i64 x] w fun e w' => e = .returned (.tuple #[]) ∧ w = w' := by
  go_enter Try.func14, Try.ntmps14
  go_wp2_with fail
  exact bodyPost_ret (v := .tuple #[]) (by simp [results, Try.results14, go_sem]) rfl ⟨rfl, rfl⟩
set_option maxRecDepth 100000 in
set_option maxHeartbeats 3200000 in
theorem upush_any (s : Nat) (v : Value) (most : Nat) (m : UM) (x : Int) (w : World) (h : IsS w s v most m) : Calls Try.prog 14 #[sptr s, .int .i64 x] w fun e w' => e = .returned (.tuple #[]) ∧ TurnsS w s v most (pushU most m x) w' := by
  have hle := h.ok.le
  have hlen := h.ok.len
  obtain ⟨hm1, hm2⟩ := h.most
  have HLt := Lib.hid (fun q (e : v.ownBlock = some q) => h.lt q (.inr e))
  have HNe := Lib.hid h.row.ne_struct
  have HY := Lib.hid (push_len hle x)
  have HP : Hid (pushU most m x = if most < m.now + 1 then ⟨(m.l.take m.now ++ [x]).drop 1, m.now⟩ else ⟨m.l.take m.now ++ [x], m.now + 1⟩) := Lib.hid (by unfold pushU; rw [push_len hle x]; rfl)
  have HOk := Lib.hid (h.ok.push x)
  have HX : Hid (m.l.take m.now ++ m.l.drop m.l.length = m.l.take m.now) := Lib.hid (by rw [List.drop_length, List.append_nil])
  have HXl : Hid ((m.l.take m.now).length = m.now) := Lib.hid (by rw [List.length_take]; omega)
  have HI : Hid (InvP w s v m.l (m.l.take m.now) (m.l.take m.now ++ [x]) x (fun _ => false) (fun _ => undef) w.drew) := Lib.hid (InvP.init h.row)
  have HD : Hid (∀ y, ON .i64 3 y (s + 1) v m.l → Calls Try.prog 19 #[v, .int .i64 (m.now : Int), .int .i64 (m.l.length : Int)] y fun e w' => ∃ u, e = .returned u ∧ ON .i64 3 w' (s + 1) u (m.l.take m.now) ∧ y.grownBy w' v.ownBlock ∧ u.ownBlock = v.ownBlock) := Lib.hid (fun y ho => by
    have := ndelete_any (s + 1) v m.l m.now m.l.length y ho hle (Nat.le_refl _) (by omega)
    rwa [HX.out] at this)
  have hb := h.blk
  have HB := Lib.hid h.blk
  have lt := own_lt hb
  obtain ⟨A, cap, rfl, -⟩ := h.row.form
  generalize pushU most m x = M at *
  generalize m.l.take m.now = X at *
  clear h hb
  generalize m.l.length = d at *
  generalize m.l = l at *
  generalize m.now = k at *
  have HS1 : Hid (s + 1 ≤ w.heap.size) := Lib.hid lt
  unfold sptr
  go_enter Try.func14, Try.ntmps14
  go_wp2_with fail
  apply Whole.wp_region_of (fun y => y.heap[s]? = some (.cells #[.slice A d cap, .int .i64 (k : Int), .int .i64 (most : Int)] 44)) 20 [(14, undef), (16, undef), (17, undef)] [⟨14, 20, fun _ _ => True⟩, ⟨16, 22, fun _ _ => True⟩, ⟨17, 23, fun _ _ => True⟩] (InvP w s (.slice A d cap) l X (X ++ [x]) x) (by kernel_rfl) (by kernel_rfl) (by kernel_rfl) (by simp) (by kernel_rfl) (fun L g y hI => hI.any.own HB.out HNe.out)
  case hcong => exact fun L L' g y hc hI => hI.cong (hc _ (List.mem_of_getElem? (i := 0) rfl)) (hc _ (List.mem_of_getElem? (i := 1) rfl)) (hc _ (List.mem_of_getElem? (i := 2) rfl))
  case h0 => exact HI.out
  case hlex =>
    intro U hU
    have q0 := own_row hU
    have q1 := own_lt hU
    simp only [actFrom, actOp, List.lookup, Nat.reduceBEq, Nat.reduceLeDiff, Nat.reduceAdd, if_false, if_true]
    repeat (go_big_quiet_step (fail))
    exact wpQuiet_nil rfl
  case hact =>
    intro jj hjj o ho
    have hj6 : jj = 0 ∨ jj = 1 ∨ jj = 2 := by simp at hjj; omega
    rcases hj6 with rfl | rfl | rfl
    · cases ho
      refine ⟨rfl, ⟨_, List.mem_of_getElem? (i := 0) rfl, rfl⟩, fun L g y hI hL hS => ?_⟩
      clear hS
      simp only [fillAll, Act.put, List.setIfInBounds_toArray, List.set_cons_zero, List.set_cons_succ]
      refine chain_call (f := 19) (args := #[.slice A d cap, .int .i64 (k : Int), .int .i64 (d : Int)]) (by simp [go_sem, execOp]) ((HD.out y (hI.e0 hL)).mono ?_)
      rintro e y' ⟨u, rfl, p1, p2, p3⟩
      exact ⟨_, rfl, hI.s14 HLt.out hL p2 p1 p3⟩
    · cases ho
      refine ⟨rfl, ⟨_, List.mem_of_getElem? (i := 1) rfl, rfl⟩, fun L g y hI hL hS => ?_⟩
      clear hS
      simp only [fillAll, Act.put, List.setIfInBounds_toArray, List.set_cons_zero, List.set_cons_succ]
      exact chain_value (w' := y.alloc (.cells #[.int .i64 x] 3)) (by simp [go_sem, execOp]) hI.s16
    · cases ho
      refine ⟨rfl, ⟨_, List.mem_of_getElem? (i := 2) rfl, rfl⟩, fun L g y hI hL hS => ?_⟩
      have h14 := hS _ (List.mem_of_getElem? (i := 0) rfl) (List.contains_iff_mem.1 (by kernel_rfl))
      have h16 := hS _ (List.mem_of_getElem? (i := 1) rfl) (List.contains_iff_mem.1 (by kernel_rfl))
      obtain ⟨q, q1, q2, q3⟩ := hI.e16 h16 hL
      obtain ⟨v', w', p1, p2, p3, p4⟩ := appOne (hI.e14 h14 hL).1 q3 (Nat.le_trans HS1.out hI.any.size) (by have := HXl.out; omega)
      clear hS
      simp only [fillAll, Act.put, List.setIfInBounds_toArray, List.set_cons_zero, List.set_cons_succ]
      rw [← q1] at p1
      exact Whole.chain_app _ _ _ _ rfl _ _ rfl rfl p1 (hI.s17 h14 hL p3 p2 p4)
  case htail =>
    intro L g y hI hall
    obtain ⟨hO, hOwn⟩ := hI.e17 (hall _ (List.mem_of_getElem? (i := 2) rfl))
    have hSt := hI.any
    have s0 := hSt.own HB.out HNe.out
    clear hI hall HI HD HX
    simp only [fillAll, Act.put, List.setIfInBounds_toArray, List.set_cons_zero, List.set_cons_succ, List.drop_succ_cons, List.drop_zero, List.drop_nil]
    generalize g 17 = u at *
    generalize X ++ [x] = Y at *
    obtain ⟨A1, c1, rfl, -⟩ := hO.form
    obtain ⟨k1, hk1⟩ : ∃ k1, k + 1 = k1 := ⟨_, rfl⟩
    have HK := Lib.hid hk1
    rw [hk1] at HY HP
    have hO1 := hO.stays (((Stays.refl (fun q => q = s) y).setCell rfl (.slice A1 Y.length c1) : Stays _ _ (y.setCell ⟨s, 0, none⟩ (.slice A1 Y.length c1)))) (fun q e e2 => hO.ne_struct (e2 ▸ e))
    have hs1 : (y.setCell ⟨s, 0, none⟩ (.slice A1 Y.length c1)).heap[s]? = some (.cells #[.slice A1 Y.length c1, .int .i64 (k : Int), .int .i64 (most : Int)] 44) := heap_at s0 rfl
    have hst1 : Stays (Fp s (.slice A d cap)) w (y.setCell ⟨s, 0, none⟩ (.slice A1 Y.length c1)) := (hSt.wide (fun _ _ e => .inr e)).setCell (.inl rfl) _
    rw [HY.out] at hs1 hO1 hst1 hOwn ⊢
    have r0 := own_row s0
    have f0 := own_free s0
    have lt2 := own_lt s0
    clear hO hSt s0 HB HLt HXl hk1
    have HK1 : Hid (k1 ≤ 1025) := Lib.hid (by have := HK.out; omega)
    go_wp2_with fail
    generalize y.setCell ⟨s, 0, none⟩ (.slice A1 k1 c1) = y1 at *
    clear r0 f0 lt2
    have HO := Lib.hid hO1
    have HOw := Lib.hid hOwn
    have HSt := Lib.hid hst1
    have HS := Lib.hid hs1
    have r1 := own_row hs1
    have f1 := own_free hs1
    have lt1 := own_lt hs1
    clear hO1 hOwn hst1 hs1
    by_cases hgt : most < k1
    · have d1 : decide ((most : Int) < (k1 : Int)) = true := decide_eq_true (by omega)
      rw [if_pos hgt] at HP
      have HDel : Hid (∀ y', AnyLater y1 y' → Calls Try.prog 19 #[.slice A1 k1 c1, .int .i64 0, .int .i64 1] y' fun e w' => ∃ u, e = .returned u ∧ ON .i64 3 w' (s + 1) u (Y.drop 1) ∧ y'.grownBy w' (Value.slice A1 k1 c1).ownBlock ∧ u.ownBlock = (Value.slice A1 k1 c1).ownBlock) := Lib.hid (fun y' a => by
        have := ndelete_any (s + 1) (.slice A1 k1 c1) Y 0 1 y' (HO.out.later a) (by omega) (by have := HY.out; omega) (by have := HY.out; have := HK1.out; omega)
        simpa using this)
      go_quiet (fail)
      have a2 := (AnyLater.refl y1).drewN nq
      have HC := Lib.hid (HDel.out _ a2)
      have s2 := any_own a2 HS.out
      have st2 := HSt.out.later a2
      generalize y1.drewN nq = y2 at *
      have r2 := own_row s2
      have f2 := own_free s2
      have lt2 := own_lt s2
      have HS2 := Lib.hid s2
      have HSt2 := Lib.hid st2
      clear s2 st2 a2 HDel HS r1 f1 lt1
      go_wp2_with fail
      refine HC.out.mono ?_
      rintro e y3 ⟨u3, rfl, o3, g3, e3⟩
      have st3 := HSt2.out.more (Stays.grown (S := fun q => (Value.slice A1 k1 c1).ownBlock = some q) g3 (fun _ e => e)) (fun q e => (HOw.out q e).elim (fun r => .inl (.inr r)) .inr)
      have s3 : y3.heap[s]? = _ := (Stays.grown (S := fun q => (Value.slice A1 k1 c1).ownBlock = some q) g3 (fun _ e => e)).own HS2.out (fun e => HO.out.ne_struct e)
      have r3 := own_row s3
      have f3 := own_free s3
      have lt3 := own_lt s3
      have HS3 := Lib.hid s3
      have HSt3 := Lib.hid st3
      have HO3 := Lib.hid o3
      have HE3 : Hid (∀ q, u3.ownBlock = some q → (Value.slice A d cap).ownBlock = some q ∨ w.heap.size ≤ q) := Lib.hid (fun q e => HOw.out q (e3 ▸ e))
      obtain ⟨A3, c3, rfl, -⟩ := o3.form
      have hlen3 : (Y.drop 1).length = k := by rw [List.length_drop, HY.out, ← HK.out]; rfl
      rw [hlen3] at HO3 HE3 ⊢
      clear o3 g3 e3 st3 s3 r2 f2 lt2 HS2 HSt2 HC HO HSt hlen3
      go_wp2_with fail
      go_end0
      refine ⟨rfl, .slice A3 k c3, ⟨heap_at (heap_at HS3.out rfl) ?_, ?_, HOk.out, hm1, hm2⟩, (HSt3.out.setCell (.inl rfl) _).setCell (.inl rfl) _, HE3.out⟩
      · rw [HP.out]; rfl
      · rw [HP.out]
        exact HO3.out.stays (((Stays.refl (fun q => q = s) y3).setCell rfl _).setCell rfl _) (fun q e e2 => HO3.out.ne_struct (e2 ▸ e))
    · have d1 : decide ((most : Int) < (k1 : Int)) = false := decide_eq_false (by omega)
      rw [if_neg hgt] at HP
      go_quiet (fail)
      have a2 := (AnyLater.refl y1).drewN nq
      have HO2 := Lib.hid (HO.out.later a2)
      have s2 := any_own a2 HS.out
      have st2 := HSt.out.later a2
      generalize y1.drewN nq = y2 at *
      have r2 := own_row s2
      have f2 := own_free s2
      have lt2 := own_lt s2
      have HS2 := Lib.hid s2
      have HSt2 := Lib.hid st2
      clear s2 st2 a2 HS r1 f1 lt1 HO
      go_wp2_with fail
      go_end0
      refine ⟨rfl, .slice A1 k1 c1, ⟨heap_at HS2.out ?_, ?_, HOk.out, hm1, hm2⟩, HSt2.out.setCell (.inl rfl) _, HOw.out⟩
      · rw [HP.out]; rfl
      · rw [HP.out]
        exact HO2.out.stays ((Stays.refl (fun q => q = s) y2).setCell rfl _) (fun q e e2 => HO2.out.ne_struct (e2 ▸ e))
end Go.Proofs.Ytnbchaigbkblfaa
