/- utf: lives; UtfDecodes, walked. -/
import Derived.Test.YtibdaielglpcmaaDoorUtfK
import Derived.Test.YtibdaielglpcmaaDoorUtfG
import Derived.Lib.SlBytesConst
namespace Go.Proofs.YtibdaielglpcmaaDoor
set_option linter.unusedSimpArgs false
set_option linter.unusedVariables false
set_option linter.unusedSectionVars false
open Go.RowKit

/-- an append under a guard that is met -/
theorem wpList_append_met {P : Program} (w : World) {ops : Array Oper} {rest : List Oper} {o : Oper} {a : Act} {Q : Exit → Act → World → Prop} (hw : Region.wanted o (yielded ops a.tmps) = true) (s x : Operand) (t tn : TypeId)
    (ho : o.op = .call { callee := .builtin .append, args := #[s, x], argTypes := #[t, tn] }) (vs vx : Value) (hs : a.eval s = vs) (hx : a.eval x = vx)
    (v' : Value) (w' : World) (hr : (Builtin.append_ #[t, tn] o.type #[vs, vx]).run P w = .ok v' w') (h : wpList P ops Q rest (a.put o.dst v') w') : wpList P ops Q (o :: rest) a w := by
  unfold wpList
  rw [if_pos hw]
  exact .inl (Lib.wp_append_run w s x t tn ho vs vx hs hx v' w' hr h)
theorem cnt_ab : Cnt [97, 98] 2 := ⟨by decide, fun j hj => by
  have : j = 0 ∨ j = 1 := by omega
  rcases this with rfl | rfl <;> decide⟩
set_option maxRecDepth 100000 in
set_option maxHeartbeats 3200000 in
theorem ulives_any (w : World) (hg : GlobU w) : Calls Tryd.prog 11 #[] w fun e w' => e = .returned (.bool true) ∧ AnyLater w w' := by
  have HG := Lib.hid hg
  obtain ⟨w1, hw1⟩ : ∃ w1, w.alloc (.cells #[.int .u8 195, .int .u8 169] 5) = w1 := ⟨_, rfl⟩
  have a1 : AnyLater w w1 := by rw [← hw1]; exact (AnyLater.refl w).alloc _
  have o1 : ON .u8 5 w1 w.heap.size (.slice (some ⟨w.heap.size, 0, none⟩) 2 2) [195, 169] := ON.made 2 rfl (Nat.le_refl _) (by rw [← hw1]; exact heap_new rfl) rfl (by decide)
  have HD : Hid (Calls Tryd.prog 9 #[.slice (some ⟨w.heap.size, 0, none⟩) 2 2] w1 fun e w'' => e = .returned (.tuple #[.int .i32 233, .int .i64 2]) ∧ AnyLater w1 w'') := Lib.hid (dec_any _ [195, 169] w1 233 2 (by decide) o1.rn (by unfold Bytes; decide) (by decide) (hg.later a1))
  have HA1 := Lib.hid a1
  clear hg a1 o1
  go_enter Tryd.func11, Tryd.ntmps11
  go_wp2_with fail
  refine HD.out.mono ?_
  rintro e w2 ⟨rfl, b2⟩
  have HA2 := Lib.hid (HA1.out.trans b2)
  have HE := Lib.hid (enc_any 233 w2 ⟨by omega, by omega⟩ (HG.out.later (HA1.out.trans b2)))
  clear b2 hw1
  go_wp2_with fail
  refine HE.out.mono ?_
  rintro e w3 ⟨u, rfl, b3, ho⟩
  have e0 : encU 233 = [195, 169] := by decide
  rw [e0] at ho
  obtain ⟨A, cap, rfl, _⟩ := ho.form
  have hstr : (convert 22 9 (.slice A 2 cap)).run Tryd.prog w3 = .ok (.string (strOfNums [195, 169])) w3 := ho.rn.str
  obtain ⟨S, hS⟩ : ∃ S, strOfNums [195, 169] = S := ⟨_, rfl⟩
  have hse : S.toList = ([195, 169] : List UInt8) := by rw [← hS, ByteArray.toList_eq, strOfNums_data]; decide
  rw [hS] at hstr
  have HA3 := Lib.hid (HA2.out.trans b3)
  have kc := fun (w : World) (C : Array Value) (n c : Nat) => Lib.run_convert_bytes_const (P := Tryd.prog) w 22 5 C n c Tryd.underlying22 Tryd.underlying5
  obtain ⟨w4, hw4⟩ : ∃ w4, w3.alloc (.cells #[.int .u8 97, .int .u8 98] 5 (2, 3)) = w4 := ⟨_, rfl⟩
  have a4 : AnyLater w3 w4 := by rw [← hw4]; exact (AnyLater.refl w3).alloc _
  have o4 : RU8 w4 (.slice (some ⟨w3.heap.size, 0, none⟩) 2 2) [97, 98] := ⟨_, 2, rfl, by decide, fun _ => ⟨w3.heap.size, 0, rfl, by rw [← hw4]; simp, fun j hj => by
    have hj2 : j = 0 ∨ j = 1 := by simp at hj; omega
    have hh : w4.heap[w3.heap.size]? = some (.cells #[.int .u8 97, .int .u8 98] 5 (2, 3)) := by rw [← hw4]; exact heap_new rfl
    rcases hj2 with rfl | rfl <;> simp [World.cell?, hh]⟩⟩
  have HCn : Hid (Calls Tryd.prog 17 #[.slice (some ⟨w3.heap.size, 0, none⟩) 2 2] w4 fun e w'' => e = .returned (.int .i64 2) ∧ AnyLater w4 w'') := Lib.hid (count_any _ [97, 98] 2 w4 o4 (by unfold Bytes; decide) (by decide) (HG.out.later (HA3.out.trans a4)) cnt_ab)
  have HA4 := Lib.hid (HA3.out.trans a4)
  clear ho b3 e0 hS a4 o4
  go_wp2_with fail
  refine HCn.out.mono ?_
  rintro e w5 ⟨rfl, b5⟩
  have HA5 := Lib.hid (HA4.out.trans b5)
  clear b5
  go_wp2_with fail
  go_ret
  exact ⟨rfl, HA5.out⟩

/-! ### UtfDecodes -/
set_option maxRecDepth 100000 in
set_option maxHeartbeats 3200000 in
theorem utfDecodes_any (W : World) (v : Value) (l : List Int) (hv : RU8 W v l) (hb : Bytes l) (hg : GlobU W) : Calls Tryd.prog 3 #[v] W fun e w' => e = .returned (.bool true) ∧ AnyLater W w' := by
  have HG := Lib.hid hg
  have HF := Lib.hid (few8_any v l 9 W hv (by omega))
  obtain ⟨A, cap, rfl, hcap⟩ := hv.form
  have HB := Lib.hid (hb.take 9)
  have HL9 : Hid ((l.take 9).length ≤ 9) := Lib.hid (by rw [List.length_take]; omega)
  generalize l.take 9 = m at *
  generalize l.length = n0 at *
  clear hg hv hb
  go_enter Tryd.func3, Tryd.ntmps3
  go_wp2_with fail
  refine HF.out.mono ?_
  rintro e w1 ⟨u1, rfl, a1, o1⟩
  have hr1 := o1.rn
  obtain ⟨u2, w2, k1, k2, k3⟩ := copy8 hr1 (by have := HL9.out; omega)
  obtain ⟨r, k, hdec⟩ : ∃ r k, decU m = (r, k) := ⟨_, _, rfl⟩
  have a2 := a1.trans k2
  have hlk := dec_len HB.out
  have hrk := dec_rune HB.out
  rw [hdec] at hlk hrk
  simp only at hlk hrk
  obtain ⟨A1, c1, rfl, h1⟩ := o1.form
  have K1 := Lib.hid k1
  have HD : Hid (Calls Tryd.prog 9 #[u2] w2 fun e w'' => e = .returned (.tuple #[.int .i32 r, .int .i64 (k : Int)]) ∧ AnyLater w2 w'') := Lib.hid (dec_any u2 m w2 r k hdec k3.rn HB.out (by have := HL9.out; omega) (HG.out.later a2))
  have HR : Hid (∀ w', AnyLater w1 w' → Calls Tryd.prog 10 #[.slice A1 m.length c1] w' fun e w'' => e = .returned (.tuple #[.int .i32 r, .int .i64 (k : Int)]) ∧ AnyLater w' w'') := Lib.hid (fun w' h => refDec_any _ m w' r k hdec (hr1.later h) HB.out (by have := HL9.out; omega))
  have HA2 := Lib.hid a2
  have H12 := Lib.hid k2
  have hne : m.length = 0 ∨ (0 < m.length ∧ 1 ≤ k ∧ k ≤ m.length) := by
    by_cases e : m = []
    · left; rw [e]; rfl
    · right
      have := List.length_pos_iff.2 e
      exact ⟨this, hlk.2.1 e, hlk.1⟩
  have hk4 := hlk.2.2
  have hm9 := HL9.out
  clear k1 k2 k3 hr1 o1 hdec hlk a1 a2
  generalize m.length = n at *
  go_wp2_with (at_builtin; refine Lib.wpList_append_run _ rfl _ _ _ _ rfl _ _ rfl rfl _ _ K1.out ?_)
  refine HD.out.mono ?_
  rintro e w3 ⟨rfl, b3⟩
  have HR3 := Lib.hid (HR.out w3 (H12.out.trans b3))
  have HA3 := Lib.hid (HA2.out.trans b3)
  clear b3
  go_wp2_with fail
  refine HR3.out.mono ?_
  rintro e w4 ⟨rfl, b4⟩
  have HA4 := Lib.hid (HA3.out.trans b4)
  have HLv := Lib.hid (ulives_any w4 (HG.out.later HA4.out))
  clear b4
  rcases hne with e0 | ⟨e0, e1, e2⟩
  · subst e0
    go_wp2_with fail
    refine HLv.out.mono ?_
    rintro e w5 ⟨rfl, b5⟩
    have HA5 := Lib.hid (HA4.out.trans b5)
    clear b5
    go_wp2_with fail
    go_ret
    exact ⟨rfl, HA5.out⟩
  · have d0 : ((n : Int) == 0) = false := by simp; omega
    go_wp2_with fail
    refine HLv.out.mono ?_
    rintro e w5 ⟨rfl, b5⟩
    have HA5 := Lib.hid (HA4.out.trans b5)
    clear b5
    go_wp2_with fail
    go_ret
    exact ⟨rfl, HA5.out⟩
end Go.Proofs.YtibdaielglpcmaaDoor
