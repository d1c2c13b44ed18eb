/- Of no scene nothing is told, and nothing changes: every call answers that its place is out of range, and every part of it is empty. -/
import Derived.SevenTiedAt
import Derived.Test.YtamhnffokoejjaaGreatDoorRows
import Derived.Test.YtamhnffokoejjaaGreatDoorCards
import Derived.Test.YtamhnffokoejjaaGreatDoorTie
import Derived.Test.YtamhnffokoejjaaGreatDoorKnah
import Derived.Test.YtamhnffokoejjaaGreatDoorKnbj
import Derived.Test.YtamhnffokoejjaaGreatDoorKnbp
import Derived.Test.YtamhnffokoejjaaGreatDoorKnbf
namespace Go.Proofs.YtamhnffokoejjaaGreatDoor.sceneNone
open Go.ChangeShapes Go.WideShapes Go.ChangeAt Go.RowKit
set_option linter.unusedVariables false
set_option linter.unusedSimpArgs false
theorem readable : Tryz.f6.params.toList.all (fun t => Tryz.prog.readableRec t && decide (t < Tryz.prog.types.size)) = true := by kernel_rfl
set_option maxRecDepth 100000 in
theorem lifted (os : Os) (started : os.Started) (H : Type) (enc : TypeId × Value → H) :
    ReturnsInHanded {} Tryz.checked os 6 .any (fun w args => (Rows.sceneNoneSpec.pre enc Tryz.prog Tryz.f6 [] false w args ∧ laidMetH Tryz.prog laidL w) ∧ sizedMet enc Tryz.prog Tryz.f6 (OpenSpec.ofChange Rows.sceneNoneSpec) false w args)
      (Rows.sceneNoneSpec.post enc Tryz.prog Tryz.f6 false true false false) := by
  refine returnsInHanded_of_change_and (C := Tryz.checked) (X := fun w _ => laidMetH Tryz.prog laidL w) (fun _ _ _ hh h => h.of_heap hh) own started (by kernel_rfl) Tryz.func6
    (ChangeSpec.witness_shaped (enc := enc) (C := Tryz.checked) (os := os) (X := fun w _ => laidMetH Tryz.prog laidL w) false (World.doorLaid Tryz.prog 400 os) #[.agg #[.int .i64 0, .int .i64 0, .int .i64 0, .int .i64 0, .slice none 0 0, .slice none 0 0, .slice none 0 0]] 8 rfl (World.shaped_of_RefB (by kernel_rfl) (by kernel_rfl)) (by kernel_rfl) (by kernel_rfl) (by kernel_rfl) (door_met os _)) ?_
  intro W base args ds gs before hval0 hW _ _ hL _
  have hval : ∀ (j : Nat) t v, Tryz.f6.params[j]? = some t → args[j]? = some v → Value.okWide Tryz.prog W .any base t v := hval0
  have hW' := hW
  obtain ⟨p, q, hA0, hV, rfl, hfz, hnd⟩ := hW
  have hA : DataW.TrodAll enc Tryz.prog W 0 (fun _ => true) true Tryz.f6.params.toList args.toList ds p := hA0
  rw [Tryz.params6] at hA hval
  obtain ⟨v0, vs0, d0, ds0, p0, q0, hargs, rfl, rfl, h0, r0⟩ := trodAll_cons hA
  obtain ⟨rfl, rfl, rfl⟩ := trodAll_nil r0
  obtain rfl : args = #[v0] := by cases args; simp_all
  obtain ⟨rfl, rfl⟩ := trodVars_none hV
  obtain ⟨A0, rfl, oA0⟩ := open_act (hval 0 38 v0 rfl rfl) h0
  have hg := globU_of_laid hL
  clear hA0 hval0
  refine (sceneNone_any A0.kind A0.a A0.n A0.t A0.vb A0.vl A0.vf W (let ⟨A, c, e, _⟩ := oA0.rb; ⟨A, _, c, e⟩) (let ⟨A, c, e, _⟩ := oA0.rl; ⟨A, _, c, e⟩) (let ⟨A, c, e, _⟩ := oA0.rf; ⟨A, _, c, e⟩) hg).mono fun e W' ⟨he, hg'⟩ => ?_
  subst he
  exact ⟨_, rfl, law_post laidOut hW' rfl (readable_of readable) (T := 4) (by kernel_rfl) Tryz.underlying4 rfl rfl rfl hg'.below⟩
theorem over : Rows.sceneNoneRow.holds Tryz.pinned (OpenSpec.ofChange Rows.sceneNoneSpec) :=
  OpenClaim.holds_of_wide 6 Tryz.f6 rfl rfl rfl rfl rfl rfl rfl ⟨rfl, rfl, rfl, rfl, rfl⟩ rfl rfl rfl rfl rfl (by kernel_rfl) Tryz.func6 (by kernel_rfl)
    (of_decide_eq_true (by kernel_rfl)) (by unfold Func.isWrapper; first | (rw [if_pos (by decide +kernel)]; kernel_rfl) | (rw [if_neg (by decide +kernel)]; exact ⟨rfl, rfl⟩))
    (fun os started H enc _ => lifted os started H enc)
theorem proved : Rows.SceneNoneCardSaid :=
  Claim7.holds_tied_plain_at .later [] [.data] true (true, "9c9ca287d2b75f2dea76afd7152f5cd108ac5bccd6caf9210148df0a13258bab") false
    over (fun _ h => by cases h) (by kernel_rfl) (fun _ h => by cases h) sceneNone_row_tie rfl ⟨rfl, rfl⟩ (by kernel_rfl) rfl
    (fun f fn hf hfn => by
      obtain rfl : f = 6 := Option.some.inj ((show Tryz.prog.funcNamed "scrivener/scrivenerlaw23.SceneNone" = some 6 by kernel_rfl).symm.trans hf) |>.symm
      obtain rfl : fn = Tryz.f6 := (Option.some.inj (Tryz.func6.symm.trans hfn)).symm
      exact ⟨by kernel_rfl, fun j t ht => by
        rw [Tryz.params6] at ht
        rcases j with _ | j
        · obtain rfl : t = 38 := by simpa using ht.symm
          exact (show Tryz.prog.wantsStandIn 38 = false by kernel_rfl)
        simp at ht⟩)
    (by kernel_rfl)
#print axioms proved
end Go.Proofs.YtamhnffokoejjaaGreatDoor.sceneNone
