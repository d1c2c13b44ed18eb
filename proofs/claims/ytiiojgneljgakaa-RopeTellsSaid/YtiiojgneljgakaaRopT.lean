/- rope: lives; an act done to both. -/
import Derived.Test.YtiiojgneljgakaaRopS
import Derived.Lib.SlBytesConst
namespace Go.Proofs.Ytiiojgneljgakaa
set_option linter.unusedSimpArgs false
set_option linter.unusedVariables false
set_option linter.unusedSectionVars false
open Go.RowKit

theorem RN.lit {k : IntKind} {t : TypeId} {w : World} {g : Nat} {cs : Array Value} {m : Nat × Nat} (l : List Int) (h : w.heap[g]? = some (.cells cs t m)) (e : cs.toList = l.map (Value.int k)) : RN k w (.slice (some ⟨g, 0, none⟩) l.length l.length) l := by
  refine ⟨_, _, rfl, Nat.le_refl _, fun h0 => ⟨g, 0, rfl, own_lt h, fun j hj => ?_⟩⟩
  have : cs[0 + j]? = some (.int k l[j]) := by
    rw [Nat.zero_add, ← Array.getElem?_toList, e]
    simp [hj]
  simpa [World.cell?, h] using this
theorem isB.form {l : List Int} {v : Value} {w : World} (h : isB l v w) : ∃ A cap, v = .slice A l.length cap ∧ l.length ≤ cap := RT.form h
set_option maxRecDepth 100000 in
set_option maxHeartbeats 1600000 in
theorem rlives (w : World) : Calls Try.prog 14 #[] w fun e w' => e = .returned (.bool true) ∧ AnyLater w w' := by
  have ok1 : (insT .nil 0 [97, 98, 99]).Ok := insT_ok ⟨trivial, trivial, Nat.zero_le _⟩ (Nat.le_refl _) (by decide) (by unfold Bytes; decide) (by decide)
  have bs1 : (insT .nil 0 [97, 98, 99]).bs = [97, 98, 99] := by rw [insT_bs]; rfl
  have ln1 : (insT .nil 0 [97, 98, 99]).len = 3 := by rw [← Tr.len_bs, bs1]; rfl
  have HN : Hid (∀ (w' : World) (u : Value), RN .u8 w' u [97, 98, 99] → Calls Try.prog 6 #[u, .int .i64 9] w' fun e w'' => ∃ g, e = .returned (.tuple #[.pointer (some ⟨g, 0, none⟩), .int .i64 0]) ∧ AnyLater w' w'' ∧ w'.heap.size ≤ g ∧ IsR w'' g 9 (insT .nil 0 [97, 98, 99])) :=
    Lib.hid (fun w' u hu => rnew_yes u [97, 98, 99] 9 w' hu (by unfold Bytes; decide) (by decide) (by decide) ⟨by decide, by decide⟩ (by decide))
  generalize insT .nil 0 [97, 98, 99] = t1 at *
  have ok2 : (insT t1 1 [120]).Ok := insT_ok ok1 (by omega) (by decide) (by unfold Bytes; decide) (by simp; omega)
  have bs2 : (insT t1 1 [120]).bs = [97, 120, 98, 99] := by rw [insT_bs, bs1]; rfl
  have HI : Hid (∀ (w' : World) (g : Nat) (u : Value), IsR w' g 9 t1 → RN .u8 w' u [120] → Calls Try.prog 16 #[.pointer (some ⟨g, 0, none⟩), .int .i64 1, u] w' fun e w'' => e = .returned (.int .i64 0) ∧ But g w' w'' ∧ IsR w'' g 9 (insT t1 1 [120])) :=
    Lib.hid (fun w' g u h hu => rins_yes g 9 t1 1 u [120] w' h ok1 (by omega) hu (by unfold Bytes; decide) (by decide) (by simp; omega) ⟨by decide, by decide⟩ (by simp; omega))
  generalize insT t1 1 [120] = t2 at *
  have HP : Hid (∀ (w' : World) (g : Nat), IsR w' g 9 t2 → Calls Try.prog 9 #[.pointer (some ⟨g, 0, none⟩), .int .i64 0, .int .i64 9] w' (Ans (isB [97, 120, 98, 99]) w')) :=
    Lib.hid (fun w' g h => rpart_any _ t2 0 9 [97, 120, 98, 99] (by rw [bs2]; rfl) w' (.inr ⟨g, 9, rfl, h⟩) ok2)
  have HCk : Hid (∀ (w' : World) (g : Nat), IsR w' g 9 t2 → Calls Try.prog 18 #[.pointer (some ⟨g, 0, none⟩)] w' fun e w'' => e = .returned (.bool true) ∧ AnyLater w' w'') := Lib.hid (fun w' g h => rcheck_any g 9 t2 w' h ok2)
  obtain ⟨S, hS, hSt⟩ : ∃ S, strOfNums [97, 120, 98, 99] = S ∧ S.toList = [97, 120, 98, 99] := ⟨_, rfl, by rw [ByteArray.toList_eq, strOfNums_data]; rfl⟩
  clear ok1 bs1 ln1 ok2 bs2
  have kc := fun (w : World) (C : Array Value) (n c : Nat) => Lib.run_convert_bytes_const (P := Try.prog) w 28 5 C n c Try.underlying28 Try.underlying5
  go_enter Try.func14, Try.ntmps14
  go_wp2_with fail
  refine (HN.out _ _ (RN.lit [97, 98, 99] (heap_new rfl) rfl)).mono ?_
  rintro e w1 ⟨g, rfl, b1, hg, r1⟩
  have A1 : Hid (AnyLater w w1) := Lib.hid (AnyLater.trans (by repeat' (first | with_reducible assumption | with_reducible exact AnyLater.refl _ | with_reducible apply AnyLater.setCell | with_reducible apply AnyLater.later | with_reducible apply AnyLater.drewN | with_reducible apply AnyLater.drew | with_reducible apply AnyLater.alloc | ((try simp only [World.size_alloc, World.size_setCell, World.size_drew]); (try dsimp only); omega))) b1)
  have hgw : w.heap.size ≤ g := by simp only [World.size_alloc] at hg; omega
  have R1 := Lib.hid r1
  clear b1 hg r1
  go_wp2_with fail
  refine (HI.out _ g _ (R1.out.later (by repeat' (first | with_reducible assumption | with_reducible exact AnyLater.refl _ | with_reducible apply AnyLater.setCell | with_reducible apply AnyLater.later | with_reducible apply AnyLater.drewN | with_reducible apply AnyLater.drew | with_reducible apply AnyLater.alloc | ((try simp only [World.size_alloc, World.size_setCell, World.size_drew]); (try dsimp only); omega)))) (RN.lit [120] (heap_new rfl) rfl)).mono ?_
  rintro e w2 ⟨rfl, b2, r2⟩
  have A2 : Hid (AnyLater w w2) := Lib.hid (But.any (AnyLater.trans A1.out (by repeat' (first | with_reducible assumption | with_reducible exact AnyLater.refl _ | with_reducible apply AnyLater.setCell | with_reducible apply AnyLater.later | with_reducible apply AnyLater.drewN | with_reducible apply AnyLater.drew | with_reducible apply AnyLater.alloc | ((try simp only [World.size_alloc, World.size_setCell, World.size_drew]); (try dsimp only); omega)))) hgw b2)
  have R2 := Lib.hid r2
  clear b2 r2
  go_wp2_with fail
  refine (HP.out _ g R2.out).mono ?_
  rintro e w3 ⟨u, rfl, b3, hu⟩
  have A3 := Lib.hid (A2.out.trans b3)
  have R3 := Lib.hid (R2.out.later b3)
  have hstr := RN.str (RT.rn hu)
  rw [hS] at hstr
  obtain ⟨A, cap, rfl, -⟩ := isB.form hu
  have hstr2 : (convert 28 9 (.slice A 4 cap)).run Try.prog w3 = .ok (.string S) w3 := hstr
  clear hu b3
  go_wp2_with fail
  refine (HCk.out _ g R3.out).mono ?_
  rintro e w4 ⟨rfl, b4⟩
  have A4 := Lib.hid (A3.out.trans b4)
  clear b4
  go_wp2_with fail
  go_ret
  exact ⟨rfl, A4.out⟩
end Go.Proofs.Ytiiojgneljgakaa
