/- fault: lives; the document's own depth; First. -/
import Derived.Test.YtfocpgnhbabeiaaDoorFaultM
import Derived.Test.YtfocpgnhbabeiaaDoorFaultI
namespace Go.Proofs.YtfocpgnhbabeiaaDoor
set_option linter.unusedSimpArgs false
set_option linter.unusedVariables false
set_option linter.unusedSectionVars false
open Go.RowKit Go.Extern.Stop Go.Stop Go.Extern

theorem refDepth_zero (a : Option Addr) (n cap : Nat) (w : World) :
    Calls Tryd.prog 14 #[.agg #[.slice a n cap, .int .i64 0]] w fun e w' => e = .returned (.int .i64 0) ∧ AnyLater w w' := by
  have HL := Lib.hid ((AnyLater.refl w).alloc (.cells #[.slice a n cap, .int .i64 0] 26))
  go_enter Tryd.func14, Tryd.ntmps14
  go_wp2_with fail
  go_ret
  exact ⟨rfl, HL.out⟩
theorem refDepth_some (a : Option Addr) (n cap : Nat) (c : Int) (w : World) (hc : (c == 0) = false) (hn : n ≤ 20) :
    Calls Tryd.prog 14 #[.agg #[.slice a n cap, .int .i64 c]] w fun e w' => e = .returned (.int .i64 (n + 1)) ∧ AnyLater w w' := by
  have HL := Lib.hid ((AnyLater.refl w).alloc (.cells #[.slice a n cap, .int .i64 c] 26))
  go_enter Tryd.func14, Tryd.ntmps14
  go_wp2_with fail
  go_ret
  exact ⟨rfl, HL.out⟩

set_option maxHeartbeats 1000000 in
theorem lives_any (w : World) (hg : Glob w) :
    Calls Tryd.prog 13 #[] w fun e w' => e = .returned (.bool true) ∧ AnyLater w w' := by
  have HG := Lib.hid hg
  clear hg
  go_enter Tryd.func13, Tryd.ntmps13
  go_wp2_with fail
  refine (new_code 2 1 _ (by decide)).mono ?_
  rintro e w1 ⟨rfl, b1, s1⟩
  have C := Lib.hid (of_chain 1 [2] 1 _ w1 ⟨_, _, rfl, s1, rfl⟩)
  have H1 := Lib.hid (And.intro b1 s1)
  clear b1 s1
  go_wp2_with fail
  refine C.out.mono ?_
  rintro e w2 ⟨rfl, b2, s2⟩
  have hc : Chain w2 [1, 2] 1 _ := ⟨_, _, rfl, s2, _, _, rfl, any_own b2 H1.out.2, rfl⟩
  have C2 := Lib.hid (Path_chain [1, 2] 1 _ w2 (HG.out.later (H1.out.1.trans b2)) hc (by decide))
  have H2 := Lib.hid (And.intro b2 hc)
  clear b2 s2 hc C
  go_wp2_with fail
  refine C2.out.mono ?_
  rintro e w3 ⟨v, rfl, b3, o3⟩
  obtain ⟨g, cap, rfl, h4, _, h5, h6, hcell⟩ := owns_cell o3 (by decide)
  have C3 := Lib.hid (fis_chain [1, 2] 1 1 _ w3 true rfl (H2.out.2.later b3) (by decide))
  have H3 := Lib.hid b3
  have s3 := H3
  have c0 : w3.cell? ⟨g, 0, none⟩ = some (.int .i64 1) := hcell 0 (by decide)
  have c1 : w3.cell? ⟨g, 1, none⟩ = some (.int .i64 2) := hcell 1 (by decide)
  have l0 : w3.cell? ⟨g, 0, none⟩ = some (.int .i64 1) → g < w3.heap.size := fun h => World.block_lt_of_cell? _ _ h
  clear b3 o3 hcell C2 l0 s3
  simp only [List.length_cons, List.length_nil, Nat.zero_add, Nat.reduceAdd] at *
  go_wp2_with fail
  refine C3.out.mono ?_
  rintro e w4 ⟨rfl, b4⟩
  have d0 : w4.cell? ⟨g, 0, none⟩ = some (.int .i64 1) := by rw [b4.below.cell h6]; exact c0
  have d1 : w4.cell? ⟨g, 1, none⟩ = some (.int .i64 2) := by rw [b4.below.cell h6]; exact c1
  have H4 := Lib.hid (((H1.out.1.trans H2.out.1).trans H3.out).trans b4)
  clear b4
  go_wp2_with fail
  go_ret
  exact ⟨rfl, H4.out⟩

def firstOf : List Value → Value
  | [] => .nilIface
  | .nilIface :: r => firstOf r
  | x :: _ => x
theorem first_any (g n cap : Nat) (xs : List Value) (w : World) (hl : xs.length = n) (hn : n ≤ 20) (hx : ∀ x ∈ xs, x = .nilIface ∨ ∃ t v, x = .iface t v) (hcell : ∀ (j : Nat) (h : j < xs.length), w.cell? ⟨g, j, none⟩ = some xs[j]) :
    Calls Tryd.prog 19 #[.slice (some ⟨g, 0, none⟩) n cap] w fun e w' => e = .returned (firstOf xs) ∧ w = w' := by
  have HN := Lib.hid hl
  have HX := Lib.hid hx
  have HC := Lib.hid hcell
  clear hl hx hcell
  go_enter Tryd.func19, Tryd.ntmps19
  go_wp2_with fail
  go_loopg [7] n (fun k i wr => wr = w ∧ ∃ j : Nat, k = n - j ∧ j ≤ n ∧ i = .int .i64 j ∧ firstOf xs = firstOf (xs.drop j))
  case atStart => exact ⟨rfl, 0, by omega, by omega, rfl, by simp⟩
  case round =>
    obtain ⟨rfl, j, hk, hj, rfl, hf⟩ := hrel
    have HF := Lib.hid hf
    clear hf
    by_cases hlt : j < n
    · have lj : j < xs.length := by rw [HN.out]; exact hlt
      have cj := HC.out j lj
      have hd : xs.drop j = xs[j] :: xs.drop (j + 1) := List.drop_eq_getElem_cons lj
      have HD := Lib.hid hd
      clear hd
      rcases HX.out xs[j] (List.getElem_mem lj) with e | ⟨t, v, e⟩
      · have HE := Lib.hid e
        rw [e] at cj
        clear e
        go_wp2_with fail
        go_roundg (n - (j + 1))
        case measure => omega
        case rel => exact ⟨rfl, j + 1, rfl, hlt, by go_num, by rw [HF.out, HD.out, HE.out]; rfl⟩
      · have HE := Lib.hid e
        rw [e] at cj
        have hne := run_neq_iface_nil t v Tryd.underlying28 wr
        clear e
        go_wp2_with fail
        go_ret
        exact ⟨by rw [HF.out, HD.out, HE.out]; rfl, rfl⟩
    · obtain rfl : j = n := by omega
      go_wp2_with fail
      go_ret
      exact ⟨by rw [HF.out, List.drop_of_length_le (Nat.le_of_eq HN.out)]; rfl, rfl⟩
end Go.Proofs.YtfocpgnhbabeiaaDoor
