/- the laws' comparison of two slices of numbers: by contract. -/
import Derived.Test.YtimplngemjdodaaDoorNums
import Derived.Test.YtimplngemjdodaaDoorChecked
import Derived.BigQuiet
import Derived.Deep.LoopGhost
import Derived.Deep.DeepCutAuto
import Derived.Deep.CutBlock
namespace Go.Proofs.YtimplngemjdodaaDoor
set_option linter.unusedSimpArgs false
set_option linter.unusedVariables false
set_option linter.unusedSectionVars false
open Go.RowKit

/-! ### Ints -/
set_option maxRecDepth 100000 in
set_option maxHeartbeats 3200000 in
theorem ints_any (va vb : Value) (a b : List Int) (w : World) (c : Bool) (hc : decide (a = b) = c) (ha : RI w va a) (hb : RI w vb b) (hl : a.length ≤ 1000) (hm : b.length ≤ 1000) :
    Calls Tryd.prog 16 #[va, vb] w fun e w' => e = .returned (.bool c) ∧ AnyLater w w' := by
  obtain ⟨A1, c1, rfl, p1, p2⟩ := ha
  obtain ⟨A2, c2, rfl, q1, q2⟩ := hb
  have HP := Lib.hid p2
  have HQ := Lib.hid q2
  by_cases q : a.length = b.length
  · obtain ⟨n, hn⟩ : ∃ n, a.length = n := ⟨_, rfl⟩
    have hn2 : b.length = n := by rw [← q]; exact hn
    have HN1 := Lib.hid hn
    have HN2 := Lib.hid hn2
    have HT : Hid ((∀ (j : Nat) (h1 : j < a.length) (h2 : j < b.length), a[j] = b[j]) → true = c) := Lib.hid (fun h => by
      rw [← hc, eq_comm, decide_eq_true_eq]
      exact List.ext_getElem (by omega) (fun j h1 h2 => h j h1 h2))
    have HF : Hid (∀ (j : Nat) (h1 : j < a.length) (h2 : j < b.length), a[j] ≠ b[j] → false = c) := Lib.hid (fun j h1 h2 h => by
      rw [← hc, eq_comm, decide_eq_false_iff_not]
      rintro rfl
      exact h rfl)
    rw [hn, hn2]
    rw [hn] at hl p1
    rw [hn2] at hm q1
    clear hc p2 q2 q hn hn2
    go_enter Tryd.func16, Tryd.ntmps16
    go_wp2_with fail
    go_loopg [5] n (fun k jv wr => AnyLater w wr ∧ ∃ j : Nat, k = n - j ∧ j ≤ n ∧ jv = .int .i64 j ∧ ∀ (i : Nat) (h1 : i < a.length) (h2 : i < b.length), i < j → a[i] = b[i])
    case atStart => exact ⟨AnyLater.refl w, 0, by omega, by omega, rfl, fun i _ _ h => by omega⟩
    case round =>
      obtain ⟨a_wr, j, hk, hj, rfl, hf⟩ := hrel
      have HA := Lib.hid a_wr
      have HFF := Lib.hid hf
      by_cases hlt : j < n
      · have l1 : j < a.length := by rw [HN1.out]; exact hlt
        have l2 : j < b.length := by rw [HN2.out]; exact hlt
        obtain ⟨b1, o1, rfl, hb1, hc1⟩ := HP.out (by omega)
        obtain ⟨b2, o2, rfl, hb2, hc2⟩ := HQ.out (by omega)
        have cc1 : wr.cell? ⟨b1, o1 + j, none⟩ = some (.int .i64 a[j]) := (a_wr.below.cell hb1).trans (hc1 j l1)
        have cc2 : wr.cell? ⟨b2, o2 + j, none⟩ = some (.int .i64 b[j]) := (a_wr.below.cell hb2).trans (hc2 j l2)
        have HS : Hid (a[j] = b[j] → ∀ (i : Nat) (h1 : i < a.length) (h2 : i < b.length), i < j + 1 → a[i] = b[i]) := Lib.hid (fun h i h1 h2 h3 => by
          by_cases e : i = j
          · subst e; exact h
          · exact HFF.out i h1 h2 (by omega))
        have HFj := Lib.hid (HF.out j l1 l2)
        clear hf hc1 hc2 a_wr
        generalize a[j] = x at *
        generalize b[j] = y at *
        by_cases e : x = y
        · subst e
          have d1 : (x != x) = false := by simp
          go_wp2_with fail
          go_quiet (fail)
          go_wp2_with fail
          go_roundg (n - (j + 1))
          case measure => omega
          case rel => exact ⟨HA.out.drewN _, j + 1, rfl, by omega, by go_num, HS.out trivial⟩
        · have d1 : (x != y) = true := by simpa using e
          have HZ := Lib.hid (HFj.out e)
          go_wp2_with fail
          go_quiet (fail)
          go_wp2_with fail
          go_ret
          exact ⟨ret_bool HZ.out, HA.out.drewN _⟩
      · obtain rfl : j = n := by omega
        have HZ := Lib.hid (HT.out (fun i h1 h2 => HFF.out i h1 h2 (by rw [← HN1.out]; exact h1)))
        clear hf a_wr
        go_wp2_with fail
        go_ret
        exact ⟨ret_bool HZ.out, HA.out⟩
  · have HZ : Hid (false = c) := Lib.hid (by rw [← hc, eq_comm, decide_eq_false_iff_not]; rintro rfl; exact q rfl)
    clear hc p2 q2 HP HQ
    generalize a.length = n at *
    generalize b.length = m at *
    have d1 : ((n : Int) != (m : Int)) = true := by simp; omega
    go_enter Tryd.func16, Tryd.ntmps16
    go_wp2_with fail
    go_ret
    exact ⟨ret_bool HZ.out, by repeat' (first | with_reducible assumption | with_reducible exact AnyLater.refl _ | with_reducible apply AnyLater.setCell | with_reducible apply AnyLater.later | with_reducible apply AnyLater.drewN | with_reducible apply AnyLater.drew | with_reducible apply AnyLater.alloc | ((try simp only [World.size_alloc, World.size_setCell, World.size_drew]); (try dsimp only); omega))⟩
end Go.Proofs.YtimplngemjdodaaDoor
