/- shade: the document's own Hex, the law's digits: by contract. -/
import Derived.Test.YthhaacekfgdoeaaShdN
namespace Go.Proofs.Ythhaacekfgdoeaa
set_option linter.unusedSimpArgs false
set_option linter.unusedVariables false
set_option linter.unusedSectionVars false
open Go.RowKit

set_option maxRecDepth 100000 in
set_option maxHeartbeats 1600000 in
theorem refHex_any (c : Int) (w : World) (hc : U32s c) : Calls Try.prog 13 #[.int .u32 c] w fun e w' => e = .returned (.string (mkS (hexL c))) ∧ AnyLater w w' := by
  obtain ⟨c1, c2⟩ := hc
  go_enter Try.func13, Try.ntmps13
  go_wp2_with fail
  go_loopg [0, 3, 5] 6 (fun kk cv sv iv wr => wr = w ∧ ∃ i : Nat, kk = 6 - i ∧ i ≤ 6 ∧ cv = .int .u32 (c / 16 ^ i) ∧ iv = .int .i64 i ∧ sv = .string (mkS (hexT c i)))
  case atStart => exact ⟨rfl, 0, by omega, by omega, by simp, rfl, rfl⟩
  case round =>
    obtain ⟨rfl, i, hk, hi, rfl, rfl, rfl⟩ := hrel
    have hl := hexT_len c i
    have HT : Hid (hexT c (i + 1) = [hd (c / 16 ^ i % 16)] ++ hexT c i) := Lib.hid rfl
    have hp : (0 : Int) < 16 ^ i := Int.pow_pos (by decide)
    have HD : Hid (c / 16 ^ (i + 1) = c / 16 ^ i / 16) := Lib.hid (by rw [Int.pow_succ, ← Int.ediv_ediv_of_nonneg (by omega)])
    have z0 : 0 ≤ c / 16 ^ i := Int.ediv_nonneg c1 (by omega)
    have z1 : c / 16 ^ i ≤ c := Int.ediv_le_self _ c1
    obtain ⟨S, hS⟩ : ∃ S, hexT c i = S := ⟨_, rfl⟩
    rw [hS] at hl HT ⊢
    obtain ⟨z, hz⟩ : ∃ z, c / 16 ^ i = z := ⟨_, rfl⟩
    rw [hz] at z0 z1 HT HD ⊢
    have HZ := Lib.hid hz
    have HSS := Lib.hid hS
    clear hz hp hS
    by_cases hlt : i < 6
    · have F1 := fun w => run_dig w .u32 (z % 16) (by omega) (by omega)
      have F2 := fun w => run_add w [hd (z % 16)] S (by simp; omega)
      have HL2 : Hid (hexT c (i + 1) = hd (z % 16) :: S) := Lib.hid HT.out
      go_wp2_with fail
      go_roundg (6 - (i + 1))
      case measure => omega
      case rel => exact ⟨rfl, i + 1, rfl, by omega, by rw [HD.out], by go_num, by rw [HL2.out]⟩
    · obtain rfl : i = 6 := by omega
      go_wp2_with fail
      go_ret
      exact ⟨by show Ending.returned (.string (mkS S)) = _; rw [← HSS.out]; rfl, AnyLater.refl _⟩

/-! ### the law's digits -/
set_option maxRecDepth 100000 in
set_option maxHeartbeats 3200000 in
theorem digits_any (l : List UInt8) (w : World) (c : Bool) (hc : (l.take 7).all isDig = c) (hl : (l.length : Int) ≤ 9223372036854775807) : Calls Try.prog 14 #[.string (mkS l)] w fun e w' => e = .returned (.bool c) ∧ AnyLater w w' := by
  have hsz := mkS_size l
  obtain ⟨n, hn⟩ : ∃ n, l.length = n := ⟨_, rfl⟩
  have HN := Lib.hid hn
  have HF : Hid (∀ (j : Nat) (h : j < l.length), j < 7 → isDig l[j] = false → false = c) := Lib.hid (fun j h h7 hd => by
    rw [← hc, eq_comm, List.all_eq_false]
    exact ⟨l[j], List.mem_take_iff_getElem.2 ⟨j, by omega, rfl⟩, by rw [hd]; decide⟩)
  have HT : Hid ((∀ (j : Nat) (h : j < l.length), j < 7 → isDig l[j] = true) → true = c) := Lib.hid (fun h => by
    rw [← hc, eq_comm, List.all_eq_true]
    intro x hx
    obtain ⟨j, hj, rfl⟩ := List.mem_take_iff_getElem.1 hx
    exact h j (by omega) (by omega))
  have HI := Lib.hid (fun (i : Nat) (h : i < l.length) w => run_at l w .i64 i h)
  rw [hn] at hsz hl
  obtain ⟨SS, hSS⟩ : ∃ SS, mkS l = SS := ⟨_, rfl⟩
  rw [hSS] at hsz HI ⊢
  clear hc hn hSS
  go_enter Try.func14, Try.ntmps14
  go_wp2_with fail
  go_loopg [3] 7 (fun kk iv wr => wr = w ∧ ∃ i : Nat, kk = 7 - i ∧ i ≤ 7 ∧ i ≤ n ∧ iv = .int .i64 i ∧ ∀ (j : Nat) (h : j < l.length), j < i → isDig l[j] = true)
  case atStart => exact ⟨rfl, 0, by omega, by omega, by omega, rfl, fun j _ h => by omega⟩
  case round =>
    obtain ⟨rfl, i, hk, hi, hin, rfl, hf⟩ := hrel
    have HFF := Lib.hid hf
    clear hf
    by_cases hlt : i < n
    · by_cases h7 : i < 7
      · have li : i < l.length := by rw [HN.out]; exact hlt
        have F1 := HI.out i li
        have hx := (l[i]).toNat_lt
        have HD := isDig_iff l[i]
        have HFi := Lib.hid (HF.out i li h7)
        have HS : Hid (isDig l[i] = true → ∀ (j : Nat) (h : j < l.length), j < i + 1 → isDig l[j] = true) := Lib.hid (fun h j hj h2 => by
          by_cases e : j = i
          · subst e; exact h
          · exact HFF.out j hj (by omega))
        rw [HD] at HFi HS
        clear HD
        generalize (l[i]).toNat = x at *
        have q : x < 48 ∨ (48 ≤ x ∧ x ≤ 57) ∨ (57 < x ∧ x < 97) ∨ (97 ≤ x ∧ x ≤ 102) ∨ 102 < x := by omega
        rcases q with q | ⟨q, q'⟩ | ⟨q, q'⟩ | ⟨q, q'⟩ | q
        · have HZ := Lib.hid (HFi.out (decide_eq_false (by omega)))
          go_wp2_with fail
          go_ret
          exact ⟨ret_bool HZ.out, AnyLater.refl _⟩
        · have HZ := Lib.hid (HS.out (decide_eq_true (by omega)))
          go_wp2_with fail
          go_roundg (7 - (i + 1))
          case measure => omega
          case rel => exact ⟨rfl, i + 1, rfl, by omega, by omega, by go_num, HZ.out⟩
        · have HZ := Lib.hid (HFi.out (decide_eq_false (by omega)))
          have d57 : decide ((x : Int) ≤ 57) = false := decide_eq_false (by omega)
          go_wp2_with fail
          go_ret
          exact ⟨ret_bool HZ.out, AnyLater.refl _⟩
        · have HZ := Lib.hid (HS.out (decide_eq_true (by omega)))
          have dx : decide ((x : Int) ≤ 102) = true := decide_eq_true (by omega)
          have d57 : decide ((x : Int) ≤ 57) = false := decide_eq_false (by omega)
          go_wp2_with fail
          go_roundg (7 - (i + 1))
          case measure => omega
          case rel => exact ⟨rfl, i + 1, rfl, by omega, by omega, by go_num, HZ.out⟩
        · have HZ := Lib.hid (HFi.out (decide_eq_false (by omega)))
          have d57 : decide ((x : Int) ≤ 57) = false := decide_eq_false (by omega)
          have dx : decide ((x : Int) ≤ 102) = false := decide_eq_false (by omega)
          go_wp2_with fail
          go_ret
          exact ⟨ret_bool HZ.out, AnyLater.refl _⟩
      · have HZ := Lib.hid (HT.out (fun j hj h => HFF.out j hj (by omega)))
        have d7 : decide ((i : Int) < 7) = false := decide_eq_false (by omega)
        go_wp2_with fail
        go_ret
        exact ⟨ret_bool HZ.out, AnyLater.refl _⟩
    · have HZ := Lib.hid (HT.out (fun j hj h => HFF.out j hj (by have := HN.out; omega)))
      go_wp2_with fail
      go_ret
      exact ⟨ret_bool HZ.out, AnyLater.refl _⟩
end Go.Proofs.Ythhaacekfgdoeaa
