/- glyph: how many bits a number has, and the library's count of them, by contract. -/
import Derived.Test.YtbgpjfiabefajaaGlyC
import Derived.Laws.BitsAll
namespace Go.Proofs.Ytbgpjfiabefajaa
set_option linter.unusedSimpArgs false
set_option linter.unusedVariables false
set_option linter.unusedSectionVars false
open Go.RowKit

/-- how many of the n lowest bits of r are 1 -/
def onesZ (r : Int) : Nat → Int
  | 0 => 0
  | x + 1 => onesZ r x + if bitZ r x = true then 1 else 0
theorem bitZ_emod {r : Int} (h : 0 ≤ r) (x : Nat) : bitZ r x = decide (r / 2 ^ x % 2 = 1) := by
  unfold bitZ
  rw [Int.tmod_eq_emod_of_nonneg (Int.ediv_nonneg h (by exact_mod_cast Nat.zero_le (2 ^ x)))]
  rw [Bool.eq_iff_iff]; simp
theorem bitZ_nat (n x : Nat) : bitZ (n : Int) x = n.testBit x := by
  rw [bitZ_emod (by omega), Nat.testBit_eq_decide_div_mod_eq, Bool.eq_iff_iff]
  simp only [decide_eq_true_eq]
  have : ((2 : Int) ^ x) = ((2 ^ x : Nat) : Int) := by simp
  rw [this]
  omega
theorem onesZ_in (r : Int) : ∀ n : Nat, 0 ≤ onesZ r n ∧ onesZ r n ≤ n
  | 0 => by simp [onesZ]
  | n + 1 => by
    have := onesZ_in r n
    unfold onesZ
    split <;> omega
theorem onesZ_add (r : Int) (a : Nat) : ∀ b : Nat, onesZ r (a + b) = onesZ r a + ((List.range b).map fun i => if bitZ r (a + i) = true then (1 : Int) else 0).sum
  | 0 => by simp
  | b + 1 => by
    rw [← Nat.add_assoc, onesZ, onesZ_add r a b, List.range_succ]
    simp
    omega
theorem onesZ_sum (r : Int) (b : Nat) : onesZ r b = ((List.range b).map fun i => if bitZ r i = true then (1 : Int) else 0).sum := by
  have := onesZ_add r 0 b
  simpa [onesZ] using this
/-- of a byte of it -/
theorem onesZ_byte (n a : Nat) : onesZ (n : Int) (a + 8) = onesZ (n : Int) a + onesZ ((n / 2 ^ a % 256 : Nat) : Int) 8 := by
  rw [onesZ_add, onesZ_sum _ 8]
  congr 2
  apply List.map_congr_left
  intro i hi
  have hi8 : i < 8 := List.mem_range.1 hi
  rw [bitZ_nat, bitZ_nat, show 256 = 2 ^ 8 from rfl, Nat.testBit_mod_two_pow, Nat.testBit_div_two_pow, decide_eq_true hi8, Bool.true_and, Nat.add_comm]
theorem onesZ_32 (n : Nat) : onesZ (n : Int) 32 = onesZ ((n % 256 : Nat) : Int) 8 + onesZ ((n / 256 % 256 : Nat) : Int) 8 + onesZ ((n / 65536 % 256 : Nat) : Int) 8 + onesZ ((n / 16777216 % 256 : Nat) : Int) 8 := by
  have h0 := onesZ_byte n 0
  have h1 := onesZ_byte n 8
  have h2 := onesZ_byte n 16
  have h3 := onesZ_byte n 24
  have z : onesZ (n : Int) 0 = 0 := rfl
  simp only [Nat.reduceAdd, Nat.reducePow, Nat.div_one] at h0 h1 h2 h3
  omega
set_option maxRecDepth 1000000 in
theorem pop_get : ∀ j : Fin 256, ((({ data := ([0, 1, 1, 2, 1, 2, 2, 3, 1, 2, 2, 3, 2, 3, 3, 4, 1, 2, 2, 3, 2, 3, 3, 4, 2, 3, 3, 4, 3, 4, 4, 5, 1, 2, 2, 3, 2, 3, 3, 4, 2, 3, 3, 4, 3, 4, 4, 5, 2, 3, 3, 4, 3, 4, 4, 5, 3, 4, 4, 5, 4, 5, 5, 6, 1, 2, 2, 3, 2, 3, 3, 4, 2, 3, 3, 4, 3, 4, 4, 5, 2, 3, 3, 4, 3, 4, 4, 5, 3, 4, 4, 5, 4, 5, 5, 6, 2, 3, 3, 4, 3, 4, 4, 5, 3, 4, 4, 5, 4, 5, 5, 6, 3, 4, 4, 5, 4, 5, 5, 6, 4, 5, 5, 6, 5, 6, 6, 7, 1, 2, 2, 3, 2, 3, 3, 4, 2, 3, 3, 4, 3, 4, 4, 5, 2, 3, 3, 4, 3, 4, 4, 5, 3, 4, 4, 5, 4, 5, 5, 6, 2, 3, 3, 4, 3, 4, 4, 5, 3, 4, 4, 5, 4, 5, 5, 6, 3, 4, 4, 5, 4, 5, 5, 6, 4, 5, 5, 6, 5, 6, 6, 7, 2, 3, 3, 4, 3, 4, 4, 5, 3, 4, 4, 5, 4, 5, 5, 6, 3, 4, 4, 5, 4, 5, 5, 6, 4, 5, 5, 6, 5, 6, 6, 7, 3, 4, 4, 5, 4, 5, 5, 6, 4, 5, 5, 6, 5, 6, 6, 7, 4, 5, 5, 6, 5, 6, 6, 7, 5, 6, 6, 7, 6, 7, 7, 8] : List UInt8).toArray } : ByteArray)[j.1]'(by have := j.2; exact this)).toNat : Int) = onesZ (j.1 : Int) 8 := by decide +kernel

set_option maxRecDepth 1000000 in
theorem run_pop {t : TypeId} (ht : Try.prog.underlying t = some .string) (w : World) (k : IntKind) (i : Int) (h0 : 0 ≤ i) (h1 : i < 256) : (Instr.index t (.string ({ data := ([0, 1, 1, 2, 1, 2, 2, 3, 1, 2, 2, 3, 2, 3, 3, 4, 1, 2, 2, 3, 2, 3, 3, 4, 2, 3, 3, 4, 3, 4, 4, 5, 1, 2, 2, 3, 2, 3, 3, 4, 2, 3, 3, 4, 3, 4, 4, 5, 2, 3, 3, 4, 3, 4, 4, 5, 3, 4, 4, 5, 4, 5, 5, 6, 1, 2, 2, 3, 2, 3, 3, 4, 2, 3, 3, 4, 3, 4, 4, 5, 2, 3, 3, 4, 3, 4, 4, 5, 3, 4, 4, 5, 4, 5, 5, 6, 2, 3, 3, 4, 3, 4, 4, 5, 3, 4, 4, 5, 4, 5, 5, 6, 3, 4, 4, 5, 4, 5, 5, 6, 4, 5, 5, 6, 5, 6, 6, 7, 1, 2, 2, 3, 2, 3, 3, 4, 2, 3, 3, 4, 3, 4, 4, 5, 2, 3, 3, 4, 3, 4, 4, 5, 3, 4, 4, 5, 4, 5, 5, 6, 2, 3, 3, 4, 3, 4, 4, 5, 3, 4, 4, 5, 4, 5, 5, 6, 3, 4, 4, 5, 4, 5, 5, 6, 4, 5, 5, 6, 5, 6, 6, 7, 2, 3, 3, 4, 3, 4, 4, 5, 3, 4, 4, 5, 4, 5, 5, 6, 3, 4, 4, 5, 4, 5, 5, 6, 4, 5, 5, 6, 5, 6, 6, 7, 3, 4, 4, 5, 4, 5, 5, 6, 4, 5, 5, 6, 5, 6, 6, 7, 4, 5, 5, 6, 5, 6, 6, 7, 5, 6, 6, 7, 6, 7, 7, 8] : List UInt8).toArray } : ByteArray)) (.int k i)).run Try.prog w = .ok (.int .u8 (onesZ i 8)) w := by
  have hs : (({ data := ([0, 1, 1, 2, 1, 2, 2, 3, 1, 2, 2, 3, 2, 3, 3, 4, 1, 2, 2, 3, 2, 3, 3, 4, 2, 3, 3, 4, 3, 4, 4, 5, 1, 2, 2, 3, 2, 3, 3, 4, 2, 3, 3, 4, 3, 4, 4, 5, 2, 3, 3, 4, 3, 4, 4, 5, 3, 4, 4, 5, 4, 5, 5, 6, 1, 2, 2, 3, 2, 3, 3, 4, 2, 3, 3, 4, 3, 4, 4, 5, 2, 3, 3, 4, 3, 4, 4, 5, 3, 4, 4, 5, 4, 5, 5, 6, 2, 3, 3, 4, 3, 4, 4, 5, 3, 4, 4, 5, 4, 5, 5, 6, 3, 4, 4, 5, 4, 5, 5, 6, 4, 5, 5, 6, 5, 6, 6, 7, 1, 2, 2, 3, 2, 3, 3, 4, 2, 3, 3, 4, 3, 4, 4, 5, 2, 3, 3, 4, 3, 4, 4, 5, 3, 4, 4, 5, 4, 5, 5, 6, 2, 3, 3, 4, 3, 4, 4, 5, 3, 4, 4, 5, 4, 5, 5, 6, 3, 4, 4, 5, 4, 5, 5, 6, 4, 5, 5, 6, 5, 6, 6, 7, 2, 3, 3, 4, 3, 4, 4, 5, 3, 4, 4, 5, 4, 5, 5, 6, 3, 4, 4, 5, 4, 5, 5, 6, 4, 5, 5, 6, 5, 6, 6, 7, 3, 4, 4, 5, 4, 5, 5, 6, 4, 5, 5, 6, 5, 6, 6, 7, 4, 5, 5, 6, 5, 6, 6, 7, 5, 6, 6, 7, 6, 7, 7, 8] : List UInt8).toArray } : ByteArray)).size = 256 := rfl
  rw [run_index_string w t _ k i ht, dif_pos ⟨h0, by omega⟩]
  have h := pop_get ⟨i.toNat, by omega⟩
  have e : ((i.toNat : Nat) : Int) = i := by omega
  simp only [e] at h
  rw [← h]
set_option maxRecDepth 100000 in
set_option maxHeartbeats 3200000 in
theorem ones32_any (n : Nat) (hn : n < 4294967296) (c : Int) (hc : onesZ (n : Int) 32 = c) (w : World) :
    Calls Try.prog 64 #[.int .u32 (n : Int)] w fun e w' => e = .returned (.int .i64 c) ∧ AnyLater w w' := by
  have hp := run_pop (t := 9) (by kernel_rfl)
  have h1 := onesZ_32 n
  rw [hc] at h1
  have H := Lib.hid h1
  clear hc h1
  have a1 : bits .and .u32 ((n : Int) / 65536) 255 = ((n / 65536 % 256 : Nat) : Int) := by go_bits2
  have a2 : bits .and .u32 ((n : Int) / 256) 255 = ((n / 256 % 256 : Nat) : Int) := by go_bits2
  have a3 : bits .and .u32 (n : Int) 255 = ((n % 256 : Nat) : Int) := by go_bits2
  have a4 : (n : Int) / 16777216 = ((n / 16777216 % 256 : Nat) : Int) := by omega
  have o0 := onesZ_in ((n % 256 : Nat) : Int) 8
  have o1 := onesZ_in ((n / 256 % 256 : Nat) : Int) 8
  have o2 := onesZ_in ((n / 65536 % 256 : Nat) : Int) 8
  have o3 := onesZ_in ((n / 16777216 % 256 : Nat) : Int) 8
  have b0 := Nat.mod_lt n (show 0 < 256 by decide)
  have b1 := Nat.mod_lt (n / 256) (show 0 < 256 by decide)
  have b2 := Nat.mod_lt (n / 65536) (show 0 < 256 by decide)
  have b3 := Nat.mod_lt (n / 16777216) (show 0 < 256 by decide)
  generalize n / 65536 % 256 = k2 at *
  generalize n / 256 % 256 = k1 at *
  generalize n % 256 = k0 at *
  generalize n / 16777216 % 256 = k3 at *
  have i0 : ∀ w, (Instr.index 9 (.string ({ data := ([0, 1, 1, 2, 1, 2, 2, 3, 1, 2, 2, 3, 2, 3, 3, 4, 1, 2, 2, 3, 2, 3, 3, 4, 2, 3, 3, 4, 3, 4, 4, 5, 1, 2, 2, 3, 2, 3, 3, 4, 2, 3, 3, 4, 3, 4, 4, 5, 2, 3, 3, 4, 3, 4, 4, 5, 3, 4, 4, 5, 4, 5, 5, 6, 1, 2, 2, 3, 2, 3, 3, 4, 2, 3, 3, 4, 3, 4, 4, 5, 2, 3, 3, 4, 3, 4, 4, 5, 3, 4, 4, 5, 4, 5, 5, 6, 2, 3, 3, 4, 3, 4, 4, 5, 3, 4, 4, 5, 4, 5, 5, 6, 3, 4, 4, 5, 4, 5, 5, 6, 4, 5, 5, 6, 5, 6, 6, 7, 1, 2, 2, 3, 2, 3, 3, 4, 2, 3, 3, 4, 3, 4, 4, 5, 2, 3, 3, 4, 3, 4, 4, 5, 3, 4, 4, 5, 4, 5, 5, 6, 2, 3, 3, 4, 3, 4, 4, 5, 3, 4, 4, 5, 4, 5, 5, 6, 3, 4, 4, 5, 4, 5, 5, 6, 4, 5, 5, 6, 5, 6, 6, 7, 2, 3, 3, 4, 3, 4, 4, 5, 3, 4, 4, 5, 4, 5, 5, 6, 3, 4, 4, 5, 4, 5, 5, 6, 4, 5, 5, 6, 5, 6, 6, 7, 3, 4, 4, 5, 4, 5, 5, 6, 4, 5, 5, 6, 5, 6, 6, 7, 4, 5, 5, 6, 5, 6, 6, 7, 5, 6, 6, 7, 6, 7, 7, 8] : List UInt8).toArray } : ByteArray)) (.int .u32 (k0 : Int))).run Try.prog w = .ok (.int .u8 (onesZ k0 8)) w := fun w => hp w _ _ (by omega) (by omega)
  have i1 : ∀ w, (Instr.index 9 (.string ({ data := ([0, 1, 1, 2, 1, 2, 2, 3, 1, 2, 2, 3, 2, 3, 3, 4, 1, 2, 2, 3, 2, 3, 3, 4, 2, 3, 3, 4, 3, 4, 4, 5, 1, 2, 2, 3, 2, 3, 3, 4, 2, 3, 3, 4, 3, 4, 4, 5, 2, 3, 3, 4, 3, 4, 4, 5, 3, 4, 4, 5, 4, 5, 5, 6, 1, 2, 2, 3, 2, 3, 3, 4, 2, 3, 3, 4, 3, 4, 4, 5, 2, 3, 3, 4, 3, 4, 4, 5, 3, 4, 4, 5, 4, 5, 5, 6, 2, 3, 3, 4, 3, 4, 4, 5, 3, 4, 4, 5, 4, 5, 5, 6, 3, 4, 4, 5, 4, 5, 5, 6, 4, 5, 5, 6, 5, 6, 6, 7, 1, 2, 2, 3, 2, 3, 3, 4, 2, 3, 3, 4, 3, 4, 4, 5, 2, 3, 3, 4, 3, 4, 4, 5, 3, 4, 4, 5, 4, 5, 5, 6, 2, 3, 3, 4, 3, 4, 4, 5, 3, 4, 4, 5, 4, 5, 5, 6, 3, 4, 4, 5, 4, 5, 5, 6, 4, 5, 5, 6, 5, 6, 6, 7, 2, 3, 3, 4, 3, 4, 4, 5, 3, 4, 4, 5, 4, 5, 5, 6, 3, 4, 4, 5, 4, 5, 5, 6, 4, 5, 5, 6, 5, 6, 6, 7, 3, 4, 4, 5, 4, 5, 5, 6, 4, 5, 5, 6, 5, 6, 6, 7, 4, 5, 5, 6, 5, 6, 6, 7, 5, 6, 6, 7, 6, 7, 7, 8] : List UInt8).toArray } : ByteArray)) (.int .u32 (k1 : Int))).run Try.prog w = .ok (.int .u8 (onesZ k1 8)) w := fun w => hp w _ _ (by omega) (by omega)
  have i2 : ∀ w, (Instr.index 9 (.string ({ data := ([0, 1, 1, 2, 1, 2, 2, 3, 1, 2, 2, 3, 2, 3, 3, 4, 1, 2, 2, 3, 2, 3, 3, 4, 2, 3, 3, 4, 3, 4, 4, 5, 1, 2, 2, 3, 2, 3, 3, 4, 2, 3, 3, 4, 3, 4, 4, 5, 2, 3, 3, 4, 3, 4, 4, 5, 3, 4, 4, 5, 4, 5, 5, 6, 1, 2, 2, 3, 2, 3, 3, 4, 2, 3, 3, 4, 3, 4, 4, 5, 2, 3, 3, 4, 3, 4, 4, 5, 3, 4, 4, 5, 4, 5, 5, 6, 2, 3, 3, 4, 3, 4, 4, 5, 3, 4, 4, 5, 4, 5, 5, 6, 3, 4, 4, 5, 4, 5, 5, 6, 4, 5, 5, 6, 5, 6, 6, 7, 1, 2, 2, 3, 2, 3, 3, 4, 2, 3, 3, 4, 3, 4, 4, 5, 2, 3, 3, 4, 3, 4, 4, 5, 3, 4, 4, 5, 4, 5, 5, 6, 2, 3, 3, 4, 3, 4, 4, 5, 3, 4, 4, 5, 4, 5, 5, 6, 3, 4, 4, 5, 4, 5, 5, 6, 4, 5, 5, 6, 5, 6, 6, 7, 2, 3, 3, 4, 3, 4, 4, 5, 3, 4, 4, 5, 4, 5, 5, 6, 3, 4, 4, 5, 4, 5, 5, 6, 4, 5, 5, 6, 5, 6, 6, 7, 3, 4, 4, 5, 4, 5, 5, 6, 4, 5, 5, 6, 5, 6, 6, 7, 4, 5, 5, 6, 5, 6, 6, 7, 5, 6, 6, 7, 6, 7, 7, 8] : List UInt8).toArray } : ByteArray)) (.int .u32 (k2 : Int))).run Try.prog w = .ok (.int .u8 (onesZ k2 8)) w := fun w => hp w _ _ (by omega) (by omega)
  have i3 : ∀ w, (Instr.index 9 (.string ({ data := ([0, 1, 1, 2, 1, 2, 2, 3, 1, 2, 2, 3, 2, 3, 3, 4, 1, 2, 2, 3, 2, 3, 3, 4, 2, 3, 3, 4, 3, 4, 4, 5, 1, 2, 2, 3, 2, 3, 3, 4, 2, 3, 3, 4, 3, 4, 4, 5, 2, 3, 3, 4, 3, 4, 4, 5, 3, 4, 4, 5, 4, 5, 5, 6, 1, 2, 2, 3, 2, 3, 3, 4, 2, 3, 3, 4, 3, 4, 4, 5, 2, 3, 3, 4, 3, 4, 4, 5, 3, 4, 4, 5, 4, 5, 5, 6, 2, 3, 3, 4, 3, 4, 4, 5, 3, 4, 4, 5, 4, 5, 5, 6, 3, 4, 4, 5, 4, 5, 5, 6, 4, 5, 5, 6, 5, 6, 6, 7, 1, 2, 2, 3, 2, 3, 3, 4, 2, 3, 3, 4, 3, 4, 4, 5, 2, 3, 3, 4, 3, 4, 4, 5, 3, 4, 4, 5, 4, 5, 5, 6, 2, 3, 3, 4, 3, 4, 4, 5, 3, 4, 4, 5, 4, 5, 5, 6, 3, 4, 4, 5, 4, 5, 5, 6, 4, 5, 5, 6, 5, 6, 6, 7, 2, 3, 3, 4, 3, 4, 4, 5, 3, 4, 4, 5, 4, 5, 5, 6, 3, 4, 4, 5, 4, 5, 5, 6, 4, 5, 5, 6, 5, 6, 6, 7, 3, 4, 4, 5, 4, 5, 5, 6, 4, 5, 5, 6, 5, 6, 6, 7, 4, 5, 5, 6, 5, 6, 6, 7, 5, 6, 6, 7, 6, 7, 7, 8] : List UInt8).toArray } : ByteArray)) (.int .u32 (k3 : Int))).run Try.prog w = .ok (.int .u8 (onesZ k3 8)) w := fun w => hp w _ _ (by omega) (by omega)
  clear hp
  go_enter Try.func64, Try.ntmps64
  go_wp2_with fail
  go_quiet (fail)
  go_wp2_with fail
  go_ret
  exact ⟨ret_int (by rw [H.out]; omega), by repeat' (first | with_reducible assumption | with_reducible exact AnyLater.refl _ | with_reducible apply AnyLater.setCell | with_reducible apply AnyLater.later | with_reducible apply AnyLater.drewN | with_reducible apply AnyLater.drew | with_reducible apply AnyLater.alloc | ((try simp only [World.size_alloc, World.size_setCell, World.size_drew]); (try dsimp only); omega))⟩
end Go.Proofs.Ytbgpjfiabefajaa
