/- shade: the program's Good, a colour's parts split and joined, Mix, Hex: by contract. -/
import Derived.Test.YthhaacekfgdoeaaShdK
import Derived.Laws.Bits64
import Derived.LoopN
import Derived.Laws.BytesArg
import Derived.BigRegion
import Derived.RegionTactic
namespace Go.Proofs.Ythhaacekfgdoeaa
set_option linter.unusedSimpArgs false
set_option linter.unusedVariables false
set_option linter.unusedSectionVars false
open Go.RowKit

set_option maxRecDepth 100000 in
theorem good_any (s : Int) (w : World) (c : Bool) (hc : goodS s = c) (hs : I64s s) : Calls Try.prog 17 #[.int .i64 s] w fun e w' => e = .returned (.bool c) ∧ AnyLater w w' := by
  obtain ⟨s1, s2⟩ := hs
  by_cases q1 : s < 0
  · obtain rfl : false = c := by rw [← hc]; exact (decide_eq_false (by omega)).symm
    clear hc
    go_enter Try.func17, Try.ntmps17
    go_wp2_with fail
    go_ret
    exact ⟨rfl, AnyLater.refl _⟩
  · by_cases q2 : s ≤ 23
    · obtain rfl : true = c := by rw [← hc]; exact (decide_eq_true ⟨by omega, by omega⟩).symm
      clear hc
      go_enter Try.func17, Try.ntmps17
      go_wp2_with fail
      go_ret
      exact ⟨rfl, AnyLater.refl _⟩
    · obtain rfl : false = c := by rw [← hc]; exact (decide_eq_false (by omega)).symm
      clear hc
      go_enter Try.func17, Try.ntmps17
      go_wp2_with fail
      go_ret
      exact ⟨rfl, AnyLater.refl _⟩
set_option maxRecDepth 100000 in
set_option maxHeartbeats 1600000 in
theorem split_any (c : Int) (w : World) (hc : U32s c) : Calls Try.prog 15 #[.int .u32 c] w fun e w' => e = .returned (.agg #[.int .u32 (c / 65536 % 256), .int .u32 (c / 256 % 256), .int .u32 (c % 256)]) ∧ AnyLater w w' := by
  obtain ⟨c1, c2⟩ := hc
  rw [show c / 65536 = c / 256 / 256 by omega]
  go_enter Try.func15, Try.ntmps15
  go_wp2_with fail
  refine wp_loop_rounds 4 ?_
  rw [rounds_succ]
  go_wp2_with fail
  rw [rounds_succ]
  go_wp2_with fail
  rw [rounds_succ]
  go_wp2_with fail
  rw [rounds_succ]
  go_wp2_with fail
  refine bodyPost_ret (v := .agg #[.int .u32 (c / 256 / 256 % 256), .int .u32 (c / 256 % 256), .int .u32 (c % 256)]) (by simp [results, Try.results15, go_sem, *]) rfl ?_
  exact ⟨rfl, by repeat' (first | with_reducible assumption | with_reducible exact AnyLater.refl _ | with_reducible apply AnyLater.setCell | with_reducible apply AnyLater.later | with_reducible apply AnyLater.drewN | with_reducible apply AnyLater.drew | with_reducible apply AnyLater.alloc | ((try simp only [World.size_alloc, World.size_setCell, World.size_drew]); (try dsimp only); omega))⟩
theorem or_join {q p : Int} (hq : 0 ≤ q) (hq2 : q < 65536) (hp : 0 ≤ p) (hp2 : p < 256) : bits .or .u32 (q * 256) p = q * 256 + p := by
  obtain ⟨n, rfl⟩ := Int.eq_ofNat_of_zero_le hq
  obtain ⟨m, rfl⟩ := Int.eq_ofNat_of_zero_le hp
  rw [show ((n : Int) * 256) = ((n * 256 : Nat) : Int) by omega, u32_or_nat (n * 256) m (by omega) (by omega), nat_join 8 (n * 256) m (by omega) (by omega)]
  omega
theorem or_digit {q p : Int} (hq : 0 ≤ q) (hq2 : q < 1048576) (hp : 0 ≤ p) (hp2 : p < 16) : bits .or .u32 (q * 16) p = q * 16 + p := by
  obtain ⟨n, rfl⟩ := Int.eq_ofNat_of_zero_le hq
  obtain ⟨m, rfl⟩ := Int.eq_ofNat_of_zero_le hp
  rw [show ((n : Int) * 16) = ((n * 16 : Nat) : Int) by omega, u32_or_nat (n * 16) m (by omega) (by omega), nat_join 4 (n * 16) m (by omega) (by omega)]
  omega
set_option maxRecDepth 100000 in
set_option maxHeartbeats 1600000 in
theorem join_any (a b c : Int) (w : World) (ha : 0 ≤ a ∧ a ≤ 255) (hb : 0 ≤ b ∧ b ≤ 255) (hc : 0 ≤ c ∧ c ≤ 255) : Calls Try.prog 16 #[.agg #[.int .u32 a, .int .u32 b, .int .u32 c]] w fun e w' => e = .returned (.int .u32 (a * 65536 + b * 256 + c)) ∧ AnyLater w w' := by
  obtain ⟨a1, a2⟩ := ha
  obtain ⟨b1, b2⟩ := hb
  obtain ⟨c1, c2⟩ := hc
  have h1 : bits .or .u32 0 a = a := by simpa using or_join (q := 0) (p := a) (by decide) (by decide) (by omega) (by omega)
  have h2 := or_join (q := a) (p := b) (by omega) (by omega) (by omega) (by omega)
  have h3 := or_join (q := a * 256 + b) (p := c) (by omega) (by omega) (by omega) (by omega)
  have HE : Hid ((a * 256 + b) * 256 + c = a * 65536 + b * 256 + c) := Lib.hid (by omega)
  go_enter Try.func16, Try.ntmps16
  go_wp2_with fail
  refine wp_loop_rounds 4 ?_
  rw [rounds_succ]
  go_wp2_with fail
  rw [rounds_succ]
  go_wp2_with fail
  rw [rounds_succ]
  go_wp2_with fail
  rw [rounds_succ]
  go_wp2_with fail
  go_ret
  exact ⟨ret_int HE.out, by repeat' (first | with_reducible assumption | with_reducible exact AnyLater.refl _ | with_reducible apply AnyLater.setCell | with_reducible apply AnyLater.later | with_reducible apply AnyLater.drewN | with_reducible apply AnyLater.drew | with_reducible apply AnyLater.alloc | ((try simp only [World.size_alloc, World.size_setCell, World.size_drew]); (try dsimp only); omega))⟩
set_option maxRecDepth 100000 in
set_option maxHeartbeats 3200000 in
theorem mix_any (a b : Int) (w : World) (n : Int) (hn : mixZ a b = n) (ha : U32s a) (hb : U32s b) : Calls Try.prog 7 #[.int .u32 a, .int .u32 b] w fun e w' => e = .returned (.int .u32 n) ∧ AnyLater w w' := by
  have S1 := Lib.hid (fun w => split_any a w ha)
  have S2 := Lib.hid (fun w => split_any b w hb)
  have a1 : 0 ≤ a / 65536 % 256 ∧ a / 65536 % 256 ≤ 255 := by omega
  have a2 : 0 ≤ a / 256 % 256 ∧ a / 256 % 256 ≤ 255 := by omega
  have a3 : 0 ≤ a % 256 ∧ a % 256 ≤ 255 := by omega
  have b1 : 0 ≤ b / 65536 % 256 ∧ b / 65536 % 256 ≤ 255 := by omega
  have b2 : 0 ≤ b / 256 % 256 ∧ b / 256 % 256 ≤ 255 := by omega
  have b3 : 0 ≤ b % 256 ∧ b % 256 ≤ 255 := by omega
  unfold mixZ at hn
  generalize a / 65536 % 256 = p0 at *
  generalize a / 256 % 256 = p1 at *
  generalize a % 256 = p2 at *
  generalize b / 65536 % 256 = q0 at *
  generalize b / 256 % 256 = q1 at *
  generalize b % 256 = q2 at *
  have J := Lib.hid (fun w => join_any ((p0 + q0) / 2) ((p1 + q1) / 2) ((p2 + q2) / 2) w ⟨by omega, by omega⟩ ⟨by omega, by omega⟩ ⟨by omega, by omega⟩)
  rw [hn] at J
  obtain ⟨u1, u2⟩ := a1
  obtain ⟨u3, u4⟩ := a2
  obtain ⟨u5, u6⟩ := a3
  obtain ⟨v1, v2⟩ := b1
  obtain ⟨v3, v4⟩ := b2
  obtain ⟨v5, v6⟩ := b3
  clear hn ha hb
  go_enter Try.func7, Try.ntmps7
  go_wp2_with fail
  refine (S1.out _).mono ?_
  rintro e w1 ⟨rfl, c1⟩
  have H1 := Lib.hid c1
  clear c1
  go_wp2_with fail
  refine (S2.out _).mono ?_
  rintro e w2 ⟨rfl, c2⟩
  have H2 := Lib.hid (H1.out.trans c2)
  clear c2
  go_wp2_with fail
  refine wp_loop_rounds 4 ?_
  rw [rounds_succ]
  go_wp2_with fail
  go_region
  go_wp2_with fail
  rw [rounds_succ]
  go_wp2_with fail
  go_region
  go_wp2_with fail
  rw [rounds_succ]
  go_wp2_with fail
  go_region
  go_wp2_with fail
  rw [rounds_succ]
  go_wp2_with fail
  refine (J.out _).mono ?_
  rintro e w3 ⟨rfl, c3⟩
  have H3 : AnyLater w w3 := by
    have h2 := H2.out
    have z2 := h2.below.size
    refine AnyLater.trans ?_ c3
    repeat' (first | with_reducible assumption | with_reducible exact AnyLater.refl _ | with_reducible apply AnyLater.setCell | with_reducible apply AnyLater.later | with_reducible apply AnyLater.drewN | with_reducible apply AnyLater.drew | with_reducible apply AnyLater.alloc | ((try simp only [World.size_alloc, World.size_setCell, World.size_drew]); (try dsimp only); omega))
  have H3 := Lib.hid H3
  clear c3
  go_wp2_with fail
  go_ret
  exact ⟨rfl, H3.out⟩
set_option maxRecDepth 100000 in
theorem fig_get : ∀ j : Fin 16, ((([48, 49, 50, 51, 52, 53, 54, 55, 56, 57, 97, 98, 99, 100, 101, 102] : List UInt8)[j.1]'j.2).toNat : Int) = ((hd (j.1 : Int)).toNat : Int) := by decide
theorem run_fig (w : World) (k : IntKind) (x : Int) (h0 : 0 ≤ x) (h1 : x < 16) : (Instr.index 9 (.string ({ data := #[48, 49, 50, 51, 52, 53, 54, 55, 56, 57, 97, 98, 99, 100, 101, 102] } : ByteArray)) (.int k x)).run Try.prog w = .ok (.int .u8 ((hd x).toNat : Int)) w := by
  obtain ⟨n, rfl⟩ := Int.eq_ofNat_of_zero_le h0
  have hn : n < 16 := by omega
  have h := run_at [48, 49, 50, 51, 52, 53, 54, 55, 56, 57, 97, 98, 99, 100, 101, 102] w k n hn
  have e := fig_get ⟨n, hn⟩
  exact h.trans (by rw [e])
theorem strN_six (a b c d e f : UInt8) : strOfNums [(a.toNat : Int), (b.toNat : Int), (c.toNat : Int), (d.toNat : Int), (e.toNat : Int), (f.toNat : Int)] = mkS [a, b, c, d, e, f] := by
  apply ByteArray.ext
  apply Array.ext'
  rw [strOfNums_data]
  simp [mkS]
set_option maxRecDepth 100000 in
set_option maxHeartbeats 3200000 in
theorem hex_any (c : Int) (w : World) (hc : U32s c) : Calls Try.prog 11 #[.int .u32 c] w fun e w' => e = .returned (.string (mkS (hexL c))) ∧ AnyLater w w' := by
  obtain ⟨c1, c2⟩ := hc
  have he := hexL_eq c
  obtain ⟨z1, k1⟩ : ∃ z, c / 16 = z := ⟨_, rfl⟩
  obtain ⟨z2, k2⟩ : ∃ z, z1 / 16 = z := ⟨_, rfl⟩
  obtain ⟨z3, k3⟩ : ∃ z, z2 / 16 = z := ⟨_, rfl⟩
  obtain ⟨z4, k4⟩ : ∃ z, z3 / 16 = z := ⟨_, rfl⟩
  obtain ⟨z5, k5⟩ : ∃ z, z4 / 16 = z := ⟨_, rfl⟩
  rw [show c / 1048576 = z5 by omega, show c / 65536 = z4 by omega, show c / 4096 = z3 by omega, show c / 256 = z2 by omega, k1] at he
  have b1 : 0 ≤ z1 ∧ z1 ≤ 4294967295 := by omega
  have b2 : 0 ≤ z2 ∧ z2 ≤ 4294967295 := by omega
  have b3 : 0 ≤ z3 ∧ z3 ≤ 4294967295 := by omega
  have b4 : 0 ≤ z4 ∧ z4 ≤ 4294967295 := by omega
  have b5 : 0 ≤ z5 ∧ z5 ≤ 4294967295 := by omega
  obtain ⟨d0, y0⟩ : ∃ z, hd (c % 16) = z := ⟨_, rfl⟩
  obtain ⟨d1, y1⟩ : ∃ z, hd (z1 % 16) = z := ⟨_, rfl⟩
  obtain ⟨d2, y2⟩ : ∃ z, hd (z2 % 16) = z := ⟨_, rfl⟩
  obtain ⟨d3, y3⟩ : ∃ z, hd (z3 % 16) = z := ⟨_, rfl⟩
  obtain ⟨d4, y4⟩ : ∃ z, hd (z4 % 16) = z := ⟨_, rfl⟩
  obtain ⟨d5, y5⟩ : ∃ z, hd (z5 % 16) = z := ⟨_, rfl⟩
  rw [y0, y1, y2, y3, y4, y5] at he
  have F0 := fun w => run_fig w .u32 (c % 16) (by omega) (by omega)
  have F1 := fun w => run_fig w .u32 (z1 % 16) (by omega) (by omega)
  have F2 := fun w => run_fig w .u32 (z2 % 16) (by omega) (by omega)
  have F3 := fun w => run_fig w .u32 (z3 % 16) (by omega) (by omega)
  have F4 := fun w => run_fig w .u32 (z4 % 16) (by omega) (by omega)
  have F5 := fun w => run_fig w .u32 (z5 % 16) (by omega) (by omega)
  rw [y0] at F0
  rw [y1] at F1
  rw [y2] at F2
  rw [y3] at F3
  rw [y4] at F4
  rw [y5] at F5
  have FC : ∀ (X : Obj), X = .cells #[.int .u8 (d5.toNat : Int), .int .u8 (d4.toNat : Int), .int .u8 (d3.toNat : Int), .int .u8 (d2.toNat : Int), .int .u8 (d1.toNat : Int), .int .u8 (d0.toNat : Int)] 36 → (convert 38 9 (.slice (some ⟨w.heap.size, 0, none⟩) 6 6)).run Try.prog (w.alloc X) = .ok (.string (mkS (hexL c))) (w.alloc X) := by
    rintro X rfl
    rw [he, ← strN_six]
    refine run_convert_bytes_arg _ 38 5 Try.underlying38 Try.underlying5 _ 0 6 6 _ rfl (fun i hi => ?_) 9 Try.underlying9
    rw [own_row (heap_new rfl)]
    have : i = 0 ∨ i = 1 ∨ i = 2 ∨ i = 3 ∨ i = 4 ∨ i = 5 := by omega
    rcases this with rfl | rfl | rfl | rfl | rfl | rfl <;> rfl
  have FC := FC _ rfl
  have HE := Lib.hid he
  clear he y0 y1 y2 y3 y4 y5
  obtain ⟨b1, b1'⟩ := b1
  obtain ⟨b2, b2'⟩ := b2
  obtain ⟨b3, b3'⟩ := b3
  obtain ⟨b4, b4'⟩ := b4
  obtain ⟨b5, b5'⟩ := b5
  go_enter Try.func11, Try.ntmps11
  go_wp2_with fail
  refine wp_loop_rounds 7 ?_
  rw [rounds_succ]
  go_wp2_with fail
  rw [rounds_succ]
  go_wp2_with fail
  rw [rounds_succ]
  go_wp2_with fail
  rw [rounds_succ]
  go_wp2_with fail
  rw [rounds_succ]
  go_wp2_with fail
  rw [rounds_succ]
  go_wp2_with fail
  rw [rounds_succ]
  go_wp2_with fail
  go_ret
  exact ⟨rfl, by repeat' (first | with_reducible assumption | with_reducible exact AnyLater.refl _ | with_reducible apply AnyLater.setCell | with_reducible apply AnyLater.later | with_reducible apply AnyLater.drewN | with_reducible apply AnyLater.drew | with_reducible apply AnyLater.alloc | ((try simp only [World.size_alloc, World.size_setCell, World.size_drew]); (try dsimp only); omega))⟩
theorem slow : SLow :=
  ⟨fun s c hc hs => good_any s _ c hc hs, fun a b n hn ha hb => mix_any a b _ n hn ha hb, fun c hc => hex_any c _ hc⟩
end Go.Proofs.Ythhaacekfgdoeaa
