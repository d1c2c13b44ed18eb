/- utf: the program's Encode, by contract. -/
import Derived.Test.YtibdaielglpcmaaDoorUtfF
namespace Go.Proofs.YtibdaielglpcmaaDoor
set_option linter.unusedSimpArgs false
set_option linter.unusedVariables false
set_option linter.unusedSectionVars false
open Go.RowKit

theorem made_row (n : Nat) (cs : Array Value) (h : madeCells #[Value.int .u8 0] n = cs) (hn : n ≤ 1000) (w : World) : (Instr.makeSlice 22 (.int .i64 (n : Int)) (.int .i64 (n : Int))).run Tryd.prog w = .ok (.slice (some ⟨w.heap.size, 0, none⟩) n n) (w.alloc (.cells cs 5)) := by
  rw [← h]
  exact run_make_row' (P := Tryd.prog) 22 5 (.int .u8 0) 1 Tryd.underlying22 info_u8 rfl .i64 .i64 n (by omega) (by omega) w
theorem or_get : ∀ j : Fin 128, bits .or .u8 0 (j.1 : Int) = (j.1 : Int) := by decide +kernel
theorem or_zero {a : Int} (h1 : 0 ≤ a) (h2 : a ≤ 127) : bits .or .u8 0 a = a := by
  have h := or_get ⟨a.toNat, by omega⟩
  have e : ((a.toNat : Nat) : Int) = a := by omega
  simpa only [e] using h
set_option maxRecDepth 100000 in
set_option maxHeartbeats 3200000 in
theorem enc_four (r : Int) (w : World) (hr : 65536 ≤ r ∧ r ≤ 1114111) (hg : GlobU w) :
    Calls Tryd.prog 12 #[.int .i32 r] w fun e w' => ∃ u, e = .returned u ∧ AnyLater w w' ∧ ON .u8 5 w' w.heap.size u (encU r) := by
  obtain ⟨h1, h2⟩ := hr
  have HE : Hid (encU r = [240 + r / 64 / 64 / 64, 128 + r / 64 / 64 % 64, 128 + r / 64 % 64, 128 + r % 64]) := Lib.hid (by rw [encU_good (by omega)]; unfold encN; rw [if_neg (by omega), if_neg (by omega), if_neg (by omega), show r / 262144 = r / 64 / 64 / 64 by omega, show r / 4096 = r / 64 / 64 by omega])
  have hs : sizeZ r = 4 := by have := sizeZ_len (r := r) (decide_eq_true (by omega)); rw [this, ← encU_good (by omega), HE.out]; rfl
  have hm0 : (Instr.makeSlice 22 (.int .i64 4) (.int .i64 4)).run Tryd.prog w = .ok (.slice (some ⟨w.heap.size, 0, none⟩) 4 4) (w.alloc (.cells #[.int .u8 0, .int .u8 0, .int .u8 0, .int .u8 0] 5)) := made_row 4 _ (by kernel_rfl) (by decide) w
  have g1 := hg.c4
  have hp := World.block_lt_of_cell? _ _ g1
  clear hg
  have o1 : bits .or .u8 240 (r / 64 / 64 / 64) = 240 + r / 64 / 64 / 64 := u8_or240 _ (by omega) (by omega)
  go_enter Tryd.func12, Tryd.ntmps12
  go_wp2_with (first | (go_at_call 23; refine (size_any _ _ _ (by assumption) ⟨by omega, by omega⟩).mono ?_; rintro e w' ⟨rfl, rfl⟩) | (go_at_call 24; refine (cut_any _ _ ⟨by omega, by omega⟩).mono ?_; rintro e w' ⟨rfl, rfl⟩))
  go_ret
  refine ⟨_, rfl, by repeat' (first | with_reducible assumption | with_reducible exact AnyLater.refl _ | with_reducible apply AnyLater.setCell | with_reducible apply AnyLater.later | with_reducible apply AnyLater.drewN | with_reducible apply AnyLater.drew | with_reducible apply AnyLater.alloc | ((try simp only [World.size_alloc, World.size_setCell, World.size_drew]); (try dsimp only); omega)), ?_⟩
  rw [HE.out]
  exact ON.made 4 rfl (Nat.le_refl _) (heap_new rfl) rfl (by decide)
set_option maxRecDepth 100000 in
set_option maxHeartbeats 3200000 in
theorem enc_three (r : Int) (w : World) (hr : 2048 ≤ r ∧ r < 65536) (hs : ¬ (55296 ≤ r ∧ r ≤ 57343)) (hg : GlobU w) :
    Calls Tryd.prog 12 #[.int .i32 r] w fun e w' => ∃ u, e = .returned u ∧ AnyLater w w' ∧ ON .u8 5 w' w.heap.size u (encU r) := by
  obtain ⟨h1, h2⟩ := hr
  have HE : Hid (encU r = [224 + r / 64 / 64, 128 + r / 64 % 64, 128 + r % 64]) := Lib.hid (by rw [encU_good (by omega)]; unfold encN; rw [if_neg (by omega), if_neg (by omega), if_pos (by omega), show r / 4096 = r / 64 / 64 by omega])
  have hs : sizeZ r = 3 := by have := sizeZ_len (r := r) (decide_eq_true (by omega)); rw [this, ← encU_good (by omega), HE.out]; rfl
  have hm0 : (Instr.makeSlice 22 (.int .i64 3) (.int .i64 3)).run Tryd.prog w = .ok (.slice (some ⟨w.heap.size, 0, none⟩) 3 3) (w.alloc (.cells #[.int .u8 0, .int .u8 0, .int .u8 0] 5)) := made_row 3 _ (by kernel_rfl) (by decide) w
  have g1 := hg.c3
  have hp := World.block_lt_of_cell? _ _ g1
  clear hg
  have o1 : bits .or .u8 224 (r / 64 / 64) = 224 + r / 64 / 64 := u8_or224 _ (by omega) (by omega)
  go_enter Tryd.func12, Tryd.ntmps12
  go_wp2_with (first | (go_at_call 23; refine (size_any _ _ _ (by assumption) ⟨by omega, by omega⟩).mono ?_; rintro e w' ⟨rfl, rfl⟩) | (go_at_call 24; refine (cut_any _ _ ⟨by omega, by omega⟩).mono ?_; rintro e w' ⟨rfl, rfl⟩))
  go_ret
  refine ⟨_, rfl, by repeat' (first | with_reducible assumption | with_reducible exact AnyLater.refl _ | with_reducible apply AnyLater.setCell | with_reducible apply AnyLater.later | with_reducible apply AnyLater.drewN | with_reducible apply AnyLater.drew | with_reducible apply AnyLater.alloc | ((try simp only [World.size_alloc, World.size_setCell, World.size_drew]); (try dsimp only); omega)), ?_⟩
  rw [HE.out]
  exact ON.made 3 rfl (Nat.le_refl _) (heap_new rfl) rfl (by decide)
set_option maxRecDepth 100000 in
set_option maxHeartbeats 3200000 in
theorem enc_two (r : Int) (w : World) (hr : 128 ≤ r ∧ r < 2048) (hg : GlobU w) :
    Calls Tryd.prog 12 #[.int .i32 r] w fun e w' => ∃ u, e = .returned u ∧ AnyLater w w' ∧ ON .u8 5 w' w.heap.size u (encU r) := by
  obtain ⟨h1, h2⟩ := hr
  have HE : Hid (encU r = [192 + r / 64, 128 + r % 64]) := Lib.hid (by rw [encU_good (by omega)]; unfold encN; rw [if_neg (by omega), if_pos (by omega)])
  have hs : sizeZ r = 2 := by have := sizeZ_len (r := r) (decide_eq_true (by omega)); rw [this, ← encU_good (by omega), HE.out]; rfl
  have hm0 : (Instr.makeSlice 22 (.int .i64 2) (.int .i64 2)).run Tryd.prog w = .ok (.slice (some ⟨w.heap.size, 0, none⟩) 2 2) (w.alloc (.cells #[.int .u8 0, .int .u8 0] 5)) := made_row 2 _ (by kernel_rfl) (by decide) w
  have g1 := hg.c2
  have hp := World.block_lt_of_cell? _ _ g1
  clear hg
  have o1 : bits .or .u8 192 (r / 64) = 192 + r / 64 := u8_or192 _ (by omega) (by omega)
  go_enter Tryd.func12, Tryd.ntmps12
  go_wp2_with (first | (go_at_call 23; refine (size_any _ _ _ (by assumption) ⟨by omega, by omega⟩).mono ?_; rintro e w' ⟨rfl, rfl⟩) | (go_at_call 24; refine (cut_any _ _ ⟨by omega, by omega⟩).mono ?_; rintro e w' ⟨rfl, rfl⟩))
  go_ret
  refine ⟨_, rfl, by repeat' (first | with_reducible assumption | with_reducible exact AnyLater.refl _ | with_reducible apply AnyLater.setCell | with_reducible apply AnyLater.later | with_reducible apply AnyLater.drewN | with_reducible apply AnyLater.drew | with_reducible apply AnyLater.alloc | ((try simp only [World.size_alloc, World.size_setCell, World.size_drew]); (try dsimp only); omega)), ?_⟩
  rw [HE.out]
  exact ON.made 2 rfl (Nat.le_refl _) (heap_new rfl) rfl (by decide)
set_option maxRecDepth 100000 in
set_option maxHeartbeats 3200000 in
theorem enc_one (r : Int) (w : World) (hr : 0 ≤ r ∧ r < 128) (hg : GlobU w) :
    Calls Tryd.prog 12 #[.int .i32 r] w fun e w' => ∃ u, e = .returned u ∧ AnyLater w w' ∧ ON .u8 5 w' w.heap.size u (encU r) := by
  obtain ⟨h1, h2⟩ := hr
  have HE : Hid (encU r = [r]) := Lib.hid (by rw [encU_good (by omega)]; unfold encN; rw [if_pos (by omega)])
  have hs : sizeZ r = 1 := by have := sizeZ_len (r := r) (decide_eq_true (by omega)); rw [this, ← encU_good (by omega), HE.out]; rfl
  have hm0 : (Instr.makeSlice 22 (.int .i64 1) (.int .i64 1)).run Tryd.prog w = .ok (.slice (some ⟨w.heap.size, 0, none⟩) 1 1) (w.alloc (.cells #[.int .u8 0] 5)) := made_row 1 _ (by kernel_rfl) (by decide) w
  have g1 := hg.c1
  have hp := World.block_lt_of_cell? _ _ g1
  clear hg
  have o1 : bits .or .u8 0 r = r := or_zero h1 (by omega)
  go_enter Tryd.func12, Tryd.ntmps12
  go_wp2_with (first | (go_at_call 23; refine (size_any _ _ _ (by assumption) ⟨by omega, by omega⟩).mono ?_; rintro e w' ⟨rfl, rfl⟩) | (go_at_call 24; refine (cut_any _ _ ⟨by omega, by omega⟩).mono ?_; rintro e w' ⟨rfl, rfl⟩))
  go_ret
  refine ⟨_, rfl, by repeat' (first | with_reducible assumption | with_reducible exact AnyLater.refl _ | with_reducible apply AnyLater.setCell | with_reducible apply AnyLater.later | with_reducible apply AnyLater.drewN | with_reducible apply AnyLater.drew | with_reducible apply AnyLater.alloc | ((try simp only [World.size_alloc, World.size_setCell, World.size_drew]); (try dsimp only); omega)), ?_⟩
  rw [HE.out]
  exact ON.made 1 rfl (Nat.le_refl _) (heap_new rfl) rfl (by decide)
set_option maxRecDepth 100000 in
set_option maxHeartbeats 3200000 in
theorem enc_none (r : Int) (w : World) (hr : -2147483648 ≤ r ∧ r ≤ 2147483647) (hb : goodR r = false) (hg : GlobU w) :
    Calls Tryd.prog 12 #[.int .i32 r] w fun e w' => ∃ u, e = .returned u ∧ AnyLater w w' ∧ ON .u8 5 w' w.heap.size u (encU r) := by
  obtain ⟨h1, h2⟩ := hr
  have HE : Hid (encU r = [239, 191, 189]) := Lib.hid (encU_bad hb)
  have hs : sizeZ 65533 = 3 := by decide
  have hs0 : sizeZ r = 0 := sizeZ_none hb
  clear hb
  have hm0 : (Instr.makeSlice 22 (.int .i64 3) (.int .i64 3)).run Tryd.prog w = .ok (.slice (some ⟨w.heap.size, 0, none⟩) 3 3) (w.alloc (.cells #[.int .u8 0, .int .u8 0, .int .u8 0] 5)) := made_row 3 _ (by kernel_rfl) (by decide) w
  have g1 := hg.c3
  have hp := World.block_lt_of_cell? _ _ g1
  clear hg
  have o1 : bits .or .u8 224 15 = 239 := by decide
  go_enter Tryd.func12, Tryd.ntmps12
  go_wp2_with (first | (go_at_call 23; refine (size_any _ _ _ (by assumption) ⟨by omega, by omega⟩).mono ?_; rintro e w' ⟨rfl, rfl⟩) | (go_at_call 24; refine (cut_any _ _ ⟨by omega, by omega⟩).mono ?_; rintro e w' ⟨rfl, rfl⟩))
  go_ret
  refine ⟨_, rfl, by repeat' (first | with_reducible assumption | with_reducible exact AnyLater.refl _ | with_reducible apply AnyLater.setCell | with_reducible apply AnyLater.later | with_reducible apply AnyLater.drewN | with_reducible apply AnyLater.drew | with_reducible apply AnyLater.alloc | ((try simp only [World.size_alloc, World.size_setCell, World.size_drew]); (try dsimp only); omega)), ?_⟩
  rw [HE.out]
  exact ON.made 3 rfl (Nat.le_refl _) (heap_new rfl) rfl (by decide)
theorem enc_any (r : Int) (w : World) (hr : -2147483648 ≤ r ∧ r ≤ 2147483647) (hg : GlobU w) :
    Calls Tryd.prog 12 #[.int .i32 r] w fun e w' => ∃ u, e = .returned u ∧ AnyLater w w' ∧ ON .u8 5 w' w.heap.size u (encU r) := by
  rcases hb : goodR r
  · exact enc_none r w hr hb hg
  · obtain ⟨h1, h2, h3⟩ := goodR_in hb
    by_cases q1 : r < 128
    · exact enc_one r w ⟨h1, q1⟩ hg
    by_cases q2 : r < 2048
    · exact enc_two r w ⟨by omega, q2⟩ hg
    by_cases q3 : r < 65536
    · exact enc_three r w ⟨by omega, q3⟩ h3 hg
    · exact enc_four r w ⟨by omega, h2⟩ hg
end Go.Proofs.YtibdaielglpcmaaDoor
