/- utf: the program's Decode, by contract. -/
import Derived.Test.YtimplngemjdodaaDoorUtfE
namespace Go.Proofs.YtimplngemjdodaaDoor
set_option linter.unusedSimpArgs false
set_option linter.unusedVariables false
set_option linter.unusedSectionVars false
open Go.RowKit

/-- what the program's table of first bytes holds -/
structure GlobU (w : World) : Prop where
  c1 : w.cell? ⟨0, 1, none⟩ = some (.int .u8 0)
  c2 : w.cell? ⟨0, 2, none⟩ = some (.int .u8 192)
  c3 : w.cell? ⟨0, 3, none⟩ = some (.int .u8 224)
  c4 : w.cell? ⟨0, 4, none⟩ = some (.int .u8 240)
theorem GlobU.later {w w' : World} (h : AnyLater w w') (g : GlobU w) : GlobU w' :=
  ⟨(h.below.cell (World.block_lt_of_cell? _ _ g.c1)).trans g.c1, (h.below.cell (World.block_lt_of_cell? _ _ g.c2)).trans g.c2, (h.below.cell (World.block_lt_of_cell? _ _ g.c3)).trans g.c3, (h.below.cell (World.block_lt_of_cell? _ _ g.c4)).trans g.c4⟩
theorem joinZ_eq (r x : Int) : joinZ r x = if r < 0 ∨ ¬ (128 ≤ x ∧ x ≤ 191) then -1 else r * 64 + (x - 128) := by
  unfold joinZ tl
  simp only [decide_eq_false_iff_not]
theorem joinZ_le {r x m : Int} (hm : 0 ≤ m) (hr : r ≤ m) : -1 ≤ joinZ r x ∧ joinZ r x ≤ m * 64 + 63 := by
  rw [joinZ_eq]
  split <;> omega
theorem dec4_bad {n : Nat} {a b c d : Int} (h0 : n ≠ 0) (h1 : ¬ a < 128) (h2 : ¬ (2 ≤ n ∧ 194 ≤ a ∧ a ≤ 223 ∧ 128 ≤ b ∧ b ≤ 191)) (h3 : ¬ (3 ≤ n ∧ 224 ≤ a ∧ a ≤ 239 ∧ 128 ≤ b ∧ b ≤ 191 ∧ 128 ≤ c ∧ c ≤ 191 ∧ 2048 ≤ v3 a b c ∧ ¬ (55296 ≤ v3 a b c ∧ v3 a b c ≤ 57343)))
    (h4 : ¬ (4 ≤ n ∧ 240 ≤ a ∧ a ≤ 247 ∧ 128 ≤ b ∧ b ≤ 191 ∧ 128 ≤ c ∧ c ≤ 191 ∧ 128 ≤ d ∧ d ≤ 191 ∧ 65536 ≤ v4 a b c d ∧ v4 a b c d ≤ 1114111)) : dec4 n a b c d = (65533, 1) := by
  unfold dec4
  rw [if_neg h0, if_neg h1, if_neg h2, if_neg h3, if_neg h4]
theorem told_cases (a : Int) : (a < 128 ∧ toldZ a = 1) ∨ (128 ≤ a ∧ a < 192 ∧ toldZ a = 0) ∨ (192 ≤ a ∧ a < 224 ∧ toldZ a = 2) ∨ (224 ≤ a ∧ a < 240 ∧ toldZ a = 3) ∨ (240 ≤ a ∧ a < 248 ∧ toldZ a = 4) ∨ (248 ≤ a ∧ toldZ a = 0) := by
  unfold toldZ
  repeat' (first | omega | split)
theorem told_bad {n : Nat} {a b c d : Int} (h0 : n ≠ 0) (h : toldZ a = 0 ∨ (n : Int) < toldZ a) : dec4 n a b c d = (65533, 1) := by
  have := told_cases a
  exact dec4_bad h0 (by omega) (by omega) (by omega) (by omega)
theorem told_two {n : Nat} {a b c d : Int} (h1 : 192 ≤ a) (h2 : a < 224) (hn : 2 ≤ n) : (sizeZ (joinZ (a - 192) b) = 2 ∧ dec4 n a b c d = (joinZ (a - 192) b, 2)) ∨ (sizeZ (joinZ (a - 192) b) ≠ 2 ∧ dec4 n a b c d = (65533, 1)) := by
  rw [joinZ_eq]
  by_cases q : 128 ≤ b ∧ b ≤ 191
  · rw [if_neg (by omega)]
    by_cases q2 : 194 ≤ a
    · left
      refine ⟨by unfold sizeZ; rw [if_neg (by omega), if_neg (by omega), if_pos (by omega)], ?_⟩
      unfold dec4
      rw [if_neg (by omega), if_neg (by omega), if_pos (by omega)]
      rfl
    · right
      refine ⟨by unfold sizeZ; rw [if_neg (by omega), if_pos (by omega)]; decide, dec4_bad (by omega) (by omega) (by omega) (by omega) (by omega)⟩
  · rw [if_pos (.inr q)]
    right
    exact ⟨by decide, dec4_bad (by omega) (by omega) (by omega) (by omega) (by omega)⟩
theorem told_three {n : Nat} {a b c d : Int} (h1 : 224 ≤ a) (h2 : a < 240) (hn : 3 ≤ n) : (sizeZ (joinZ (joinZ (a - 224) b) c) = 3 ∧ dec4 n a b c d = (joinZ (joinZ (a - 224) b) c, 3)) ∨ (sizeZ (joinZ (joinZ (a - 224) b) c) ≠ 3 ∧ dec4 n a b c d = (65533, 1)) := by
  rw [joinZ_eq (a - 224) b]
  by_cases q : 128 ≤ b ∧ b ≤ 191
  · rw [if_neg (by omega), joinZ_eq]
    by_cases qc : 128 ≤ c ∧ c ≤ 191
    · rw [if_neg (by omega)]
      have e : ((a - 224) * 64 + (b - 128)) * 64 + (c - 128) = v3 a b c := by unfold v3; omega
      rw [e]
      have hv : v3 a b c ≤ 65535 := by unfold v3; omega
      have hv0 : 0 ≤ v3 a b c := by unfold v3; omega
      by_cases q2 : 2048 ≤ v3 a b c ∧ ¬ (55296 ≤ v3 a b c ∧ v3 a b c ≤ 57343)
      · left
        refine ⟨by unfold sizeZ; rw [if_neg (by omega), if_neg (by omega), if_neg (by omega), if_pos (by omega)], ?_⟩
        unfold dec4
        rw [if_neg (by omega), if_neg (by omega), if_neg (by omega), if_pos (by omega)]
      · right
        refine ⟨?_, dec4_bad (by omega) (by omega) (by omega) (by omega) (by omega)⟩
        unfold sizeZ
        repeat' (first | omega | split)
    · rw [if_pos (.inr qc)]
      right
      exact ⟨by decide, dec4_bad (by omega) (by omega) (by omega) (by omega) (by omega)⟩
  · rw [if_pos (.inr q), joinZ_eq, if_pos (.inl (by decide))]
    right
    exact ⟨by decide, dec4_bad (by omega) (by omega) (by omega) (by omega) (by omega)⟩
theorem told_four {n : Nat} {a b c d : Int} (h1 : 240 ≤ a) (h2 : a < 248) (hn : 4 ≤ n) : (sizeZ (joinZ (joinZ (joinZ (a - 240) b) c) d) = 4 ∧ dec4 n a b c d = (joinZ (joinZ (joinZ (a - 240) b) c) d, 4)) ∨ (sizeZ (joinZ (joinZ (joinZ (a - 240) b) c) d) ≠ 4 ∧ dec4 n a b c d = (65533, 1)) := by
  rw [joinZ_eq (a - 240) b]
  by_cases q : 128 ≤ b ∧ b ≤ 191
  · rw [if_neg (by omega), joinZ_eq _ c]
    by_cases qc : 128 ≤ c ∧ c ≤ 191
    · rw [if_neg (by omega), joinZ_eq]
      by_cases qd : 128 ≤ d ∧ d ≤ 191
      · rw [if_neg (by omega)]
        have e : (((a - 240) * 64 + (b - 128)) * 64 + (c - 128)) * 64 + (d - 128) = v4 a b c d := by unfold v4; omega
        rw [e]
        have hv0 : 0 ≤ v4 a b c d := by unfold v4; omega
        by_cases q2 : 65536 ≤ v4 a b c d ∧ v4 a b c d ≤ 1114111
        · left
          refine ⟨by unfold sizeZ; rw [if_neg (by omega), if_neg (by omega), if_neg (by omega), if_neg (by omega)], ?_⟩
          unfold dec4
          rw [if_neg (by omega), if_neg (by omega), if_neg (by omega), if_neg (by omega), if_pos (by omega)]
        · right
          refine ⟨?_, dec4_bad (by omega) (by omega) (by omega) (by omega) (by omega)⟩
          unfold sizeZ
          repeat' (first | omega | split)
      · rw [if_pos (.inr qd)]
        right
        exact ⟨by decide, dec4_bad (by omega) (by omega) (by omega) (by omega) (by omega)⟩
    · rw [if_pos (.inr qc), joinZ_eq, if_pos (.inl (by decide))]
      right
      exact ⟨by decide, dec4_bad (by omega) (by omega) (by omega) (by omega) (by omega)⟩
  · rw [if_pos (.inr q), joinZ_eq _ c, if_pos (.inl (by decide)), joinZ_eq, if_pos (.inl (by decide))]
    right
    exact ⟨by decide, dec4_bad (by omega) (by omega) (by omega) (by omega) (by omega)⟩
theorem heads_get : ∀ j : Fin 256, bits .andNot .u8 (j.1 : Int) 0 = (j.1 : Int) ∧ (192 ≤ j.1 → j.1 < 224 → bits .andNot .u8 (j.1 : Int) 192 = (j.1 : Int) - 192) ∧ (224 ≤ j.1 → j.1 < 240 → bits .andNot .u8 (j.1 : Int) 224 = (j.1 : Int) - 224) ∧ (240 ≤ j.1 → j.1 < 248 → bits .andNot .u8 (j.1 : Int) 240 = (j.1 : Int) - 240) := by decide +kernel
theorem heads_cut {a : Int} (h1 : 0 ≤ a) (h2 : a ≤ 255) : bits .andNot .u8 a 0 = a ∧ (192 ≤ a → a < 224 → bits .andNot .u8 a 192 = a - 192) ∧ (224 ≤ a → a < 240 → bits .andNot .u8 a 224 = a - 224) ∧ (240 ≤ a → a < 248 → bits .andNot .u8 a 240 = a - 240) := by
  have h := heads_get ⟨a.toNat, by omega⟩
  have e : ((a.toNat : Nat) : Int) = a := by omega
  simp only [e] at h
  exact ⟨h.1, fun x y => h.2.1 (by omega) (by omega), fun x y => h.2.2.1 (by omega) (by omega), fun x y => h.2.2.2 (by omega) (by omega)⟩
theorem ret_two {r r' : Int} {n n' : Int} (h1 : r = r') (h2 : n = n') : Ending.returned (.tuple #[.int .i32 r, .int .i64 n]) = .returned (.tuple #[.int .i32 r', .int .i64 n']) := by rw [h1, h2]
set_option maxRecDepth 100000 in
set_option maxHeartbeats 3200000 in
theorem dec_any (v : Value) (l : List Int) (w : World) (r : Int) (k : Nat) (hc : decU l = (r, k)) (hv : RU8 w v l) (hb : Bytes l) (hl : l.length ≤ 1000) (hg : GlobU w) :
    Calls Tryd.prog 27 #[v] w fun e w' => e = .returned (.tuple #[.int .i32 r, .int .i64 (k : Int)]) ∧ AnyLater w w' := by
  obtain ⟨A, cap, rfl, hcap, hcell⟩ := hv
  by_cases h0 : l.length = 0
  · obtain rfl := List.eq_nil_of_length_eq_zero h0
    obtain ⟨rfl, rfl⟩ : (0 : Int) = r ∧ 0 = k := by have : ((0 : Int), (0 : Nat)) = (r, k) := hc
                                                    cases this; exact ⟨rfl, rfl⟩
    clear hc hb hcell hg
    simp only [List.length_nil] at *
    go_enter Tryd.func27, Tryd.ntmps27
    go_wp2_with fail
    go_ret2
    exact ⟨rfl, AnyLater.refl _⟩
  obtain ⟨b, off, rfl, hbl, hcl⟩ := hcell (by omega)
  obtain ⟨n, hn⟩ : ∃ n, l.length = n := ⟨_, rfl⟩
  have hbd : ∀ j, 0 ≤ l.getD j 0 ∧ l.getD j 0 ≤ 255 := fun j => by
    by_cases q : j < l.length
    · rw [List.getD_eq_getElem?_getD, List.getElem?_eq_getElem q]; exact hb.get q
    · rw [List.getD_eq_getElem?_getD, List.getElem?_eq_none (by omega)]; simp
  have hcj : ∀ j, j < n → w.cell? ⟨b, off + j, none⟩ = some (.int .u8 (l.getD j 0)) := fun j hj => by
    rw [hcl j (by omega)]; simp [List.getD_eq_getElem?_getD, show j < l.length by omega]
  unfold decU at hc
  rw [hn] at hc hcap hl h0 ⊢
  have B0 := hbd 0
  have B1 := hbd 1
  have B2 := hbd 2
  have B3 := hbd 3
  have cc0 := hcj 0 (by omega)
  rw [Nat.add_zero] at cc0
  have C1 := Lib.hid (hcj 1)
  have C2 := Lib.hid (hcj 2)
  have C3 := Lib.hid (hcj 3)
  clear hcl hcj hbd hb hn hcell
  generalize l.getD 0 0 = a at *
  generalize l.getD 1 0 = x1 at *
  generalize l.getD 2 0 = x2 at *
  generalize l.getD 3 0 = x3 at *
  clear l
  have HG := Lib.hid hg
  obtain ⟨t, ht⟩ : ∃ t, toldZ a = t := ⟨_, rfl⟩
  have HT := Lib.hid (fun w => told_any a w t ht B0)
  obtain ⟨k0, k2, k3, k4⟩ := heads_cut B0.1 B0.2
  obtain ⟨a0, a1⟩ := B0
  by_cases hbad : toldZ a = 0 ∨ (n : Int) < toldZ a
  · rw [told_bad h0 hbad] at hc
    obtain ⟨rfl, rfl⟩ : (65533 : Int) = r ∧ 1 = k := by cases hc; exact ⟨rfl, rfl⟩
    clear hc k0 k2 k3 k4 hg
    rw [ht] at hbad
    have tb : 0 ≤ t ∧ t ≤ 4 := by have := told_cases a; omega
    clear ht
    by_cases t0 : t = 0
    · subst t0
      clear hbad tb
      go_enter Tryd.func27, Tryd.ntmps27
      go_wp2_with (go_at_call 40; refine (HT.out _).mono ?_; rintro e w' ⟨rfl, rfl⟩)
      go_ret2
      exact ⟨rfl, AnyLater.refl _⟩
    · have d0 : (t == 0) = false := by simpa using t0
      have d1 : (n : Int) < t := by omega
      clear hbad
      go_enter Tryd.func27, Tryd.ntmps27
      go_wp2_with (go_at_call 40; refine (HT.out _).mono ?_; rintro e w' ⟨rfl, rfl⟩)
      go_ret2
      exact ⟨rfl, AnyLater.refl _⟩
  have hok := not_or.1 hbad
  have tc := told_cases a
  clear hbad
  rcases tc with ⟨i1, e⟩ | ⟨_, _, e⟩ | ⟨i1, i2, e⟩ | ⟨i1, i2, e⟩ | ⟨i1, i2, e⟩ | ⟨_, e⟩
  · obtain rfl : 1 = t := e.symm.trans ht
    obtain ⟨rfl, rfl⟩ : a = r ∧ 1 = k := by
      have : dec4 n a x1 x2 x3 = (a, 1) := by unfold dec4; rw [if_neg h0, if_pos i1]
      rw [this] at hc; cases hc; exact ⟨rfl, rfl⟩
    have hs : sizeZ a = 1 := by unfold sizeZ; rw [if_neg (by omega), if_pos i1]
    have HS := Lib.hid (fun w => size_any a w 1 hs ⟨by omega, by omega⟩)
    have g1 := hg.c1
    clear hc ht e k2 k3 k4 hs hg
    go_enter Tryd.func27, Tryd.ntmps27
    go_wp2_with (go_at_call 40; refine (HT.out _).mono ?_; rintro e w' ⟨rfl, rfl⟩)
    go_quiet (fail)
    go_wp2_with (go_at_call 42; refine (HS.out _).mono ?_; rintro e w' ⟨rfl, rfl⟩)
    go_ret2
    exact ⟨rfl, (AnyLater.refl _).drewN _⟩
  · exact absurd e hok.1
  · obtain rfl : 2 = t := e.symm.trans ht
    have hn2 : 2 ≤ n := by have := hok.2; omega
    have cc1 := C1.out (by omega)
    have g1 := hg.c2
    have e2 := k2 i1 i2
    have J1 := Lib.hid (fun w => ujoin_any (a - 192) x1 w _ rfl ⟨by omega, by omega⟩ B1)
    have jb := joinZ_in (r := a - 192) (x := x1) (by omega) B1.2
    have HTW := told_two (b := x1) (c := x2) (d := x3) i1 i2 hn2
    rw [hc] at HTW
    clear hc ht e k0 k2 k3 k4 hg hok
    generalize joinZ (a - 192) x1 = j1 at *
    rcases HTW with ⟨hs, he⟩ | ⟨hs, he⟩
    · obtain ⟨rfl, rfl⟩ : r = j1 ∧ k = 2 := by cases he; exact ⟨rfl, rfl⟩
      have HS := Lib.hid (fun w => size_any r w 2 hs ⟨by omega, by omega⟩)
      clear hs he
      go_enter Tryd.func27, Tryd.ntmps27
      go_wp2_with (go_at_call 40; refine (HT.out _).mono ?_; rintro e w' ⟨rfl, rfl⟩)
      go_quiet (fail)
      go_wp2_with (first | (go_at_call 41; refine (J1.out _).mono ?_; rintro e w' ⟨rfl, rfl⟩) | (go_at_call 42; refine (HS.out _).mono ?_; rintro e w' ⟨rfl, rfl⟩))
      go_ret2
      exact ⟨rfl, (AnyLater.refl _).drewN _⟩
    · obtain ⟨rfl, rfl⟩ : r = 65533 ∧ k = 1 := by cases he; exact ⟨rfl, rfl⟩
      have HS := Lib.hid (fun w => size_any j1 w _ rfl ⟨by omega, by omega⟩)
      have d5 : (sizeZ j1 != 2) = true := by simpa using hs
      generalize sizeZ j1 = s at *
      clear hs he
      go_enter Tryd.func27, Tryd.ntmps27
      go_wp2_with (go_at_call 40; refine (HT.out _).mono ?_; rintro e w' ⟨rfl, rfl⟩)
      go_quiet (fail)
      go_wp2_with (first | (go_at_call 41; refine (J1.out _).mono ?_; rintro e w' ⟨rfl, rfl⟩) | (go_at_call 42; refine (HS.out _).mono ?_; rintro e w' ⟨rfl, rfl⟩))
      go_ret2
      exact ⟨rfl, (AnyLater.refl _).drewN _⟩
  · obtain rfl : 3 = t := e.symm.trans ht
    have hn3 : 3 ≤ n := by have := hok.2; omega
    have cc1 := C1.out (by omega)
    have cc2 := C2.out (by omega)
    have g1 := hg.c3
    have e2 := k3 i1 i2
    have HTW := told_three (b := x1) (c := x2) (d := x3) i1 i2 hn3
    rw [hc] at HTW
    clear hc ht e k0 k2 k3 k4 hg hok
    have jb1 := joinZ_le (r := (a - 224)) (x := x1) (m := 15) (by omega) (by omega)
    generalize hj1 : joinZ (a - 224) x1 = j1 at *
    have jb2 := joinZ_le (r := j1) (x := x2) (m := 1023) (by omega) (by omega)
    generalize hj2 : joinZ j1 x2 = j2 at *
    rcases HTW with ⟨hs, he⟩ | ⟨hs, he⟩
    · obtain ⟨rfl, rfl⟩ : r = j2 ∧ k = 3 := by cases he; exact ⟨rfl, rfl⟩
      have HS := Lib.hid (fun w => size_any r w 3 hs ⟨by omega, by omega⟩)
      clear hs he
      go_enter Tryd.func27, Tryd.ntmps27
      go_wp2_with (go_at_call 40; refine (HT.out _).mono ?_; rintro e w' ⟨rfl, rfl⟩)
      go_quiet (fail)
      go_wp2_with (first | (go_at_call 41; refine (ujoin_any _ _ _ _ (by assumption) ⟨by omega, by omega⟩ ⟨by omega, by omega⟩).mono ?_; rintro e w' ⟨rfl, rfl⟩) | (go_at_call 42; refine (HS.out _).mono ?_; rintro e w' ⟨rfl, rfl⟩))
      go_ret2
      exact ⟨rfl, (AnyLater.refl _).drewN _⟩
    · obtain ⟨rfl, rfl⟩ : r = 65533 ∧ k = 1 := by cases he; exact ⟨rfl, rfl⟩
      have HS := Lib.hid (fun w => size_any j2 w _ rfl ⟨by omega, by omega⟩)
      have d5 : (sizeZ j2 != 3) = true := by simpa using hs
      generalize sizeZ j2 = s at *
      clear hs he
      go_enter Tryd.func27, Tryd.ntmps27
      go_wp2_with (go_at_call 40; refine (HT.out _).mono ?_; rintro e w' ⟨rfl, rfl⟩)
      go_quiet (fail)
      go_wp2_with (first | (go_at_call 41; refine (ujoin_any _ _ _ _ (by assumption) ⟨by omega, by omega⟩ ⟨by omega, by omega⟩).mono ?_; rintro e w' ⟨rfl, rfl⟩) | (go_at_call 42; refine (HS.out _).mono ?_; rintro e w' ⟨rfl, rfl⟩))
      go_ret2
      exact ⟨rfl, (AnyLater.refl _).drewN _⟩
  · obtain rfl : 4 = t := e.symm.trans ht
    have hn4 : 4 ≤ n := by have := hok.2; omega
    have cc1 := C1.out (by omega)
    have cc2 := C2.out (by omega)
    have cc3 := C3.out (by omega)
    have g1 := hg.c4
    have e2 := k4 i1 i2
    have HTW := told_four (b := x1) (c := x2) (d := x3) i1 i2 hn4
    rw [hc] at HTW
    clear hc ht e k0 k2 k3 k4 hg hok
    have jb1 := joinZ_le (r := (a - 240)) (x := x1) (m := 7) (by omega) (by omega)
    generalize hj1 : joinZ (a - 240) x1 = j1 at *
    have jb2 := joinZ_le (r := j1) (x := x2) (m := 511) (by omega) (by omega)
    generalize hj2 : joinZ j1 x2 = j2 at *
    have jb3 := joinZ_le (r := j2) (x := x3) (m := 32767) (by omega) (by omega)
    generalize hj3 : joinZ j2 x3 = j3 at *
    rcases HTW with ⟨hs, he⟩ | ⟨hs, he⟩
    · obtain ⟨rfl, rfl⟩ : r = j3 ∧ k = 4 := by cases he; exact ⟨rfl, rfl⟩
      have HS := Lib.hid (fun w => size_any r w 4 hs ⟨by omega, by omega⟩)
      clear hs he
      go_enter Tryd.func27, Tryd.ntmps27
      go_wp2_with (go_at_call 40; refine (HT.out _).mono ?_; rintro e w' ⟨rfl, rfl⟩)
      go_quiet (fail)
      go_wp2_with (first | (go_at_call 41; refine (ujoin_any _ _ _ _ (by assumption) ⟨by omega, by omega⟩ ⟨by omega, by omega⟩).mono ?_; rintro e w' ⟨rfl, rfl⟩) | (go_at_call 42; refine (HS.out _).mono ?_; rintro e w' ⟨rfl, rfl⟩))
      go_ret2
      exact ⟨rfl, (AnyLater.refl _).drewN _⟩
    · obtain ⟨rfl, rfl⟩ : r = 65533 ∧ k = 1 := by cases he; exact ⟨rfl, rfl⟩
      have HS := Lib.hid (fun w => size_any j3 w _ rfl ⟨by omega, by omega⟩)
      have d5 : (sizeZ j3 != 4) = true := by simpa using hs
      generalize sizeZ j3 = s at *
      clear hs he
      go_enter Tryd.func27, Tryd.ntmps27
      go_wp2_with (go_at_call 40; refine (HT.out _).mono ?_; rintro e w' ⟨rfl, rfl⟩)
      go_quiet (fail)
      go_wp2_with (first | (go_at_call 41; refine (ujoin_any _ _ _ _ (by assumption) ⟨by omega, by omega⟩ ⟨by omega, by omega⟩).mono ?_; rintro e w' ⟨rfl, rfl⟩) | (go_at_call 42; refine (HS.out _).mono ?_; rintro e w' ⟨rfl, rfl⟩))
      go_ret2
      exact ⟨rfl, (AnyLater.refl _).drewN _⟩
  · exact absurd e hok.1
end Go.Proofs.YtimplngemjdodaaDoor
