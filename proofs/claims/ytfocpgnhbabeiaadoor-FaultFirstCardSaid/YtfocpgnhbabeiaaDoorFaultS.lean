/- fault: the walk of the law on which of any errors is the first. -/
import Derived.Test.YtfocpgnhbabeiaaDoorFaultR
namespace Go.Proofs.YtfocpgnhbabeiaaDoor
set_option linter.unusedSimpArgs false
set_option linter.unusedVariables false
set_option linter.unusedSectionVars false
open Go.RowKit Go.Extern.Stop Go.Stop Go.Extern

theorem Errs.keep {w w2 : World} (k : ∀ (b : Nat) (cs : Array Value), w.heap[b]? = some (.cells cs 45) → w2.heap[b]? = some (.cells cs 45)) : ∀ {i : Nat} {ys : List Int} {xs : List Value}, Errs w i ys xs → Errs w2 i ys xs
  | _, [], _, h => h
  | _, _ :: _, _, ⟨x, rest, h1, h2, h3⟩ => ⟨x, rest, h1, h2.imp id fun ⟨n, b, e, s⟩ => ⟨n, b, e, k b _ s⟩, Errs.keep k h3⟩
/-- one more error -/
theorem errs_step {w wr w1 w2 : World} {ys : List Int} {v v' x : Value} {y : Int} {xs : List Value} (ha : AnyLater w wr) (ho : wr.ownsRow w.heap.size 28 1 v xs.length xs) (he : Errs wr 0 ys xs) (h1 : AnyLater wr w1)
    (hx : (y = 0 ∧ x = .nilIface) ∨ (y ≠ 0 ∧ ∃ b : Nat, x = .iface 41 (.pointer (some ⟨b, 0, none⟩)) ∧ w1.heap[b]? = some (.cells #[.int .i64 (ys.length : Int), .iface 23 (.int .i64 y)] 45)))
    (hg : (w1.alloc (.cells #[x] 28)).grownBy w2 v.ownBlock) (ho2 : w2.ownsRow w.heap.size 28 1 v' (xs.length + 1) (xs ++ [x])) :
    AnyLater w w2 ∧ w2.ownsRow w.heap.size 28 1 v' (xs ++ [x]).length (xs ++ [x]) ∧ Errs w2 0 (ys ++ [y]) (xs ++ [x]) := by
  have a2 : AnyLater w w2 := grown_later ((ha.trans h1).alloc _) hg (owns_base ho)
  have keep : ∀ (b : Nat) (cs : Array Value), w1.heap[b]? = some (.cells cs 45) → w2.heap[b]? = some (.cells cs 45) := fun b cs hb =>
    grown_block hg (heap_old (own_lt hb) hb) (owns_ne (owns_later h1 ho) hb (by decide))
  refine ⟨a2, by simpa using ho2, Errs.snoc ((he.later h1).keep keep) ?_⟩
  rw [Nat.zero_add]
  exact hx.imp id fun ⟨n, b, e, s⟩ => ⟨n, b, e, keep b _ s⟩
theorem take_succ {ys : List Int} {j : Nat} (h : j < ys.length) : ys.take (j + 1) = ys.take j ++ [ys[j]] := by rw [List.take_succ_eq_append_getElem h]

set_option maxRecDepth 100000 in
set_option maxHeartbeats 3200000 in
theorem ff_short (b off n cap : Nat) (ys : List Int) (w : World) (hl : ys.length = n) (hn : n ≤ 20) (hg : Glob w) (hb : b < w.heap.size) (hc : ∀ (j : Nat) (h : j < ys.length), w.cell? ⟨b, off + j, none⟩ = some (.int .i64 ys[j])) :
    Calls Tryd.prog 5 #[.slice (some ⟨b, off, none⟩) n cap] w fun e w' => e = .returned (.bool true) ∧ AnyLater w w' := by
  obtain ⟨i0, hi0, hz0, hz1, hz2⟩ := info_parts info_err
  have HL := Lib.hid hl
  have HG := Lib.hid hg
  have HC := Lib.hid hc
  have k1 : decide ((20 : Int) < (n : Int)) = false := by simp; omega
  clear hl hg hc
  go_enter Tryd.func5, Tryd.ntmps5
  go_wp2_with fail
  go_loopg [3, 4, 5, 6] n (fun k all want at_ i wr => ∃ (j : Nat) (xs : List Value) (p : Int) (q : Nat), k = n - j ∧ j ≤ n ∧ i = .int .i64 j ∧ want = .int .i64 p ∧ at_ = .int .i64 q ∧ xs.length = j ∧ AnyLater w wr ∧ wr.ownsRow w.heap.size 28 1 all xs.length xs ∧ Errs wr 0 (ys.take j) xs ∧ fz 0 (ys.take j) = (p, q))
  case atStart => exact ⟨0, [], 0, 0, by omega, by omega, rfl, rfl, rfl, rfl, (AnyLater.refl w).alloc _, own_err0 w, rfl, rfl⟩
  case round =>
    obtain ⟨j, xs, p, q, hk, hj, rfl, rfl, rfl, hxl, ha, ho, he, hp⟩ := hrel
    by_cases hlt : j < n
    · have lj : j < ys.length := by rw [HL.out]; exact hlt
      have r0 : wr.cell? ⟨b, off + j, none⟩ = some (.int .i64 ys[j]) := by rw [ha.below.cell hb]; exact HC.out j lj
      have HX := Lib.hid (And.intro hxl (And.intro ha (And.intro ho (And.intro he hp))))
      have hx20 : xs.length ≤ 20 := by omega
      have hlen : (ys.take j).length = j := by rw [List.length_take]; omega
      have HT := Lib.hid (And.intro (take_succ lj) hlen)
      clear hxl ha ho he hp hlen
      generalize ys[j] = y at *
      have R0 : Hid (w.cell? ⟨b, off + j, none⟩ = some (.int .i64 y)) := Lib.hid (by rw [← HX.out.2.1.below.cell hb]; exact r0)
      by_cases hy : y = 0
      · subst hy
        go_wp2_with fail
        refine (new_ok _ _).mono ?_
        rintro e w1 ⟨rfl, rfl⟩
        have HO := Lib.hid (owns_later (AnyLater.alloc (AnyLater.refl wr) (.cells #[.nilIface] 28)) HX.out.2.2.1)
        have HN1 := Lib.hid (World.news_of_block (w := wr.alloc (.cells #[.nilIface] 28)) (cs := #[.nilIface]) (t := 28) (fr := (0, 0)) (heap_new rfl))
        have HB := Lib.hid (((HX.out.2.1.trans (AnyLater.refl wr)).alloc (.cells #[.nilIface] 28)).below.size)
        by_cases hp0 : p = 0
        · have hq : q = 0 := by
            have h0 := HX.out.2.2.2.2
            have h1 := fz_zero (i := 0) (ys := ys.take j) (by rw [h0]; exact hp0)
            rw [h0] at h1
            exact (Prod.mk.inj h1).2
          subst hp0
          subst hq
          go_wp2_with (at_builtin; refine wpList_append_own _ rfl _ _ 48 rfl w.heap.size 28 i0 .nilIface 1 16 Tryd.underlying48 hi0 hz0 hz1 hz2 rfl (by decide) _ xs.length xs rfl HO.out ⟨wr.heap.size, 0, none⟩ 1 1 [.nilIface] rfl rfl HN1.out (by simp [Value.oneCell']) (by unfold maxLen; omega) (by omega) HB.out ?_; intro v' w2 hown1 hgrow hnil; have S := Lib.hid (errs_step HX.out.2.1 HX.out.2.2.1 HX.out.2.2.2.1 (AnyLater.refl wr) (.inl ⟨rfl, rfl⟩) hgrow hown1); have r2 : w2.cell? ⟨b, off + j, none⟩ = some (.int .i64 0) := (by rw [S.out.1.below.cell hb]; exact R0.out); clear hgrow hown1 hnil)
          go_roundg (n - (j + 1))
          case measure => omega
          case rel => exact ⟨j + 1, xs ++ [.nilIface], 0, 0, rfl, hlt, by go_num, rfl, rfl, by rw [List.length_append, HX.out.1]; rfl, S.out.1, S.out.2.1, by rw [HT.out.1]; exact S.out.2.2, by (rw [HT.out.1, fz_snoc, HX.out.2.2.2.2]; simp)⟩
        · have hpB : (p == 0) = false := by simpa using hp0
          have HP := Lib.hid hp0
          clear hp0
          go_wp2_with (at_builtin; refine wpList_append_own _ rfl _ _ 48 rfl w.heap.size 28 i0 .nilIface 1 16 Tryd.underlying48 hi0 hz0 hz1 hz2 rfl (by decide) _ xs.length xs rfl HO.out ⟨wr.heap.size, 0, none⟩ 1 1 [.nilIface] rfl rfl HN1.out (by simp [Value.oneCell']) (by unfold maxLen; omega) (by omega) HB.out ?_; intro v' w2 hown1 hgrow hnil; have S := Lib.hid (errs_step HX.out.2.1 HX.out.2.2.1 HX.out.2.2.2.1 (AnyLater.refl wr) (.inl ⟨rfl, rfl⟩) hgrow hown1); have r2 : w2.cell? ⟨b, off + j, none⟩ = some (.int .i64 0) := (by rw [S.out.1.below.cell hb]; exact R0.out); clear hgrow hown1 hnil)
          go_roundg (n - (j + 1))
          case measure => omega
          case rel => exact ⟨j + 1, xs ++ [.nilIface], p, q, rfl, hlt, by go_num, rfl, rfl, by rw [List.length_append, HX.out.1]; rfl, S.out.1, S.out.2.1, by rw [HT.out.1]; exact S.out.2.2, by (rw [HT.out.1, fz_snoc, HX.out.2.2.2.2]; simp [HP.out])⟩
      · have hy' : (y == 0) = false := by simpa using hy
        have hy2 : (y != 0) = true := by simpa using hy
        have HY := Lib.hid hy
        clear hy
        go_wp2_with fail
        refine (new_code _ _ _ hy').mono ?_
        rintro e w1 ⟨rfl, b_w1, sN⟩
        have HO := Lib.hid (owns_later (AnyLater.alloc b_w1 (.cells #[.iface 41 (.pointer (some ⟨wr.heap.size, 0, none⟩))] 28)) HX.out.2.2.1)
        have HN1 := Lib.hid (World.news_of_block (w := w1.alloc (.cells #[.iface 41 (.pointer (some ⟨wr.heap.size, 0, none⟩))] 28)) (cs := #[.iface 41 (.pointer (some ⟨wr.heap.size, 0, none⟩))]) (t := 28) (fr := (0, 0)) (heap_new rfl))
        have HB := Lib.hid (((HX.out.2.1.trans b_w1).alloc (.cells #[.iface 41 (.pointer (some ⟨wr.heap.size, 0, none⟩))] 28)).below.size)
        have HW1 := Lib.hid (And.intro b_w1 sN)
        clear b_w1 sN
        by_cases hp0 : p = 0
        · subst hp0
          go_wp2_with (at_builtin; refine wpList_append_own _ rfl _ _ 48 rfl w.heap.size 28 i0 .nilIface 1 16 Tryd.underlying48 hi0 hz0 hz1 hz2 rfl (by decide) _ xs.length xs rfl HO.out ⟨w1.heap.size, 0, none⟩ 1 1 [.iface 41 (.pointer (some ⟨wr.heap.size, 0, none⟩))] rfl rfl HN1.out (by simp [Value.oneCell']) (by unfold maxLen; omega) (by omega) HB.out ?_; intro v' w2 hown1 hgrow hnil; have S := Lib.hid (errs_step HX.out.2.1 HX.out.2.2.1 HX.out.2.2.2.1 HW1.out.1 (.inr ⟨HY.out, _, rfl, by rw [HT.out.2]; exact HW1.out.2⟩) hgrow hown1); have r2 : w2.cell? ⟨b, off + j, none⟩ = some (.int .i64 y) := (by rw [S.out.1.below.cell hb]; exact R0.out); clear hgrow hown1 hnil)
          go_roundg (n - (j + 1))
          case measure => omega
          case rel => exact ⟨j + 1, xs ++ [.iface 41 (.pointer (some ⟨wr.heap.size, 0, none⟩))], y, j, rfl, hlt, by go_num, rfl, rfl, by rw [List.length_append, HX.out.1]; rfl, S.out.1, S.out.2.1, by rw [HT.out.1]; exact S.out.2.2, by (rw [HT.out.1, fz_snoc, HX.out.2.2.2.2]; simp [HY.out, HT.out.2])⟩
        · have hpB : (p == 0) = false := by simpa using hp0
          have HP := Lib.hid hp0
          clear hp0
          go_wp2_with (at_builtin; refine wpList_append_own _ rfl _ _ 48 rfl w.heap.size 28 i0 .nilIface 1 16 Tryd.underlying48 hi0 hz0 hz1 hz2 rfl (by decide) _ xs.length xs rfl HO.out ⟨w1.heap.size, 0, none⟩ 1 1 [.iface 41 (.pointer (some ⟨wr.heap.size, 0, none⟩))] rfl rfl HN1.out (by simp [Value.oneCell']) (by unfold maxLen; omega) (by omega) HB.out ?_; intro v' w2 hown1 hgrow hnil; have S := Lib.hid (errs_step HX.out.2.1 HX.out.2.2.1 HX.out.2.2.2.1 HW1.out.1 (.inr ⟨HY.out, _, rfl, by rw [HT.out.2]; exact HW1.out.2⟩) hgrow hown1); have r2 : w2.cell? ⟨b, off + j, none⟩ = some (.int .i64 y) := (by rw [S.out.1.below.cell hb]; exact R0.out); clear hgrow hown1 hnil)
          go_roundg (n - (j + 1))
          case measure => omega
          case rel => exact ⟨j + 1, xs ++ [.iface 41 (.pointer (some ⟨wr.heap.size, 0, none⟩))], p, q, rfl, hlt, by go_num, rfl, rfl, by rw [List.length_append, HX.out.1]; rfl, S.out.1, S.out.2.1, by rw [HT.out.1]; exact S.out.2.2, by (rw [HT.out.1, fz_snoc, HX.out.2.2.2.2]; simp [HP.out])⟩
    · obtain rfl : j = n := by omega
      have a_wr := ha
      have C := first_own _ xs wr _ ho (by omega) he.values
      rcases first_of he with ⟨h0, hf⟩ | ⟨h1, b2, hf, hs⟩
      · rw [hf] at C
        rw [hp] at h0
        have CF := Lib.hid C
        obtain rfl : p = 0 := h0
        clear C hf hp ho he ha hxl
        go_wp2_with fail
        refine CF.out.mono ?_
        rintro e w1 ⟨rfl, rfl⟩
        go_wp2_with fail
        refine (where_nil _).mono ?_
        rintro e w2 ⟨rfl, b_w2⟩
        have z_w2 := b_w2.below.size
        have a_w2 := a_wr.trans b_w2
        go_wp2_with fail
        refine (code_nil _).mono ?_
        rintro e w3 ⟨rfl, b_w3⟩
        have z_w3 := b_w3.below.size
        have a_w3 := a_w2.trans b_w3
        go_wp2_with fail
        refine (lives_any _ (HG.out.later a_w3)).mono ?_
        rintro e w4 ⟨rfl, b_w4⟩
        have z_w4 := b_w4.below.size
        have a_w4 := a_w3.trans b_w4
        go_wp2_with fail
        go_ret
        exact ⟨rfl, a_w4⟩
      · rw [hf] at C
        rw [hp] at h1 hs
        have CF := Lib.hid C
        have hch : Chain wr [(q : Int)] p (.iface 41 (.pointer (some ⟨b2, 0, none⟩))) := ⟨_, _, rfl, hs, rfl⟩
        have HC2 := Lib.hid hch
        have n1 : (p != 0) = true := by simpa using h1
        have n2 : (p == 0) = false := by simpa using h1
        clear C hf hp ho he ha hxl hs hch h1
        go_wp2_with fail
        refine CF.out.mono ?_
        rintro e w1 ⟨rfl, rfl⟩
        go_wp2_with fail
        refine (where_chain (q : Int) [] p _ wr (HG.out.later a_wr) HC2.out (by simp)).mono ?_
        rintro e w2 ⟨rfl, b_w2⟩
        have z_w2 := b_w2.below.size
        have a_w2 := a_wr.trans b_w2
        go_wp2_with fail
        refine (code_in [(q : Int)] p _ wr w2 (HG.out.later a_wr) HC2.out b_w2 (by simp)).mono ?_
        rintro e w3 ⟨rfl, b_w3⟩
        have z_w3 := b_w3.below.size
        have a_w3 := a_w2.trans b_w3
        go_wp2_with fail
        refine (lives_any _ (HG.out.later a_w3)).mono ?_
        rintro e w4 ⟨rfl, b_w4⟩
        have z_w4 := b_w4.below.size
        have a_w4 := a_w3.trans b_w4
        go_wp2_with fail
        go_ret
        exact ⟨rfl, a_w4⟩
set_option maxRecDepth 100000 in
set_option maxHeartbeats 3200000 in
theorem ff_long (b off len cap : Nat) (ys : List Int) (w : World) (hl : ys.length = 20) (h1 : 20 < len) (h2 : len ≤ cap) (hg : Glob w) (hb : b < w.heap.size) (hc : ∀ (j : Nat) (h : j < ys.length), w.cell? ⟨b, off + j, none⟩ = some (.int .i64 ys[j])) :
    Calls Tryd.prog 5 #[.slice (some ⟨b, off, none⟩) len cap] w fun e w' => e = .returned (.bool true) ∧ AnyLater w w' := by
  obtain ⟨i0, hi0, hz0, hz1, hz2⟩ := info_parts info_err
  have HL := Lib.hid hl
  have HG := Lib.hid hg
  have HC := Lib.hid hc
  have k1 : (20 : Int) < (len : Int) := by omega
  have k2 : (20 : Int) ≤ (cap : Int) := by omega
  clear hl hg hc
  go_enter Tryd.func5, Tryd.ntmps5
  go_wp2_with fail
  go_loopg [3, 4, 5, 6] 20 (fun k all want at_ i wr => ∃ (j : Nat) (xs : List Value) (p : Int) (q : Nat), k = 20 - j ∧ j ≤ 20 ∧ i = .int .i64 j ∧ want = .int .i64 p ∧ at_ = .int .i64 q ∧ xs.length = j ∧ AnyLater w wr ∧ wr.ownsRow w.heap.size 28 1 all xs.length xs ∧ Errs wr 0 (ys.take j) xs ∧ fz 0 (ys.take j) = (p, q))
  case atStart => exact ⟨0, [], 0, 0, by omega, by omega, rfl, rfl, rfl, rfl, (AnyLater.refl w).alloc _, own_err0 w, rfl, rfl⟩
  case round =>
    obtain ⟨j, xs, p, q, hk, hj, rfl, rfl, rfl, hxl, ha, ho, he, hp⟩ := hrel
    by_cases hlt : j < 20
    · have lj : j < ys.length := by rw [HL.out]; exact hlt
      have r0 : wr.cell? ⟨b, off + j, none⟩ = some (.int .i64 ys[j]) := by rw [ha.below.cell hb]; exact HC.out j lj
      have HX := Lib.hid (And.intro hxl (And.intro ha (And.intro ho (And.intro he hp))))
      have hx20 : xs.length ≤ 20 := by omega
      have hlen : (ys.take j).length = j := by rw [List.length_take]; omega
      have HT := Lib.hid (And.intro (take_succ lj) hlen)
      clear hxl ha ho he hp hlen
      generalize ys[j] = y at *
      have R0 : Hid (w.cell? ⟨b, off + j, none⟩ = some (.int .i64 y)) := Lib.hid (by rw [← HX.out.2.1.below.cell hb]; exact r0)
      by_cases hy : y = 0
      · subst hy
        go_wp2_with fail
        refine (new_ok _ _).mono ?_
        rintro e w1 ⟨rfl, rfl⟩
        have HO := Lib.hid (owns_later (AnyLater.alloc (AnyLater.refl wr) (.cells #[.nilIface] 28)) HX.out.2.2.1)
        have HN1 := Lib.hid (World.news_of_block (w := wr.alloc (.cells #[.nilIface] 28)) (cs := #[.nilIface]) (t := 28) (fr := (0, 0)) (heap_new rfl))
        have HB := Lib.hid (((HX.out.2.1.trans (AnyLater.refl wr)).alloc (.cells #[.nilIface] 28)).below.size)
        by_cases hp0 : p = 0
        · have hq : q = 0 := by
            have h0 := HX.out.2.2.2.2
            have h1 := fz_zero (i := 0) (ys := ys.take j) (by rw [h0]; exact hp0)
            rw [h0] at h1
            exact (Prod.mk.inj h1).2
          subst hp0
          subst hq
          go_wp2_with (at_builtin; refine wpList_append_own _ rfl _ _ 48 rfl w.heap.size 28 i0 .nilIface 1 16 Tryd.underlying48 hi0 hz0 hz1 hz2 rfl (by decide) _ xs.length xs rfl HO.out ⟨wr.heap.size, 0, none⟩ 1 1 [.nilIface] rfl rfl HN1.out (by simp [Value.oneCell']) (by unfold maxLen; omega) (by omega) HB.out ?_; intro v' w2 hown1 hgrow hnil; have S := Lib.hid (errs_step HX.out.2.1 HX.out.2.2.1 HX.out.2.2.2.1 (AnyLater.refl wr) (.inl ⟨rfl, rfl⟩) hgrow hown1); have r2 : w2.cell? ⟨b, off + j, none⟩ = some (.int .i64 0) := (by rw [S.out.1.below.cell hb]; exact R0.out); clear hgrow hown1 hnil)
          go_roundg (20 - (j + 1))
          case measure => omega
          case rel => exact ⟨j + 1, xs ++ [.nilIface], 0, 0, rfl, hlt, by go_num, rfl, rfl, by rw [List.length_append, HX.out.1]; rfl, S.out.1, S.out.2.1, by rw [HT.out.1]; exact S.out.2.2, by (rw [HT.out.1, fz_snoc, HX.out.2.2.2.2]; simp)⟩
        · have hpB : (p == 0) = false := by simpa using hp0
          have HP := Lib.hid hp0
          clear hp0
          go_wp2_with (at_builtin; refine wpList_append_own _ rfl _ _ 48 rfl w.heap.size 28 i0 .nilIface 1 16 Tryd.underlying48 hi0 hz0 hz1 hz2 rfl (by decide) _ xs.length xs rfl HO.out ⟨wr.heap.size, 0, none⟩ 1 1 [.nilIface] rfl rfl HN1.out (by simp [Value.oneCell']) (by unfold maxLen; omega) (by omega) HB.out ?_; intro v' w2 hown1 hgrow hnil; have S := Lib.hid (errs_step HX.out.2.1 HX.out.2.2.1 HX.out.2.2.2.1 (AnyLater.refl wr) (.inl ⟨rfl, rfl⟩) hgrow hown1); have r2 : w2.cell? ⟨b, off + j, none⟩ = some (.int .i64 0) := (by rw [S.out.1.below.cell hb]; exact R0.out); clear hgrow hown1 hnil)
          go_roundg (20 - (j + 1))
          case measure => omega
          case rel => exact ⟨j + 1, xs ++ [.nilIface], p, q, rfl, hlt, by go_num, rfl, rfl, by rw [List.length_append, HX.out.1]; rfl, S.out.1, S.out.2.1, by rw [HT.out.1]; exact S.out.2.2, by (rw [HT.out.1, fz_snoc, HX.out.2.2.2.2]; simp [HP.out])⟩
      · have hy' : (y == 0) = false := by simpa using hy
        have hy2 : (y != 0) = true := by simpa using hy
        have HY := Lib.hid hy
        clear hy
        go_wp2_with fail
        refine (new_code _ _ _ hy').mono ?_
        rintro e w1 ⟨rfl, b_w1, sN⟩
        have HO := Lib.hid (owns_later (AnyLater.alloc b_w1 (.cells #[.iface 41 (.pointer (some ⟨wr.heap.size, 0, none⟩))] 28)) HX.out.2.2.1)
        have HN1 := Lib.hid (World.news_of_block (w := w1.alloc (.cells #[.iface 41 (.pointer (some ⟨wr.heap.size, 0, none⟩))] 28)) (cs := #[.iface 41 (.pointer (some ⟨wr.heap.size, 0, none⟩))]) (t := 28) (fr := (0, 0)) (heap_new rfl))
        have HB := Lib.hid (((HX.out.2.1.trans b_w1).alloc (.cells #[.iface 41 (.pointer (some ⟨wr.heap.size, 0, none⟩))] 28)).below.size)
        have HW1 := Lib.hid (And.intro b_w1 sN)
        clear b_w1 sN
        by_cases hp0 : p = 0
        · subst hp0
          go_wp2_with (at_builtin; refine wpList_append_own _ rfl _ _ 48 rfl w.heap.size 28 i0 .nilIface 1 16 Tryd.underlying48 hi0 hz0 hz1 hz2 rfl (by decide) _ xs.length xs rfl HO.out ⟨w1.heap.size, 0, none⟩ 1 1 [.iface 41 (.pointer (some ⟨wr.heap.size, 0, none⟩))] rfl rfl HN1.out (by simp [Value.oneCell']) (by unfold maxLen; omega) (by omega) HB.out ?_; intro v' w2 hown1 hgrow hnil; have S := Lib.hid (errs_step HX.out.2.1 HX.out.2.2.1 HX.out.2.2.2.1 HW1.out.1 (.inr ⟨HY.out, _, rfl, by rw [HT.out.2]; exact HW1.out.2⟩) hgrow hown1); have r2 : w2.cell? ⟨b, off + j, none⟩ = some (.int .i64 y) := (by rw [S.out.1.below.cell hb]; exact R0.out); clear hgrow hown1 hnil)
          go_roundg (20 - (j + 1))
          case measure => omega
          case rel => exact ⟨j + 1, xs ++ [.iface 41 (.pointer (some ⟨wr.heap.size, 0, none⟩))], y, j, rfl, hlt, by go_num, rfl, rfl, by rw [List.length_append, HX.out.1]; rfl, S.out.1, S.out.2.1, by rw [HT.out.1]; exact S.out.2.2, by (rw [HT.out.1, fz_snoc, HX.out.2.2.2.2]; simp [HY.out, HT.out.2])⟩
        · have hpB : (p == 0) = false := by simpa using hp0
          have HP := Lib.hid hp0
          clear hp0
          go_wp2_with (at_builtin; refine wpList_append_own _ rfl _ _ 48 rfl w.heap.size 28 i0 .nilIface 1 16 Tryd.underlying48 hi0 hz0 hz1 hz2 rfl (by decide) _ xs.length xs rfl HO.out ⟨w1.heap.size, 0, none⟩ 1 1 [.iface 41 (.pointer (some ⟨wr.heap.size, 0, none⟩))] rfl rfl HN1.out (by simp [Value.oneCell']) (by unfold maxLen; omega) (by omega) HB.out ?_; intro v' w2 hown1 hgrow hnil; have S := Lib.hid (errs_step HX.out.2.1 HX.out.2.2.1 HX.out.2.2.2.1 HW1.out.1 (.inr ⟨HY.out, _, rfl, by rw [HT.out.2]; exact HW1.out.2⟩) hgrow hown1); have r2 : w2.cell? ⟨b, off + j, none⟩ = some (.int .i64 y) := (by rw [S.out.1.below.cell hb]; exact R0.out); clear hgrow hown1 hnil)
          go_roundg (20 - (j + 1))
          case measure => omega
          case rel => exact ⟨j + 1, xs ++ [.iface 41 (.pointer (some ⟨wr.heap.size, 0, none⟩))], p, q, rfl, hlt, by go_num, rfl, rfl, by rw [List.length_append, HX.out.1]; rfl, S.out.1, S.out.2.1, by rw [HT.out.1]; exact S.out.2.2, by (rw [HT.out.1, fz_snoc, HX.out.2.2.2.2]; simp [HP.out])⟩
    · obtain rfl : j = 20 := by omega
      have a_wr := ha
      have C := first_own _ xs wr _ ho (by omega) he.values
      rcases first_of he with ⟨h0, hf⟩ | ⟨h3, b2, hf, hs⟩
      · rw [hf] at C
        rw [hp] at h0
        have CF := Lib.hid C
        obtain rfl : p = 0 := h0
        clear C hf hp ho he ha hxl
        go_wp2_with fail
        refine CF.out.mono ?_
        rintro e w1 ⟨rfl, rfl⟩
        go_wp2_with fail
        refine (where_nil _).mono ?_
        rintro e w2 ⟨rfl, b_w2⟩
        have z_w2 := b_w2.below.size
        have a_w2 := a_wr.trans b_w2
        go_wp2_with fail
        refine (code_nil _).mono ?_
        rintro e w3 ⟨rfl, b_w3⟩
        have z_w3 := b_w3.below.size
        have a_w3 := a_w2.trans b_w3
        go_wp2_with fail
        refine (lives_any _ (HG.out.later a_w3)).mono ?_
        rintro e w4 ⟨rfl, b_w4⟩
        have z_w4 := b_w4.below.size
        have a_w4 := a_w3.trans b_w4
        go_wp2_with fail
        go_ret
        exact ⟨rfl, a_w4⟩
      · rw [hf] at C
        rw [hp] at h3 hs
        have CF := Lib.hid C
        have hch : Chain wr [(q : Int)] p (.iface 41 (.pointer (some ⟨b2, 0, none⟩))) := ⟨_, _, rfl, hs, rfl⟩
        have HC2 := Lib.hid hch
        have n1 : (p != 0) = true := by simpa using h3
        have n2 : (p == 0) = false := by simpa using h3
        clear C hf hp ho he ha hxl hs hch h3
        go_wp2_with fail
        refine CF.out.mono ?_
        rintro e w1 ⟨rfl, rfl⟩
        go_wp2_with fail
        refine (where_chain (q : Int) [] p _ wr (HG.out.later a_wr) HC2.out (by simp)).mono ?_
        rintro e w2 ⟨rfl, b_w2⟩
        have z_w2 := b_w2.below.size
        have a_w2 := a_wr.trans b_w2
        go_wp2_with fail
        refine (code_in [(q : Int)] p _ wr w2 (HG.out.later a_wr) HC2.out b_w2 (by simp)).mono ?_
        rintro e w3 ⟨rfl, b_w3⟩
        have z_w3 := b_w3.below.size
        have a_w3 := a_w2.trans b_w3
        go_wp2_with fail
        refine (lives_any _ (HG.out.later a_w3)).mono ?_
        rintro e w4 ⟨rfl, b_w4⟩
        have z_w4 := b_w4.below.size
        have a_w4 := a_w3.trans b_w4
        go_wp2_with fail
        go_ret
        exact ⟨rfl, a_w4⟩
set_option maxRecDepth 100000 in
set_option maxHeartbeats 1600000 in
theorem ff_empty (a : Option Addr) (cap : Nat) (w : World) (hg : Glob w) :
    Calls Tryd.prog 5 #[.slice a 0 cap] w fun e w' => e = .returned (.bool true) ∧ AnyLater w w' := by
  have HG := Lib.hid hg
  have CF := Lib.hid (first_own _ [] (w.alloc (.cells #[] 28)) _ (own_err0 w) (by decide) (by simp))
  have a_wr := (AnyLater.refl w).alloc (.cells #[] 28)
  clear hg
  go_enter Tryd.func5, Tryd.ntmps5
  go_wp2_with fail
  refine wp_loop_rounds 1 ?_
  rw [rounds_succ]
  go_wp2_with fail
  refine CF.out.mono ?_
  rintro e w1 ⟨rfl, rfl⟩
  generalize w.alloc (.cells #[] 28) = wr at *
  go_wp2_with fail
  refine (where_nil _).mono ?_
  rintro e w2 ⟨rfl, b_w2⟩
  have z_w2 := b_w2.below.size
  have a_w2 := a_wr.trans b_w2
  go_wp2_with fail
  refine (code_nil _).mono ?_
  rintro e w3 ⟨rfl, b_w3⟩
  have z_w3 := b_w3.below.size
  have a_w3 := a_w2.trans b_w3
  go_wp2_with fail
  refine (lives_any _ (HG.out.later a_w3)).mono ?_
  rintro e w4 ⟨rfl, b_w4⟩
  have z_w4 := b_w4.below.size
  have a_w4 := a_w3.trans b_w4
  go_wp2_with fail
  go_ret
  exact ⟨rfl, a_w4⟩
/-- FaultFirst -/
theorem ff_any (v0 : Value) (zs : List Int) (w : World) (hi : Ints w w.heap.size v0 zs) (hg : Glob w) :
    Calls Tryd.prog 5 #[v0] w fun e w' => e = .returned (.bool true) ∧ AnyLater w w' := by
  rcases hi with ⟨rfl, rfl⟩ | ⟨a, cap, rfl, h2, h3, hb, hc⟩
  · exact ff_empty none 0 w hg
  · rcases Nat.eq_zero_or_pos zs.length with h0 | h0
    · rw [h0]; exact ff_empty _ cap w hg
    · obtain ⟨b, off, rfl, hcell⟩ := ints_at hc h0
      have hc' : ∀ (j : Nat) (h : j < zs.length), w.cell? ⟨b, off + j, none⟩ = some (.int .i64 zs[j]) := fun j hj => by
        rw [hcell j hj]; simp [List.getD_eq_getElem?_getD, hj]
      rcases Nat.lt_or_ge 20 zs.length with h | h
      · have hl : (zs.take 20).length = 20 := by rw [List.length_take]; omega
        exact ff_long b off _ cap (zs.take 20) w hl h h2 hg (hb h0) (fun j hj => by rw [List.length_take] at hj; rw [hc' j (by omega), List.getElem_take])
      · exact ff_short b off _ cap zs w rfl h hg (hb h0) hc'
end Go.Proofs.YtfocpgnhbabeiaaDoor
