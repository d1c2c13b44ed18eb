/- glyph: Good, Bit and Count of the program, by contract. -/
import Derived.Test.YtbgpjfiabefajaaGlyQ
namespace Go.Proofs.Ytbgpjfiabefajaa
set_option linter.unusedSimpArgs false
set_option linter.unusedVariables false
set_option linter.unusedSectionVars false
open Go.RowKit

theorem div_pow_zero {r : Int} (h0 : 0 ≤ r) (n : Nat) : (r / 2 ^ n != 0) = !decide (r < 2 ^ n) := by
  obtain ⟨k, rfl⟩ := Int.eq_ofNat_of_zero_le h0
  have hp : ((2 : Int) ^ n) = ((2 ^ n : Nat) : Int) := by simp
  rw [hp, ← Int.natCast_ediv]
  have hpos : 0 < 2 ^ n := Nat.two_pow_pos n
  have := Nat.div_eq_zero_iff_lt (x := k) hpos
  by_cases h : k < 2 ^ n
  · have e := this.2 h
    rw [e]; simp; exact_mod_cast h
  · have e : k / 2 ^ n ≠ 0 := fun q => h (this.1 q)
    have h' : ¬ ((k : Int) < ((2 ^ n : Nat) : Int)) := by omega
    rw [decide_eq_false h']
    simp
    intro q
    apply e
    have : ((k / 2 ^ n : Nat) : Int) = 0 := by push_cast; exact q
    omega
set_option maxRecDepth 100000 in
set_option maxHeartbeats 1600000 in
theorem glGood_any (g : GM) (v : Value) (w : World) (c : Bool) (hc : goodG g = c) (hv : IsG g v w) (hok : g.Ok) (hl : g.rows.length ≤ 1000) :
    Calls Try.prog 27 #[v] w fun e w' => e = .returned (.bool c) ∧ AnyLater w w' := by
  obtain ⟨s, rfl, A, cap, rfl, h2, h3⟩ := hv
  obtain ⟨W, H, rows⟩ := g
  obtain ⟨⟨w1, w2⟩, ⟨k1, k2⟩, hr⟩ := hok
  simp only at hl w1 w2 k1 k2 h2 h3 hr
  have HL := Lib.hid ((AnyLater.refl w).alloc (.cells #[.int .i64 W, .int .i64 H, .slice A rows.length cap] 51))
  have HN : Hid ((w.alloc (.cells #[.int .i64 W, .int .i64 H, .slice A rows.length cap] 51)).heap[w.heap.size]? = some (.cells #[.int .i64 W, .int .i64 H, .slice A rows.length cap] 51)) := Lib.hid (heap_new rfl)
  have H0 : Hid (¬ (0 ≤ W ∧ W ≤ 32 ∧ 0 ≤ H ∧ H ≤ 32 ∧ (rows.length : Int) = H) → false = c) := Lib.hid (fun h => by rw [← hc]; unfold goodG; rw [decide_eq_false h]; rfl)
  have iW : I64 W := ⟨w1, w2⟩
  have iH : I64 H := ⟨k1, k2⟩
  by_cases q : 0 ≤ W ∧ W ≤ 32 ∧ 0 ≤ H ∧ H ≤ 32 ∧ (rows.length : Int) = H
  · obtain ⟨a1, a2, a3, a4, rfl⟩ := q
    have e1 : decide (0 ≤ W ∧ W ≤ 32) = true := decide_eq_true ⟨a1, a2⟩
    have e2 : decide (0 ≤ (rows.length : Int) ∧ (rows.length : Int) ≤ 32) = true := decide_eq_true ⟨a3, a4⟩
    have d5 : ((rows.length : Int) != (rows.length : Int)) = false := by simp
    have HC1 := Lib.hid (fun w' => glSide_any W w' true e1 iW)
    have HC2 := Lib.hid (fun w' => glSide_any (rows.length : Int) w' true e2 iH)
    obtain ⟨Wn, rfl⟩ : ∃ n : Nat, (n : Int) = W := ⟨W.toNat, by omega⟩
    have HC : Hid (∀ (j : Nat) (hj : j < rows.length), ¬ rows[j] < 2 ^ Wn → false = c) := Lib.hid (fun j hj h => by rw [← hc, goodG_rows ⟨a1, a2, a3, a4, rfl⟩ hj (by simpa using h)])
    have HT : Hid ((∀ (j : Nat) (hj : j < rows.length), rows[j] < 2 ^ Wn) → true = c) := Lib.hid (fun h => by
      rw [← hc]
      unfold goodG
      rw [decide_eq_true ⟨a1, a2, a3, a4, rfl⟩, Bool.true_and, eq_comm, List.all_eq_true]
      intro r hr2
      obtain ⟨j, hj, rfl⟩ := List.getElem_of_mem hr2
      simpa using h j hj)
    have H3 := Lib.hid h3
    have HR := Lib.hid hr
    obtain ⟨L, hL⟩ : ∃ L, rows.length = L := ⟨_, rfl⟩
    have HLL := Lib.hid hL
    rw [hL] at HL HN h2 a4 a3 hl HC2 d5 ⊢
    clear hc h3 hr hL H0 e1 e2 iW iH
    go_enter Try.func27, Try.ntmps27
    go_wp2_with (go_at_call 62; first | (refine (HC1.out _).mono ?_; rintro e w' ⟨rfl, rfl⟩) | (refine (HC2.out _).mono ?_; rintro e w' ⟨rfl, rfl⟩))
    go_loopg [26] L (fun k jv wr => AnyLater w wr ∧ wr.heap[w.heap.size]? = some (.cells #[.int .i64 (Wn : Int), .int .i64 (L : Int), .slice A L cap] 51) ∧ ∃ j : Nat, k = L - j ∧ j ≤ L ∧ jv = .int .i64 j ∧ ∀ (i : Nat) (hi : i < rows.length), i < j → rows[i] < 2 ^ Wn)
    case atStart => exact ⟨HL.out, HN.out, 0, by omega, by omega, rfl, fun i hi h => by omega⟩
    case round =>
      obtain ⟨a_wr, s_b, j, hk, hj, rfl, hf⟩ := hrel
      have HA := Lib.hid (And.intro a_wr s_b)
      have HF := Lib.hid hf
      have r_b := own_row s_b
      by_cases hlt : j < L
      · have lj : j < rows.length := by rw [HLL.out]; exact hlt
        obtain ⟨b, off, rfl, hb, hcl⟩ := H3.out (by omega)
        have hcc : wr.cell? ⟨b, off + j, none⟩ = some (.int .u32 rows[j]) := (a_wr.below.cell hb).trans (hcl j lj)
        obtain ⟨r1, r2⟩ := HR.out rows[j] (List.getElem_mem lj)
        have HCj := Lib.hid (HC.out j lj)
        have HFj : Hid (rows[j] < 2 ^ Wn → ∀ (i : Nat) (hi : i < rows.length), i < j + 1 → rows[i] < 2 ^ Wn) := Lib.hid (fun h i hi hi2 => by
          by_cases e : i = j
          · subst e; exact h
          · exact HF.out i hi (by omega))
        have hdz := div_pow_zero r1 Wn
        clear a_wr s_b hf hcl
        generalize rows[j] = r at *
        by_cases hb2 : r < 2 ^ Wn
        · rw [decide_eq_true hb2] at hdz
          have HFk := Lib.hid (HFj.out hb2)
          clear hb2
          obtain ⟨qq, hqq⟩ : ∃ z : Int, r / 2 ^ Wn = z := ⟨_, rfl⟩
          rw [hqq] at hdz
          go_wp2_with fail
          go_roundg (L - (j + 1))
          case measure => omega
          case rel => exact ⟨HA.out.1, HA.out.2, j + 1, rfl, by omega, by go_num, HFk.out⟩
        · rw [decide_eq_false hb2] at hdz
          have HZ := Lib.hid (HCj.out (Int.not_lt.1 hb2))
          clear hb2
          obtain ⟨qq, hqq⟩ : ∃ z : Int, r / 2 ^ Wn = z := ⟨_, rfl⟩
          rw [hqq] at hdz
          go_wp2_with fail
          go_ret
          exact ⟨ret_bool HZ.out, HA.out.1⟩
      · obtain rfl : j = L := by omega
        have HZ := Lib.hid (HT.out (fun i hi => HF.out i hi (by rw [← HLL.out]; exact hi)))
        clear a_wr s_b hf
        go_wp2_with fail
        go_ret
        exact ⟨ret_bool HZ.out, HA.out.1⟩
  · have HZ := Lib.hid (H0.out q)
    clear hc h3 hr H0
    generalize rows.length = n at *
    rcases e1 : decide (0 ≤ W ∧ W ≤ 32)
    · have HC1 := Lib.hid (fun w' => glSide_any W w' false e1 iW)
      clear q e1
      go_enter Try.func27, Try.ntmps27
      go_wp2_with (go_at_call 62; refine (HC1.out _).mono ?_; rintro e w' ⟨rfl, rfl⟩)
      go_ret
      exact ⟨ret_bool HZ.out, HL.out⟩
    · have HC1 := Lib.hid (fun w' => glSide_any W w' true e1 iW)
      rcases e2 : decide (0 ≤ H ∧ H ≤ 32)
      · have HC2 := Lib.hid (fun w' => glSide_any H w' false e2 iH)
        clear q e1 e2
        go_enter Try.func27, Try.ntmps27
        go_wp2_with fail
        refine (HC1.out _).mono ?_; rintro e w' ⟨rfl, rfl⟩
        go_wp2_with fail
        refine (HC2.out _).mono ?_; rintro e w' ⟨rfl, rfl⟩
        go_wp2_with fail
        go_ret
        exact ⟨ret_bool HZ.out, HL.out⟩
      · have HC2 := Lib.hid (fun w' => glSide_any H w' true e2 iH)
        have d5 : ((n : Int) != H) = true := by
          have := of_decide_eq_true e1; have := of_decide_eq_true e2; simp; omega
        clear q e1 e2
        go_enter Try.func27, Try.ntmps27
        go_wp2_with fail
        refine (HC1.out _).mono ?_; rintro e w' ⟨rfl, rfl⟩
        go_wp2_with fail
        refine (HC2.out _).mono ?_; rintro e w' ⟨rfl, rfl⟩
        go_wp2_with fail
        go_ret
        exact ⟨ret_bool HZ.out, HL.out⟩
set_option maxRecDepth 100000 in
set_option maxHeartbeats 1600000 in
theorem glBit_any (g : GM) (v : Value) (x y : Int) (w : World) (c : Bool) (hc : (goodG g && hasB g x y) = c) (hv : IsG g v w) (hok : g.Ok) (hl : g.rows.length ≤ 1000) (hx : I64 x) (hy : I64 y) :
    Calls Try.prog 28 #[v, .int .i64 x, .int .i64 y] w fun e w' => e = .returned (.bool c) ∧ AnyLater w w' := by
  have HV := Lib.hid hv
  obtain ⟨A, n, cap, rfl, -⟩ := hv.form
  have HL := Lib.hid ((AnyLater.refl w).alloc (.cells #[.int .i64 g.w, .int .i64 g.h, .slice A n cap] 51))
  have HN : Hid ((w.alloc (.cells #[.int .i64 g.w, .int .i64 g.h, .slice A n cap] 51)).heap[w.heap.size]? = some (.cells #[.int .i64 g.w, .int .i64 g.h, .slice A n cap] 51)) := Lib.hid (heap_new rfl)
  have HC := Lib.hid hc
  rcases hg : goodG g
  · have H1 := Lib.hid (fun w' (ha : AnyLater w w') => glGood_any g _ w' false hg (HV.out.later ha) hok hl)
    have HZ : Hid (false = c) := Lib.hid (by rw [← HC.out, hg]; rfl)
    clear hc hv hg
    generalize g.w = W at *
    generalize g.h = H at *
    go_enter Try.func28, Try.ntmps28
    go_wp2_with fail
    refine (H1.out _ HL.out).mono ?_
    rintro e w2 ⟨rfl, b2⟩
    have HB := Lib.hid (HL.out.trans b2)
    clear b2
    go_wp2_with fail
    go_ret
    exact ⟨ret_bool HZ.out, HB.out⟩
  · have H1 := Lib.hid (fun w' (ha : AnyLater w w') => glGood_any g _ w' true hg (HV.out.later ha) hok hl)
    have HZ : Hid (hasB g x y = c) := Lib.hid (by rw [← HC.out, hg]; rfl)
    have H2 := Lib.hid (fun w' (ha : AnyLater w w') => has_any0 g _ x y w' c HZ.out (HV.out.later ha) hok hg hx hy)
    clear hc hv hg
    generalize g.w = W at *
    generalize g.h = H at *
    go_enter Try.func28, Try.ntmps28
    go_wp2_with fail
    refine (H1.out _ HL.out).mono ?_
    rintro e w2 ⟨rfl, b2⟩
    have r2 := own_row (any_own b2 HN.out)
    have HB := Lib.hid (HL.out.trans b2)
    clear b2
    go_wp2_with fail
    refine (H2.out _ HB.out).mono ?_
    rintro e w3 ⟨rfl, b3⟩
    have HB3 := Lib.hid (HB.out.trans b3)
    clear b3 r2
    go_wp2_with fail
    go_ret
    exact ⟨rfl, HB3.out⟩

/-! ### Count -/
theorem onesZ_far {r : Int} (h0 : 0 ≤ r) (n : Nat) (h : r < 2 ^ n) : ∀ d : Nat, onesZ r (n + d) = onesZ r n
  | 0 => rfl
  | d + 1 => by
    obtain ⟨k, rfl⟩ := Int.eq_ofNat_of_zero_le h0
    have hk : k < 2 ^ n := by
      have hp : ((2 : Int) ^ n) = ((2 ^ n : Nat) : Int) := by simp
      rw [hp] at h; omega
    show onesZ (k : Int) (n + d) + (if bitZ (k : Int) (n + d) = true then 1 else 0) = _
    rw [onesZ_far h0 n h d, bitZ_nat, Nat.testBit_lt_two_pow (Nat.lt_of_lt_of_le hk (Nat.pow_le_pow_right (by decide) (by omega)))]
    simp
theorem cX_ones {g : GM} {y : Nat} (hy : y < g.rows.length) : ∀ x : Nat, (x : Int) ≤ g.w → cX g y x = onesZ g.rows[y] x
  | 0, _ => rfl
  | x + 1, h => by
    rw [cX, onesZ, cX_ones hy x (by omega), hasB_in (g := g) (x := x) (y := y) (by omega) hy]
theorem cX_32 {g : GM} (hok : g.Ok) (hg : goodG g = true) {y : Nat} (hy : y < g.rows.length) : cX g y g.w.toNat = onesZ g.rows[y] 32 := by
  obtain ⟨i1, i2, i3, i4, i5, i6⟩ := goodG_in hg
  have hr := hok.r _ (List.getElem_mem hy)
  rw [cX_ones hy _ (by omega)]
  have := onesZ_far hr.1 g.w.toNat (i6 _ (List.getElem_mem hy)) (32 - g.w.toNat)
  rw [← this]
  congr 1
  omega
set_option maxRecDepth 100000 in
set_option maxHeartbeats 1600000 in
theorem glCount_any (g : GM) (v : Value) (w : World) (c : Int) (hc : countG g = c) (hv : IsG g v w) (hok : g.Ok) (hl : g.rows.length ≤ 1000) :
    Calls Try.prog 29 #[v] w fun e w' => e = .returned (.int .i64 c) ∧ AnyLater w w' := by
  have HV := Lib.hid hv
  obtain ⟨s, rfl, A, cap, rfl, h2, h3⟩ := hv
  obtain ⟨n, hn⟩ : ∃ n, g.rows.length = n := ⟨_, rfl⟩
  have HNN := Lib.hid hn
  rw [hn] at h2 hl HV ⊢
  have HL := Lib.hid ((AnyLater.refl w).alloc (.cells #[.int .i64 g.w, .int .i64 g.h, .slice A n cap] 51))
  have HN : Hid ((w.alloc (.cells #[.int .i64 g.w, .int .i64 g.h, .slice A n cap] 51)).heap[w.heap.size]? = some (.cells #[.int .i64 g.w, .int .i64 g.h, .slice A n cap] 51)) := Lib.hid (heap_new rfl)
  have H3 := Lib.hid h3
  rcases hg : goodG g
  · have H1 := Lib.hid (fun w' (ha : AnyLater w w') => glGood_any g _ w' false hg (HV.out.later ha) hok (by rw [hn]; exact hl))
    have HZ : Hid (0 = c) := Lib.hid (by rw [← hc]; unfold countG; rw [hg]; rfl)
    clear hc hg h3 hn
    generalize g.w = W at *
    generalize g.h = H at *
    go_enter Try.func29, Try.ntmps29
    go_wp2_with fail
    refine (H1.out _ HL.out).mono ?_
    rintro e w2 ⟨rfl, b2⟩
    have HB := Lib.hid (HL.out.trans b2)
    clear b2
    go_wp2_with fail
    go_ret
    exact ⟨ret_int HZ.out, HB.out⟩
  · have H1 := Lib.hid (fun w' (ha : AnyLater w w') => glGood_any g _ w' true hg (HV.out.later ha) hok (by rw [hn]; exact hl))
    have HZ : Hid (cY g n = c) := Lib.hid (by rw [← hc]; unfold countG; rw [if_pos hg, hn])
    obtain ⟨i1, i2, i3, i4, i5, -⟩ := goodG_in hg
    have hn32 : n ≤ 32 := by omega
    have HI : Hid (∀ j, 0 ≤ cY g j ∧ cY g j ≤ 32 * (j : Int)) := Lib.hid (cY_in g (by omega))
    have HS : Hid (∀ j (hj : j < g.rows.length), cY g (j + 1) = cY g j + onesZ g.rows[j] 32) := Lib.hid (fun j hj => by rw [cY, cX_32 hok hg hj])
    have HO := Lib.hid hok.r
    clear hc hg h3 hn i1 i2 i3 i4 i5 hok
    generalize g.w = W at *
    generalize g.h = H at *
    go_enter Try.func29, Try.ntmps29
    go_wp2_with fail
    refine (H1.out _ HL.out).mono ?_
    rintro e w2 ⟨rfl, b2⟩
    have s2 := any_own b2 HN.out
    have r2 := own_row s2
    have HB := Lib.hid (HL.out.trans b2)
    clear b2
    go_wp2_with fail
    go_loopg [3, 12] n (fun k nv jv wr => AnyLater w wr ∧ ∃ j : Nat, k = n - j ∧ j ≤ n ∧ jv = .int .i64 j ∧ nv = .int .i64 (cY g j))
    case atStart => exact ⟨HB.out, 0, by omega, by omega, rfl, by simp [cY]⟩
    case round =>
      obtain ⟨a_wr, j, hk, hj, rfl, rfl⟩ := hrel
      have HA := Lib.hid a_wr
      have cyb := HI.out j
      obtain ⟨cy, hcy⟩ : ∃ z, cY g j = z := ⟨_, rfl⟩
      have HCY := Lib.hid hcy
      rw [hcy] at cyb ⊢
      clear hcy r2 s2
      by_cases hlt : j < n
      · have lj : j < g.rows.length := by rw [HNN.out]; exact hlt
        obtain ⟨b, off, rfl, hb, hcl⟩ := H3.out (by have := HNN.out; omega)
        have hcc : wr.cell? ⟨b, off + j, none⟩ = some (.int .u32 g.rows[j]) := (a_wr.below.cell hb).trans (hcl j lj)
        obtain ⟨r1, r2⟩ := HO.out g.rows[j] (List.getElem_mem lj)
        have HSj := Lib.hid (HS.out j lj)
        clear a_wr hcl
        generalize g.rows[j] = r at *
        obtain ⟨rn, rfl⟩ := Int.eq_ofNat_of_zero_le r1
        obtain ⟨z, hz⟩ : ∃ z, onesZ (rn : Int) 32 = z := ⟨_, rfl⟩
        have zb := onesZ_in (rn : Int) 32
        rw [hz] at zb
        have HS2 : Hid (cY g (j + 1) = cy + z) := Lib.hid (by rw [HSj.out, HCY.out, hz])
        have HO1 := Lib.hid (fun w' => ones32_any rn (by omega) z hz w')
        clear HSj hz
        go_wp2_with fail
        refine (HO1.out _).mono ?_
        rintro e w3 ⟨rfl, b3⟩
        have HB3 := Lib.hid (HA.out.trans b3)
        clear b3 hcc
        go_wp2_with fail
        go_roundg (n - (j + 1))
        case measure => omega
        case rel => exact ⟨HB3.out, j + 1, rfl, by omega, by go_num, by rw [HS2.out]⟩
      · obtain rfl : j = n := by omega
        have HZ2 : Hid (cy = c) := Lib.hid (by rw [← HZ.out, HCY.out])
        clear a_wr
        go_wp2_with fail
        go_ret
        exact ⟨ret_int HZ2.out, HA.out⟩
end Go.Proofs.Ytbgpjfiabefajaa
