/- glyph: which bits a glyph has, and whether it is good: plain mathematics, and the document's own functions by contract; a glyph in memory of its own with few rows. -/
import Derived.Test.YtbgpjfiabefajaaFrameE
namespace Go.Proofs.Ytbgpjfiabefajaa
set_option linter.unusedSimpArgs false
set_option linter.unusedVariables false
set_option linter.unusedSectionVars false
open Go.RowKit

structure GM where
  w : Int
  h : Int
  rows : List Int
def bitZ (r : Int) (x : Nat) : Bool := (r / 2 ^ x).tmod 2 == 1
def hasB (g : GM) (x y : Int) : Bool := decide (0 ≤ x ∧ x < g.w ∧ 0 ≤ y ∧ y < (g.rows.length : Int)) && bitZ (g.rows.getD y.toNat 0) x.toNat
def goodG (g : GM) : Bool := decide (0 ≤ g.w ∧ g.w ≤ 32 ∧ 0 ≤ g.h ∧ g.h ≤ 32 ∧ (g.rows.length : Int) = g.h) && g.rows.all fun r => decide (r < 2 ^ g.w.toNat)
structure GM.Ok (g : GM) : Prop where
  w : I64 g.w
  h : I64 g.h
  r : ∀ r ∈ g.rows, 0 ≤ r ∧ r ≤ 4294967295
theorem goodG_in {g : GM} (h : goodG g = true) : 0 ≤ g.w ∧ g.w ≤ 32 ∧ 0 ≤ g.h ∧ g.h ≤ 32 ∧ (g.rows.length : Int) = g.h ∧ ∀ r ∈ g.rows, r < 2 ^ g.w.toNat := by
  unfold goodG at h
  rw [Bool.and_eq_true] at h
  have h1 := of_decide_eq_true h.1
  refine ⟨h1.1, h1.2.1, h1.2.2.1, h1.2.2.2.1, h1.2.2.2.2, fun r hr => ?_⟩
  have := List.all_eq_true.1 h.2 r hr
  exact of_decide_eq_true this
/-- a glyph's value: its rows read so -/
def IsG (g : GM) (v : Value) (w : World) : Prop := ∃ s, v = .agg #[.int .i64 g.w, .int .i64 g.h, s] ∧ RU w s g.rows
theorem IsG.later {g : GM} {v : Value} {w w' : World} (ha : AnyLater w w') (h : IsG g v w) : IsG g v w' := by
  obtain ⟨s, h1, h2⟩ := h
  exact ⟨s, h1, h2.later ha⟩
def few (g : GM) : GM := ⟨g.w, g.h, g.rows.take 40⟩
theorem few_few (g : GM) : few (few g) = few g := by simp [few, List.take_take]
theorem few_len (g : GM) : (few g).rows.length ≤ 40 := by simp [few]; omega
theorem few_ok {g : GM} (h : g.Ok) : (few g).Ok := ⟨h.w, h.h, fun r hr => h.r r (List.mem_of_mem_take hr)⟩

/-! ### the document's Bit -/
theorem hasB_out {g : GM} {x y : Int} (h : ¬ (0 ≤ x ∧ x < g.w ∧ 0 ≤ y ∧ y < (g.rows.length : Int))) : hasB g x y = false := by
  unfold hasB; rw [decide_eq_false h]; rfl
theorem hasB_in {g : GM} {x y : Nat} (hx : (x : Int) < g.w) (hy : y < g.rows.length) : hasB g x y = bitZ g.rows[y] x := by
  unfold hasB
  rw [decide_eq_true ⟨by omega, hx, by omega, by omega⟩]
  simp [hy]
set_option maxRecDepth 100000 in
set_option maxHeartbeats 1600000 in
theorem refBit_any (g : GM) (v : Value) (x y : Int) (w : World) (c : Bool) (hc : hasB g x y = c) (hv : IsG g v w) (hok : g.Ok) (hW : g.w ≤ 32) (hl : g.rows.length ≤ 1000) (hx : I64 x) (hy : I64 y) :
    Calls Try.prog 26 #[v, .int .i64 x, .int .i64 y] w fun e w' => e = .returned (.bool c) ∧ AnyLater w w' := by
  obtain ⟨s, rfl, A, cap, rfl, h2, h3⟩ := hv
  obtain ⟨W, H, rows⟩ := g
  obtain ⟨⟨w1, w2⟩, ⟨k1, k2⟩, hr⟩ := hok
  simp only at hW hl w1 w2 k1 k2 h2 h3 hr
  obtain ⟨x1, x2⟩ := hx
  obtain ⟨y1, y2⟩ := hy
  have HL := Lib.hid ((AnyLater.refl w).alloc (.cells #[.int .i64 W, .int .i64 H, .slice A rows.length cap] 51))
  have H0 : Hid (¬ (0 ≤ x ∧ x < W ∧ 0 ≤ y ∧ y < (rows.length : Int)) → false = c) := Lib.hid (fun h => by rw [← hc, hasB_out h])
  have HR := Lib.hid hr
  by_cases q1 : 0 ≤ x
  · by_cases q2 : x < W
    · by_cases q3 : 0 ≤ y
      · by_cases q4 : y < (rows.length : Int)
        · obtain ⟨i, rfl⟩ : ∃ i : Nat, (i : Int) = x := ⟨x.toNat, by omega⟩
          obtain ⟨j, rfl⟩ : ∃ j : Nat, (j : Int) = y := ⟨y.toNat, by omega⟩
          have lj : j < rows.length := by omega
          obtain ⟨b, off, rfl, hb, hcl⟩ := h3 (by omega)
          have hcc := hcl j lj
          have hcv : Hid (bitZ rows[j] i = c) := Lib.hid (by rw [← hc]; exact (hasB_in (g := ⟨W, H, rows⟩) q2 lj).symm)
          obtain ⟨r1, r2⟩ := hr rows[j] (List.getElem_mem lj)
          clear hc h3 hcl hr
          generalize rows[j] = r at *
          generalize rows.length = n at *
          go_enter Try.func26, Try.ntmps26
          go_wp2_with fail
          go_ret
          exact ⟨ret_bool (by rw [← hcv.out]; rfl), HL.out⟩
        · have HZ := Lib.hid (H0.out (by omega))
          clear hc h3 hr H0
          generalize rows.length = n at *
          go_enter Try.func26, Try.ntmps26
          go_wp2_with fail
          go_ret
          exact ⟨ret_bool HZ.out, HL.out⟩
      · have HZ := Lib.hid (H0.out (by omega))
        clear hc h3 hr H0
        generalize rows.length = n at *
        go_enter Try.func26, Try.ntmps26
        go_wp2_with fail
        go_ret
        exact ⟨ret_bool HZ.out, HL.out⟩
    · have HZ := Lib.hid (H0.out (by omega))
      clear hc h3 hr H0
      generalize rows.length = n at *
      go_enter Try.func26, Try.ntmps26
      go_wp2_with fail
      go_ret
      exact ⟨ret_bool HZ.out, HL.out⟩
  · have HZ := Lib.hid (H0.out (by omega))
    clear hc h3 hr H0
    generalize rows.length = n at *
    go_enter Try.func26, Try.ntmps26
    go_wp2_with fail
    go_ret
    exact ⟨ret_bool HZ.out, HL.out⟩

/-! ### the document's Good -/
theorem pow_u64 {n : Nat} (h : n ≤ 32) : (0 : Int) ≤ 2 ^ n ∧ (2 : Int) ^ n ≤ 18446744073709551615 := by
  have h1 := Nat.pow_le_pow_right (n := 2) (by decide) h
  have h2 : ((2 ^ n : Nat) : Int) = 2 ^ n := by simp
  rw [← h2]
  exact ⟨Int.natCast_nonneg _, Int.ofNat_le.2 (Nat.le_trans h1 (by decide))⟩
theorem wrap_pow {n : Nat} (h : n ≤ 32) : IntKind.u64.wrap (2 ^ n) = 2 ^ n := IntWalk.u64_in _ (pow_u64 h)
theorem goodG_rows {g : GM} {j : Nat} (h1 : 0 ≤ g.w ∧ g.w ≤ 32 ∧ 0 ≤ g.h ∧ g.h ≤ 32 ∧ (g.rows.length : Int) = g.h) (hj : j < g.rows.length) (h : ¬ g.rows[j] < 2 ^ g.w.toNat) : goodG g = false := by
  unfold goodG
  rw [decide_eq_true h1, Bool.true_and, List.all_eq_false]
  exact ⟨_, List.getElem_mem hj, by simpa using h⟩
set_option maxRecDepth 100000 in
set_option maxHeartbeats 1600000 in
theorem refGoodG_any (g : GM) (v : Value) (w : World) (c : Bool) (hc : goodG g = c) (hv : IsG g v w) (hok : g.Ok) (hl : g.rows.length ≤ 1000) :
    Calls Try.prog 25 #[v] w fun e w' => e = .returned (.bool c) ∧ AnyLater w w' := by
  obtain ⟨s, rfl, A, cap, rfl, h2, h3⟩ := hv
  obtain ⟨W, H, rows⟩ := g
  obtain ⟨⟨w1, w2⟩, ⟨k1, k2⟩, hr⟩ := hok
  simp only at hl w1 w2 k1 k2 h2 h3 hr
  have HL := Lib.hid ((AnyLater.refl w).alloc (.cells #[.int .i64 W, .int .i64 H, .slice A rows.length cap] 51))
  have HN : Hid ((w.alloc (.cells #[.int .i64 W, .int .i64 H, .slice A rows.length cap] 51)).heap[w.heap.size]? = some (.cells #[.int .i64 W, .int .i64 H, .slice A rows.length cap] 51)) := Lib.hid (heap_new rfl)
  have H0 : Hid (¬ (0 ≤ W ∧ W ≤ 32 ∧ 0 ≤ H ∧ H ≤ 32 ∧ (rows.length : Int) = H) → false = c) := Lib.hid (fun h => by rw [← hc]; unfold goodG; rw [decide_eq_false h]; rfl)
  by_cases q : 0 ≤ W ∧ W ≤ 32 ∧ 0 ≤ H ∧ H ≤ 32 ∧ (rows.length : Int) = H
  · obtain ⟨a1, a2, a3, a4, rfl⟩ := q
    obtain ⟨Wn, rfl⟩ : ∃ n : Nat, (n : Int) = W := ⟨W.toNat, by omega⟩
    have HC : Hid (∀ (j : Nat) (hj : j < rows.length), ¬ rows[j] < 2 ^ Wn → false = c) := Lib.hid (fun j hj h => by rw [← hc, goodG_rows ⟨a1, a2, a3, a4, rfl⟩ hj (by simpa using h)])
    have HT : Hid ((∀ (j : Nat) (hj : j < rows.length), rows[j] < 2 ^ Wn) → true = c) := Lib.hid (fun h => by
      rw [← hc]
      unfold goodG
      rw [decide_eq_true ⟨a1, a2, a3, a4, rfl⟩, Bool.true_and, eq_comm, List.all_eq_true]
      intro r hr2
      obtain ⟨j, hj, rfl⟩ := List.getElem_of_mem hr2
      simpa using h j hj)
    have H3 := Lib.hid h3
    have HR := Lib.hid hr
    have hwr := wrap_pow (n := Wn) (by omega)
    obtain ⟨p, hp⟩ : ∃ p : Int, 2 ^ Wn = p := ⟨_, rfl⟩
    simp only [hp] at HC HT
    have hpi : 0 ≤ p ∧ p ≤ 18446744073709551615 := by rw [← hp]; exact pow_u64 (by omega)
    rw [show (2 : Int) ^ Wn = p from hp] at hwr
    have hwr : IntKind.u64.wrap (2 ^ Wn) = p := by rw [hp]; exact hwr
    obtain ⟨p1, p2⟩ := hpi
    obtain ⟨L, hL⟩ : ∃ L, rows.length = L := ⟨_, rfl⟩
    have HLL := Lib.hid hL
    rw [hL] at HL HN h2 a4 a3 hl ⊢
    clear hc h3 hr hL H0 hp
    go_enter Try.func25, Try.ntmps25
    go_wp2_with fail
    go_loopg [3] L (fun k jv wr => AnyLater w wr ∧ wr.heap[w.heap.size]? = some (.cells #[.int .i64 (Wn : Int), .int .i64 (L : Int), .slice A L cap] 51) ∧ ∃ j : Nat, k = L - j ∧ j ≤ L ∧ jv = .int .i64 j ∧ ∀ (i : Nat) (hi : i < rows.length), i < j → rows[i] < p)
    case atStart => exact ⟨HL.out, HN.out, 0, by omega, by omega, rfl, fun i hi h => by omega⟩
    case round =>
      obtain ⟨a_wr, s_b, j, hk, hj, rfl, hf⟩ := hrel
      have HA := Lib.hid (And.intro a_wr s_b)
      have HF := Lib.hid hf
      have r_b := own_row s_b
      by_cases hlt : j < L
      · have lj : j < rows.length := by rw [HLL.out]; exact hlt
        obtain ⟨b, off, rfl, hb, hcl⟩ := H3.out (by omega)
        have hcc : wr.cell? ⟨b, off + j, none⟩ = some (.int .u32 rows[j]) := (a_wr.below.cell hb).trans (hcl j lj)
        obtain ⟨r1, r2⟩ := HR.out rows[j] (List.getElem_mem lj)
        have HCj := Lib.hid (HC.out j lj)
        have HFj : Hid (rows[j] < p → ∀ (i : Nat) (hi : i < rows.length), i < j + 1 → rows[i] < p) := Lib.hid (fun h i hi hi2 => by
          by_cases e : i = j
          · subst e; exact h
          · exact HF.out i hi (by omega))
        clear a_wr s_b hf hcl
        generalize rows[j] = r at *
        by_cases hb2 : p ≤ r
        · have hge : decide (p ≤ r) = true := decide_eq_true hb2
          have HZ := Lib.hid (HCj.out (by omega))
          go_wp2_with fail
          go_quiet (fail)
          go_wp2_with fail
          go_ret
          exact ⟨ret_bool HZ.out, HA.out.1.drewN _⟩
        · have hge : decide (p ≤ r) = false := decide_eq_false hb2
          have HFk := Lib.hid (HFj.out (by omega))
          go_wp2_with fail
          go_quiet (fail)
          go_wp2_with fail
          go_roundg (L - (j + 1))
          case measure => omega
          case rel => exact ⟨HA.out.1.drewN _, HA.out.2, j + 1, rfl, by omega, by go_num, HFk.out⟩
      · obtain rfl : j = L := by omega
        have HZ := Lib.hid (HT.out (fun i hi => HF.out i hi (by rw [← HLL.out]; exact hi)))
        clear a_wr s_b hf
        go_wp2_with fail
        go_ret
        exact ⟨ret_bool HZ.out, HA.out.1⟩
  · have HZ := Lib.hid (H0.out q)
    clear hc h3 hr H0
    generalize rows.length = n at *
    have HQ := Lib.hid q
    by_cases q1 : W < 0
    · clear q
      go_enter Try.func25, Try.ntmps25
      go_wp2_with fail
      go_ret
      exact ⟨ret_bool HZ.out, HL.out⟩
    · by_cases q2 : 32 < W
      · clear q
        go_enter Try.func25, Try.ntmps25
        go_wp2_with fail
        go_ret
        exact ⟨ret_bool HZ.out, HL.out⟩
      · by_cases q3 : H < 0
        · clear q
          go_enter Try.func25, Try.ntmps25
          go_wp2_with fail
          go_ret
          exact ⟨ret_bool HZ.out, HL.out⟩
        · by_cases q4 : 32 < H
          · clear q
            go_enter Try.func25, Try.ntmps25
            go_wp2_with fail
            go_ret
            exact ⟨ret_bool HZ.out, HL.out⟩
          · have q5 : ((n : Int) != H) = true := by simp; omega
            clear q
            go_enter Try.func25, Try.ntmps25
            go_wp2_with fail
            go_ret
            exact ⟨ret_bool HZ.out, HL.out⟩
end Go.Proofs.Ytbgpjfiabefajaa
