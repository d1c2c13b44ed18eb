/- band: the law on how many rows bands have, on what the program's functions are to tell. -/
import Derived.Test.YtcgbfdjdpjdncaaBandD
namespace Go.Proofs.Ytcgbfdjdpjdncaa
set_option linter.unusedSimpArgs false
set_option linter.unusedVariables false
set_option linter.unusedSectionVars false
open Go.RowKit

/-- how many of the first rows there are -/
def cnt (has : Nat → Bool) : Nat → Int
  | 0 => 0
  | n + 1 => cnt has n + if has n then 1 else 0
theorem cnt_bd (has : Nat → Bool) : ∀ n, 0 ≤ cnt has n ∧ cnt has n ≤ n
  | 0 => by simp [cnt]
  | n + 1 => by have := cnt_bd has n; unfold cnt; split <;> omega
theorem heightR (has : Nat → Bool) : ∀ n, n ≤ 1000000 → ((ofR has n).map fun b => b.2 - b.1).sum = cnt has n
  | 0, _ => rfl
  | n + 1, hn => by
    have ih := heightR has n (by omega)
    have inv := ofR_inv has n (by omega)
    rw [ofR_succ]
    unfold cnt
    by_cases h : has n = true
    · rw [if_pos h, if_pos h]
      by_cases hp : (0 < n && has (n - 1)) = true
      · rw [if_pos hp]
        obtain ⟨p1, p2⟩ := Bool.and_eq_true_iff.1 hp
        obtain ⟨f, r, hR⟩ := inv.last.1 ⟨of_decide_eq_true p1, p2⟩
        rw [hR] at ih ⊢
        simp only [List.map_cons, List.sum_cons] at ih ⊢
        omega
      · rw [if_neg hp]
        simp only [List.map_cons, List.sum_cons]
        omega
    · rw [if_neg h, if_neg h, ih]; omega
theorem height_of (has : Nat → Bool) (n : Nat) (hn : n ≤ 1000000) : heightL (ofL has n) = cnt has n := by
  unfold heightL ofL
  rw [List.map_reverse, List.sum_reverse]
  exact heightR has n hn
/-- near bands have rows from -100 to 299 alone -/
theorem near_rows {l : Bands} (h : nearB l = true) {y : Int} (hy : inB l y = true) : -100 ≤ y ∧ y < 300 := by
  obtain ⟨b, hb, h1, h2, _⟩ := inB_iff.1 hy
  have := List.all_eq_true.1 (Bool.and_eq_true_iff.1 h).1 b hb
  have := of_decide_eq_true this
  omega
def rowsOf (l : Bands) (i : Nat) : Bool := inB l ((i : Int) - 100)
theorem near_of {l : Bands} (h : nearB l = true) (y : Int) : inB (ofL (rowsOf l) 400) y = inB l y := by
  rw [ofL_rows _ _ (by decide)]
  cases hy : inB l y with
  | true =>
    have := near_rows h hy
    refine decide_eq_true ⟨this.1, by omega, ?_⟩
    unfold rowsOf
    rw [show (((y + 100).toNat : Nat) : Int) - 100 = y by omega]
    exact hy
  | false =>
    refine decide_eq_false (fun ⟨h1, h2, h3⟩ => ?_)
    unfold rowsOf at h3
    rw [show (((y + 100).toNat : Nat) : Int) - 100 = y by omega, hy] at h3
    cases h3

set_option maxRecDepth 100000 in
set_option maxHeartbeats 3200000 in
theorem height_law (S : Says) (v1 : Value) (l1 : Bands) (w : World) (h1 : RB w v1 l1) (n1 : Nums l1) :
    Calls Try.prog 7 #[v1] w fun e w' => e = .returned (.bool true) ∧ AnyLater w w' := by
  have F1 := Lib.hid (few_any v1 l1 w h1)
  have HS := Lib.hid S
  have HK : Hid ((l1.take 30).length ≤ 30) := Lib.hid (by rw [List.length_take]; omega)
  have HM := Lib.hid (nums_take n1 30)
  clear h1 S n1
  generalize l1.take 30 = a at *
  have k5 : Hid (a.length ≤ 100000) := Lib.hid (by have := HK.out; omega)
  go_enter Try.func7, Try.ntmps7
  go_wp2_with fail
  refine F1.out.mono ?_
  rintro e w1 ⟨va, rfl, a_w1, o1⟩
  have RA := Lib.hid (fun w' (ha : AnyLater w1 w') => o1.reads.later ha)
  have c_w1 := AnyLater.refl w1
  have N := near_any va a w1 (RA.out w1 c_w1) k5.out
  have I := Lib.hid (fun (y : Int) => in_any va a y w1 (RA.out w1 c_w1) k5.out)
  clear o1 F1
  cases hn : nearB a with
  | false =>
    rw [hn] at N
    have HN := Lib.hid N
    clear N hn
    go_wp2_with fail
    refine HN.out.mono ?_
    rintro e w9 ⟨rfl, rfl⟩
    go_wp2_with fail
    refine (lives_any HS.out _).mono ?_
    rintro e w2 ⟨rfl, b_w2⟩
    have z_w2 := b_w2.below.size
    have a_w2 := a_w1.trans b_w2
    go_wp2_with fail
    go_ret
    exact ⟨rfl, a_w2⟩
  | true =>
    rw [hn] at N
    have HN := Lib.hid N
    have HNN := Lib.hid hn
    clear N hn
    go_wp2_with fail
    refine HN.out.mono ?_
    rintro e w9 ⟨rfl, rfl⟩
    go_wp2_with fail
    go_loopg [3, 4] 400 (fun k n i wr => w1 = wr ∧ ∃ j : Nat, k = 400 - j ∧ j ≤ 400 ∧ i = .int .i64 ((j : Int) - 100) ∧ n = .int .i64 (cnt (rowsOf a) j))
    case atStart => exact ⟨rfl, 0, by omega, by omega, rfl, rfl⟩
    case round =>
      obtain ⟨rfl, j, hk, hj, rfl, rfl⟩ := hrel
      obtain ⟨b1, b2⟩ := cnt_bd (rowsOf a) j
      have b3 : cnt (rowsOf a) j ≤ 400 := by omega
      by_cases hlt : j < 400
      · have hd : (j : Int) - 100 < 300 := by omega
        have C := I.out ((j : Int) - 100)
        have HE : Hid (cnt (rowsOf a) (j + 1) = cnt (rowsOf a) j + if inB a ((j : Int) - 100) then 1 else 0) := Lib.hid rfl
        cases hb : inB a ((j : Int) - 100) with
        | true =>
          rw [hb] at C HE
          have HC := Lib.hid C
          clear C hb
          generalize cnt (rowsOf a) j = cj at *
          go_wp2_with fail
          refine HC.out.mono ?_
          rintro e w9 ⟨rfl, rfl⟩
          go_wp2_with fail
          go_roundg (400 - (j + 1))
          case measure => omega
          case rel => exact ⟨rfl, j + 1, rfl, hlt, by congr 1; omega, by rw [HE.out]; rfl⟩
        | false =>
          rw [hb] at C HE
          have HC := Lib.hid C
          clear C hb
          generalize cnt (rowsOf a) j = cj at *
          go_wp2_with fail
          refine HC.out.mono ?_
          rintro e w9 ⟨rfl, rfl⟩
          go_wp2_with fail
          go_roundg (400 - (j + 1))
          case measure => omega
          case rel => exact ⟨rfl, j + 1, rfl, hlt, by congr 1; omega, by rw [HE.out]; simp⟩
      · obtain rfl : j = 400 := by omega
        have HH : Hid (heightL (ofL (rowsOf a) 400) = cnt (rowsOf a) 400) := Lib.hid (height_of _ _ (by decide))
        generalize cnt (rowsOf a) 400 = cj at *
        go_wp2_with fail
        refine (few_same va a w1 (RA.out w1 c_w1) HK.out).mono ?_
        rintro e w3 ⟨v3, rfl, b_w3, o3⟩
        have a_w3 := a_w1.trans b_w3
        have H3 := Lib.hid (HS.out.height v3 a (ofL (rowsOf a) 400) w3 o3.reads HM.out (by have := HK.out; omega) (ofL_good _ _ (by decide)) (near_of HNN.out))
        rw [HH.out] at H3
        clear o3 b_w3
        go_wp2_with fail
        refine (H3.out).mono ?_
        rintro e w4 ⟨rfl, b_w4⟩
        have z_w4 := b_w4.below.size
        have a_w4 := a_w3.trans b_w4
        go_wp2_with fail
        refine (lives_any HS.out _).mono ?_
        rintro e w5 ⟨rfl, b_w5⟩
        have z_w5 := b_w5.below.size
        have a_w5 := a_w4.trans b_w5
        go_wp2_with fail
        go_ret
        exact ⟨rfl, a_w5⟩
end Go.Proofs.Ytcgbfdjdpjdncaa
