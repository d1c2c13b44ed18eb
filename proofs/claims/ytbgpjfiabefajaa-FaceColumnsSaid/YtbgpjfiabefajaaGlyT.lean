/- glyph: bold, large, of another size, of columns: the program's, by contract. -/
import Derived.Test.YtbgpjfiabefajaaGlyS
namespace Go.Proofs.Ytbgpjfiabefajaa
set_option linter.unusedSimpArgs false
set_option linter.unusedVariables false
set_option linter.unusedSectionVars false
open Go.RowKit

section
variable (g : GM) (A : Option Addr) (n cap b : Nat) (x y : Nat) (w : World)
set_option maxRecDepth 100000 in
theorem bold_do (hv : IsG g (.agg #[.int .i64 g.w, .int .i64 g.h, .slice A n cap]) w) (hb : w.heap[b]? = some (.cells #[.int .i64 g.w, .int .i64 g.h, .slice A n cap] 51)) (hok : g.Ok) (hg : goodG g = true) (hx : x ≤ 100) (hy : y ≤ 100) :
    Calls Try.prog 68 #[.int .i64 x, .int .i64 y, .pointer (some ⟨b, 0, none⟩)] w fun e w' => e = .returned (.bool (hasB g x y || hasB g ((x : Int) - 1) y)) ∧ AnyLater w w' := by
  have HV := Lib.hid hv
  have HB := Lib.hid hb
  have r0 := own_row hb
  rcases h1 : hasB g x y
  · have H1 := Lib.hid (has_any0 g _ x y w false h1 hv hok hg (by unfold I64; omega) (by unfold I64; omega))
    have H2 := Lib.hid (fun w' (ha : AnyLater w w') => has_any0 g _ ((x : Int) - 1) y w' _ rfl (HV.out.later ha) hok hg (by unfold I64; omega) (by unfold I64; omega))
    clear hv hb h1 hg
    rw [Bool.false_or]
    generalize hasB g ((x : Int) - 1) y = c at *
    generalize g.w = W at *
    generalize g.h = H at *
    go_enter Try.func68, Try.ntmps68
    go_wp2_with fail
    refine H1.out.mono ?_
    rintro e w2 ⟨rfl, b2⟩
    have r2 := own_row (any_own b2 HB.out)
    have HA := Lib.hid b2
    clear b2 r0
    go_wp2_with fail
    refine (H2.out _ HA.out).mono ?_
    rintro e w3 ⟨rfl, b3⟩
    have HA3 := Lib.hid (HA.out.trans b3)
    clear b3 r2
    go_wp2_with fail
    go_ret
    exact ⟨rfl, HA3.out⟩
  · have H1 := Lib.hid (has_any0 g _ x y w true h1 hv hok hg (by unfold I64; omega) (by unfold I64; omega))
    clear hv hb h1 hg
    rw [Bool.true_or]
    generalize g.w = W at *
    generalize g.h = H at *
    go_enter Try.func68, Try.ntmps68
    go_wp2_with fail
    refine H1.out.mono ?_
    rintro e w2 ⟨rfl, b2⟩
    have HA := Lib.hid b2
    clear b2 r0
    go_wp2_with fail
    go_ret
    exact ⟨rfl, HA.out⟩
set_option maxRecDepth 100000 in
theorem large_do (hv : IsG g (.agg #[.int .i64 g.w, .int .i64 g.h, .slice A n cap]) w) (hb : w.heap[b]? = some (.cells #[.int .i64 g.w, .int .i64 g.h, .slice A n cap] 51)) (hok : g.Ok) (hg : goodG g = true) (hx : x ≤ 100) (hy : y ≤ 100) :
    Calls Try.prog 69 #[.int .i64 x, .int .i64 y, .pointer (some ⟨b, 0, none⟩)] w fun e w' => e = .returned (.bool (hasB g ((x / 2 : Nat) : Int) ((y / 2 : Nat) : Int))) ∧ AnyLater w w' := by
  have r0 := own_row hb
  have H1 := Lib.hid (has_any0 g _ ((x / 2 : Nat) : Int) ((y / 2 : Nat) : Int) w _ rfl hv hok hg (by unfold I64; omega) (by unfold I64; omega))
  have e1 : (x : Int).tdiv 2 = ((x / 2 : Nat) : Int) := by rw [Int.tdiv_eq_ediv_of_nonneg (by omega)]; omega
  have e2 : (y : Int).tdiv 2 = ((y / 2 : Nat) : Int) := by rw [Int.tdiv_eq_ediv_of_nonneg (by omega)]; omega
  clear hv hb hg
  generalize hasB g ((x / 2 : Nat) : Int) ((y / 2 : Nat) : Int) = c at *
  obtain ⟨x2, hx2⟩ : ∃ z, x / 2 = z := ⟨_, rfl⟩
  obtain ⟨y2, hy2⟩ : ∃ z, y / 2 = z := ⟨_, rfl⟩
  rw [hx2] at H1 e1
  rw [hy2] at H1 e2
  have xb : x2 ≤ 100 := by omega
  have yb : y2 ≤ 100 := by omega
  clear hx2 hy2
  generalize g.w = W at *
  generalize g.h = H at *
  go_enter Try.func69, Try.ntmps69
  go_wp2_with fail
  refine H1.out.mono ?_
  rintro e w2 ⟨rfl, b2⟩
  have HA := Lib.hid b2
  clear b2 r0
  go_wp2_with fail
  go_ret
  exact ⟨rfl, HA.out⟩
set_option maxRecDepth 100000 in
theorem wide_do (hv : IsG g (.agg #[.int .i64 g.w, .int .i64 g.h, .slice A n cap]) w) (hb : w.heap[b]? = some (.cells #[.int .i64 g.w, .int .i64 g.h, .slice A n cap] 51)) (hok : g.Ok) (hg : goodG g = true) (hx : x ≤ 100) (hy : y ≤ 100) :
    Calls Try.prog 70 #[.int .i64 x, .int .i64 y, .pointer (some ⟨b, 0, none⟩)] w fun e w' => e = .returned (.bool (hasB g x y)) ∧ AnyLater w w' := by
  have r0 := own_row hb
  have H1 := Lib.hid (has_any0 g _ x y w _ rfl hv hok hg (by unfold I64; omega) (by unfold I64; omega))
  clear hv hb hg
  generalize hasB g x y = c at *
  generalize g.w = W at *
  generalize g.h = H at *
  go_enter Try.func70, Try.ntmps70
  go_wp2_with fail
  refine H1.out.mono ?_
  rintro e w2 ⟨rfl, b2⟩
  have HA := Lib.hid b2
  clear b2 r0
  go_wp2_with fail
  go_ret
  exact ⟨rfl, HA.out⟩
end
theorem and_one8 {r : Int} (h0 : 0 ≤ r) (h1 : r ≤ 255) (i : Nat) : bits .and .u8 (r / 2 ^ i) 1 = if bitZ r i = true then 1 else 0 := by
  obtain ⟨n, rfl⟩ := Int.eq_ofNat_of_zero_le h0
  rw [bitZ_emod (by omega)]
  have hp : ((2 : Int) ^ i) = ((2 ^ i : Nat) : Int) := by simp
  rw [hp, ← Int.natCast_ediv]
  have hl : n / 2 ^ i ≤ n := Nat.div_le_self _ _
  generalize n / 2 ^ i = k at *
  have : bits .and .u8 (k : Int) 1 = ((k % 2 : Nat) : Int) := by go_bits2
  rw [this]
  split
  · rename_i h; have := of_decide_eq_true h; omega
  · rename_i h; have := of_decide_eq_false (Bool.eq_false_iff.2 h); omega
set_option maxRecDepth 100000 in
theorem of_do (l : List Int) (v : Value) (b : Nat) (x y : Nat) (w : World) (hv : RY w v l) (hb : w.heap[b]? = some (.cells #[v] 60)) (hl : ∀ c ∈ l, 0 ≤ c ∧ c ≤ 255) (hll : l.length ≤ 40) (hx : x < l.length) (hy : y < 8) :
    Calls Try.prog 71 #[.int .i64 x, .int .i64 y, .pointer (some ⟨b, 0, none⟩)] w fun e w' => e = .returned (.bool (bitZ (l.getD x 0) y)) ∧ AnyLater w w' := by
  have r0 := own_row hb
  obtain ⟨A, cap, rfl, h2, h3⟩ := hv
  obtain ⟨b2, off, rfl, hb2, hcl⟩ := h3 (by omega)
  have hcc := hcl x hx
  obtain ⟨r1, r2⟩ := hl l[x] (List.getElem_mem hx)
  have hd : l.getD x 0 = l[x] := by simp [hx]
  rw [hd]
  have ha := and_one8 r1 r2 y
  clear hcl h3 hl hd hb
  generalize l[x] = r at *
  generalize l.length = n at *
  rcases hbit : bitZ r y
  all_goals
    rw [hbit] at ha
    simp only [if_true, Bool.false_eq_true, if_false] at ha
    clear hbit
    go_enter Try.func71, Try.ntmps71
    go_wp2_with fail
    go_ret
    exact ⟨rfl, AnyLater.refl _⟩
end Go.Proofs.Ytbgpjfiabefajaa
