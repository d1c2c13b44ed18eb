/- text: the document's line of a place: by contract. -/
import Derived.Test.YtiicaldnegcdiaaGreatTxtP
import Derived.Deep.DeepCutAuto
namespace Go.Proofs.YtiicaldnegcdiaaGreat
set_option linter.unusedSimpArgs false
set_option linter.unusedVariables false
set_option linter.unusedSectionVars false
open Go.RowKit

/-- the cells of a row of lines -/
theorem PR.at {w : World} {v : Value} {F : List Int} {n : Int} (h : PR w v (lnL F n)) : ∃ A cap, v = .slice A (F.length + 1) cap ∧ F.length + 1 ≤ cap ∧ ∀ j, j ≤ F.length → ∃ b off, A = some ⟨b, off, none⟩ ∧ b < w.heap.size ∧ w.cell? ⟨b, off + j * 2, none⟩ = some (.int .i64 (lnS F j)) ∧ w.cell? ⟨b, off + j * 2 + 1, none⟩ = some (.int .i64 (lnE F n j)) := by
  obtain ⟨A, cap, rfl, h2, h3⟩ := h
  have hl := lnL_length F n
  refine ⟨A, cap, by rw [hl], by omega, fun j hj => ?_⟩
  obtain ⟨b, off, e, hb, hc⟩ := h3 (by omega)
  obtain ⟨q1, q2⟩ := hc j (by omega)
  rw [lnL_get] at q1 q2
  exact ⟨b, off, e, hb, q1, q2⟩
set_option maxRecDepth 100000 in
set_option maxHeartbeats 1600000 in
theorem xline_any (v : Value) (l : List Int) (x : Int) (k : Nat) (w : World) (hk : below x (feN 0 l) = k) (hx : 0 ≤ x ∧ x ≤ l.length) (hv : RN .u8 w v l) (hl : l.length ≤ 60000) : Calls Tryz.prog 21 #[v, .int .i64 x] w fun e w' => e = .returned (.int .i64 (k : Int)) ∧ AnyLater w w' := by
  have HL := Lib.hid (xlines_any v l _ w rfl hv hl)
  obtain ⟨b1, b2, b3, b4⟩ := below_ln (F := feN 0 l) hx.1 hx.2
  rw [hk] at b1 b2 b3 b4
  have HB := Lib.hid (And.intro b3 b4)
  have hf := feedsOk l
  have hnF : (feN 0 l).length ≤ 60000 := Nat.le_trans (feN_le l 0) hl
  obtain ⟨A0, cap0, rfl, -⟩ := hv.form
  obtain ⟨x0, xn⟩ := hx
  clear hk b2 b3 b4 hv hf
  generalize feN 0 l = F at *
  obtain ⟨n, hn⟩ : ∃ n : Int, (l.length : Int) = n := ⟨_, rfl⟩
  rw [hn] at HL HB
  clear hn
  generalize l.length = n0 at *
  go_enter Tryz.func21, Tryz.ntmps21
  go_wp2_with fail
  refine HL.out.mono ?_
  rintro e w1 ⟨u, rfl, a1, o1⟩
  have HA1 := Lib.hid a1
  obtain ⟨A, cap, rfl, hcap, hc⟩ := o1.reads.at
  have HC := Lib.hid hc
  clear a1 o1 hc
  obtain ⟨nF, hnf⟩ : ∃ nF, F.length = nF := ⟨_, rfl⟩
  rw [hnf] at HC hcap b1 hnF ⊢
  clear hnf
  go_wp2_with fail
  go_loopg [6] (nF + 1) (fun kk iv wr => ∃ (i : Nat), kk = nF + 1 - i ∧ i ≤ k ∧ iv = .int .i64 (i : Int) ∧ AnyLater w1 wr)
  case atStart => exact ⟨0, rfl, Nat.zero_le _, rfl, AnyLater.refl _⟩
  case round =>
    obtain ⟨i, hkk, hi, rfl, a_wr⟩ := hrel
    have HA := Lib.hid a_wr
    obtain ⟨b, off, rfl, hbb, -, hcc⟩ := HC.out i (by omega)
    have c0 := cell_on a_wr hcc
    have d0 : (i : Int) < ((nF + 1 : Nat) : Int) := by omega
    by_cases he : i = k
    · subst he
      have hle := HB.out.1
      generalize lnE F n i = z at *
      clear hcc a_wr
      go_wp2_with fail
      go_ret
      exact ⟨rfl, HA1.out.trans HA.out⟩
    · have hlt := HB.out.2 i (by omega)
      generalize lnE F n i = z at *
      have d1 : decide (x ≤ z) = false := decide_eq_false (by omega)
      clear hcc a_wr
      go_wp2_with fail
      go_roundg (nF + 1 - (i + 1))
      case measure => omega
      case rel => exact ⟨i + 1, rfl, by omega, by go_num, HA.out⟩
end Go.Proofs.YtiicaldnegcdiaaGreat
