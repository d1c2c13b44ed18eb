/- utf: how many runes there are, whether all are valid, and the places around any place: the program's functions by contract. -/
import Derived.Test.YtimplngemjdodaaDoorUtfI
namespace Go.Proofs.YtimplngemjdodaaDoor
set_option linter.unusedSimpArgs false
set_option linter.unusedVariables false
set_option linter.unusedSectionVars false
open Go.RowKit

/-- no rune is one that is none -/
def valU (l : List Int) (c : Nat) : Bool := (List.range c).all fun j => !badU (l.drop (it l j))
theorem valU_yes {l : List Int} {c : Nat} (h : ∀ j, j < c → badU (l.drop (it l j)) = false) : valU l c = true := by
  unfold valU
  rw [List.all_eq_true]
  intro j hj
  rw [h j (List.mem_range.1 hj)]
  rfl
theorem valU_no {l : List Int} {c j : Nat} (hj : j < c) (h : badU (l.drop (it l j)) = true) : valU l c = false := by
  unfold valU
  rw [List.all_eq_false]
  exact ⟨j, List.mem_range.2 hj, by rw [h]; decide⟩
theorem valU_all {l : List Int} {c : Nat} (h : valU l c = true) : ∀ j, j < c → badU (l.drop (it l j)) = false := by
  intro j hj
  unfold valU at h
  have := List.all_eq_true.1 h j (List.mem_range.2 hj)
  simpa using this
set_option maxRecDepth 100000 in
set_option maxHeartbeats 3200000 in
theorem ucount_any (v : Value) (l : List Int) (c : Nat) (w : World) (hv : RU8 w v l) (hb : Bytes l) (hl : l.length ≤ 1000) (hg : GlobU w) (hc : Cnt l c) :
    Calls Tryd.prog 26 #[v] w fun e w' => e = .returned (.int .i64 (c : Int)) ∧ AnyLater w w' := by
  have HV := Lib.hid hv
  obtain ⟨A, cap, rfl, hcap⟩ := hv.form
  obtain ⟨L, hL⟩ : ∃ L, l.length = L := ⟨_, rfl⟩
  have HLL := Lib.hid hL
  have HB := Lib.hid hb
  have HG := Lib.hid hg
  have HC := Lib.hid hc
  have hcl := hc.le hb
  have HLE := Lib.hid (fun j => it_le hb j)
  rw [hL] at hl hcap hcl HLE HV ⊢
  clear hv hL hb hg hc
  go_enter Tryd.func26, Tryd.ntmps26
  go_wp2_with fail
  go_loopg [0, 3] c (fun kk sv av wr => AnyLater w wr ∧ ∃ (j m c2 : Nat) (A2 : Option Addr), kk = c - j ∧ j ≤ c ∧ av = .int .i64 j ∧ sv = .slice A2 m c2 ∧ m + it l j = L ∧ RU8 w (.slice A2 m c2) (l.drop (it l j)))
  case atStart => exact ⟨AnyLater.refl w, 0, L, cap, A, by omega, by omega, rfl, rfl, rfl, HV.out⟩
  case round =>
    obtain ⟨a_wr, j, m, c2, A2, hk, hj, rfl, rfl, hm, hr⟩ := hrel
    have HA := Lib.hid a_wr
    have HR := Lib.hid hr
    obtain ⟨p, hp⟩ : ∃ p, it l j = p := ⟨_, rfl⟩
    have HP := Lib.hid hp
    rw [hp] at hm HR
    by_cases hlt : 0 < m
    · have hjc : j < c := (HC.out.end_iff hj).1 (by rw [HLL.out, hp]; omega)
      obtain ⟨r, k, hdec⟩ : ∃ r k, decU (l.drop p) = (r, k) := ⟨_, _, rfl⟩
      have hlk := dec_len (HB.out.drop p)
      rw [hdec, List.length_drop, HLL.out] at hlk
      have hk1 := hlk.1
      have hpm : L - p = m := by omega
      obtain ⟨u, hu, hcut⟩ := HR.out.cut k (by rw [List.length_drop, HLL.out]; exact hk1)
      obtain ⟨A3, c3, rfl, h3⟩ := hu.form
      have hl3 : ((l.drop p).drop k).length = m - k := by rw [List.length_drop, List.length_drop, HLL.out]; omega
      rw [hl3] at hu hcut h3
      rw [List.drop_drop] at hu
      have HIT : Hid (it l (j + 1) = p + k) := Lib.hid (by rw [it_succ, hp, hdec])
      have HU := Lib.hid hu
      have HD : Hid (Calls Tryd.prog 27 #[.slice A2 m c2] wr fun e w'' => e = .returned (.tuple #[.int .i32 r, .int .i64 (k : Int)]) ∧ AnyLater wr w'') := Lib.hid (dec_any _ (l.drop p) wr r k hdec (HR.out.later a_wr) (HB.out.drop p) (by rw [List.length_drop, HLL.out]; omega) (HG.out.later a_wr))
      simp only at hk1
      rw [hpm] at hk1
      clear hu hdec hlk a_wr hp hr hl3 hpm
      go_wp2_with fail
      refine HD.out.mono ?_
      rintro e w3 ⟨rfl, b3⟩
      have HA3 := Lib.hid (HA.out.trans b3)
      clear b3
      go_wp2_with fail
      go_roundg (c - (j + 1))
      case measure => omega
      case rel => exact ⟨HA3.out, j + 1, m - k, c3, A3, rfl, by omega, by go_num, rfl, by rw [HIT.out]; omega, by rw [HIT.out]; exact HU.out⟩
    · have hjc : j = c := by
        rcases Nat.lt_or_ge j c with h | h
        · have := HC.out.lt j h; rw [HP.out, HLL.out] at this; omega
        · omega
      subst hjc
      clear a_wr hp hr
      go_wp2_with fail
      go_ret
      exact ⟨rfl, HA.out⟩
end Go.Proofs.YtimplngemjdodaaDoor
