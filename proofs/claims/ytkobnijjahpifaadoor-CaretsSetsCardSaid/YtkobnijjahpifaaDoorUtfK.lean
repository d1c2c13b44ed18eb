/- utf: the places around any place: the program's Snap and Next by contract. -/
import Derived.Test.YtkobnijjahpifaaDoorUtfJ
namespace Go.Proofs.YtkobnijjahpifaaDoor
set_option linter.unusedSimpArgs false
set_option linter.unusedVariables false
set_option linter.unusedSectionVars false
open Go.RowKit

/-- the greatest place at which a rune begins that is not above at, and the least that is -/
def SnapP (l : List Int) (a : Int) (s : Nat) : Prop := (a < 0 ∧ s = 0) ∨ ((l.length : Int) ≤ a ∧ s = l.length) ∨ ∃ j, (it l j : Int) ≤ a ∧ a < it l (j + 1) ∧ s = it l j
def NextP (l : List Int) (a : Int) (s : Nat) : Prop := (a < 0 ∧ s = 0) ∨ ((l.length : Int) ≤ a ∧ s = l.length) ∨ ∃ j, (it l j : Int) ≤ a ∧ a < it l (j + 1) ∧ s = it l (j + 1)
set_option maxRecDepth 100000 in
set_option maxHeartbeats 3200000 in
theorem snap_any (v : Value) (l : List Int) (a : Int) (s : Nat) (w : World) (hs : SnapP l a s) (hv : RU8 w v l) (hb : Bytes l) (hl : l.length ≤ 1000) (hg : GlobU w) (ha : -9223372036854775808 ≤ a ∧ a ≤ 9223372036854775807) :
    Calls Tryd.prog 30 #[v, .int .i64 a] w fun e w' => e = .returned (.int .i64 (s : Int)) ∧ AnyLater w w' := by
  have HV := Lib.hid hv
  obtain ⟨a1, a2⟩ := ha
  obtain ⟨A, cap, rfl, hcap⟩ := hv.form
  obtain ⟨L, hL⟩ : ∃ L, l.length = L := ⟨_, rfl⟩
  have HLL := Lib.hid hL
  have HB := Lib.hid hb
  have HG := Lib.hid hg
  have HLE := Lib.hid (fun j => it_le hb j)
  rw [hL] at hl hcap HLE HV ⊢
  unfold SnapP at hs
  rw [hL] at hs
  clear hv hL hb hg
  rcases hs with ⟨q, rfl⟩ | ⟨q, e⟩ | ⟨j, q1, q2, rfl⟩
  · go_enter Tryd.func30, Tryd.ntmps30
    go_wp2_with fail
    go_ret
    exact ⟨rfl, AnyLater.refl _⟩
  · rw [e]
    clear e
    by_cases q0 : a < 0
    · have : L = 0 := by omega
      subst this
      go_enter Tryd.func30, Tryd.ntmps30
      go_wp2_with fail
      go_ret
      exact ⟨rfl, AnyLater.refl _⟩
    · go_enter Tryd.func30, Tryd.ntmps30
      go_wp2_with fail
      go_ret
      exact ⟨rfl, AnyLater.refl _⟩
  · obtain ⟨p, rfl⟩ := Int.eq_ofNat_of_zero_le (show 0 ≤ a by omega)
    have h2 := HLE.out (j + 1)
    have hpL : p < L := by omega
    obtain ⟨A0, c0, e0, _, hcell⟩ := HV.out
    obtain ⟨b, off, rfl, hbl, hcj⟩ := hcell (by rw [HLL.out]; omega)
    obtain ⟨rfl, rfl⟩ : A = some ⟨b, off, none⟩ ∧ cap = c0 := by cases e0; exact ⟨rfl, rfl⟩
    have HCJ : Hid (∀ (i : Nat) (hi : i < l.length), w.cell? ⟨b, off + i, none⟩ = some (.int .u8 l[i])) := Lib.hid hcj
    have HBL := Lib.hid hbl
    obtain ⟨s, hs⟩ : ∃ s, it l j = s := ⟨_, rfl⟩
    have HS : Hid (∀ f, f ≤ p → p ≤ f + 3 → (∀ (q : Nat) (hq : q < l.length), f < q → q ≤ p → tl l[q] = true) → (f = 0 ∨ p = f + 3 ∨ ∀ (hq : f < l.length), tl l[f] = false) → s = if p < f + (decU (l.drop f)).2 then f else p) := Lib.hid (fun f h1 h2 h3 h4 => by
      rw [← hs]
      exact snap_back HB.out (by rw [HLL.out]; exact hpL) h1 h2 h3 h4 (by omega) (by omega))
    rw [hs]
    clear hcell e0 hcj q1 q2 h2 hs
    have d0 : decide (L ≤ p) = false := decide_eq_false (by omega)
    have d1 : decide ((p : Int) < 0) = false := decide_eq_false (by omega)
    go_enter Tryd.func30, Tryd.ntmps30
    go_upto_block 0 with fail
    go_cut [5] (fun fv wx => ∃ f : Nat, fv = .int .i64 f ∧ f ≤ p ∧ AnyLater w wx ∧ s = if p < f + (decU (l.drop f)).2 then f else p)
    case first =>
      go_wp2_with fail
      go_loopg [5] p (fun kk fv wr => ∃ f : Nat, kk = f ∧ fv = .int .i64 f ∧ f ≤ p ∧ p ≤ f + 3 ∧ AnyLater w wr ∧ ∀ (q : Nat) (hq : q < l.length), f < q → q ≤ p → tl l[q] = true)
      case atStart => exact ⟨p, rfl, rfl, by omega, by omega, AnyLater.refl w, fun q _ h1 h2 => by omega⟩
      case round =>
        obtain ⟨f, hk, rfl, hf1, hf2, a_wr, hft⟩ := hrel
        have HA := Lib.hid a_wr
        have HFT := Lib.hid hft
        by_cases f0 : f = 0
        · subst f0
          have HZ := Lib.hid (HS.out 0 (by omega) hf2 HFT.out (.inl rfl))
          clear a_wr hft
          go_wp2_with fail
          go_meet
          case rel => exact ⟨0, rfl, by omega, HA.out, HZ.out⟩
        · by_cases f3 : p = f + 3
          · have HZ := Lib.hid (HS.out f (by omega) hf2 HFT.out (.inr (.inl f3)))
            have d3 : ¬ ((f : Int) > (p : Int) - 3) := by omega
            clear a_wr hft f3
            go_wp2_with fail
            go_meet
            case rel => exact ⟨f, rfl, by omega, HA.out, HZ.out⟩
          · have lf : f < l.length := by rw [HLL.out]; omega
            have cc : wr.cell? ⟨b, off + f, none⟩ = some (.int .u8 l[f]) := (a_wr.below.cell HBL.out).trans (HCJ.out f lf)
            have hby := HB.out.get lf
            have HZ : Hid (tl l[f] = false → s = if p < f + (decU (l.drop f)).2 then f else p) := Lib.hid (fun h => HS.out f (by omega) hf2 HFT.out (.inr (.inr fun _ => h)))
            have HT : Hid (tl l[f] = true → ∀ (q : Nat) (hq : q < l.length), f - 1 < q → q ≤ p → tl l[q] = true) := Lib.hid (fun h q hq h1 h2 => by
              by_cases e : q = f
              · subst e; exact h
              · exact HFT.out q hq (by omega) h2)
            have hpf : p ≤ (f - 1) + 3 := by omega
            clear a_wr hft
            generalize l[f] = y at *
            rcases ht : tl y
            · have H1 := Lib.hid (fun w => isTail_any y w false ht hby)
              have HZ2 := Lib.hid (HZ.out ht)
              clear ht
              go_wp2_with (go_at_call 43; refine (H1.out _).mono ?_; rintro e w' ⟨rfl, rfl⟩)
              go_meet
              case rel => exact ⟨f, rfl, by omega, HA.out, HZ2.out⟩
            · have H1 := Lib.hid (fun w => isTail_any y w true ht hby)
              have HT2 := Lib.hid (HT.out ht)
              clear ht
              obtain ⟨g, rfl⟩ : ∃ g, f = g + 1 := ⟨f - 1, by omega⟩
              simp only [Nat.add_sub_cancel] at HT2 hpf
              go_wp2_with (go_at_call 43; refine (H1.out _).mono ?_; rintro e w' ⟨rfl, rfl⟩)
              go_roundg g
              case measure => omega
              case rel => exact ⟨g, rfl, by go_num, by omega, hpf, HA.out, HT2.out⟩
    case rest =>
      obtain ⟨f, rfl, hfp, a_wc, hsf⟩ := hcut
      have HA := Lib.hid a_wc
      obtain ⟨r, k, hdec⟩ : ∃ r k, decU (l.drop f) = (r, k) := ⟨_, _, rfl⟩
      rw [hdec] at hsf
      simp only at hsf
      have hlk := dec_len (HB.out.drop f)
      rw [hdec, List.length_drop, HLL.out] at hlk
      have hk4 := hlk.2.2
      simp only at hk4
      obtain ⟨u, hu, hcut⟩ := HV.out.cut f (by rw [HLL.out]; omega)
      have HD : Hid (Calls Tryd.prog 44 #[u] wc fun e w'' => e = .returned (.tuple #[.int .i32 r, .int .i64 (k : Int)]) ∧ AnyLater wc w'') := Lib.hid (dec_any u (l.drop f) wc r k hdec (hu.later a_wc) (HB.out.drop f) (by rw [List.length_drop, HLL.out]; omega) (HG.out.later a_wc))
      clear hu hdec hlk a_wc
      by_cases q : p < f + k
      · rw [if_pos q] at hsf
        subst hsf
        go_wp2_with fail
        refine HD.out.mono ?_
        rintro e w3 ⟨rfl, b3⟩
        have HA3 := Lib.hid (HA.out.trans b3)
        clear b3
        go_wp2_with fail
        go_ret
        exact ⟨rfl, HA3.out⟩
      · rw [if_neg q] at hsf
        subst hsf
        go_wp2_with fail
        refine HD.out.mono ?_
        rintro e w3 ⟨rfl, b3⟩
        have HA3 := Lib.hid (HA.out.trans b3)
        clear b3
        go_wp2_with fail
        go_ret
        exact ⟨rfl, HA3.out⟩
end Go.Proofs.YtkobnijjahpifaaDoor
