/- wrap: Of, by contract; WrapOf, walked. -/
import Derived.Test.YtcbcbblclpongaaWrpE
import Derived.BigGuardPart
namespace Go.Proofs.Ytcbcbblclpongaa
set_option linter.unusedSimpArgs false
set_option linter.unusedVariables false
set_option linter.unusedSectionVars false
open Go.RowKit

/-- whether a row has a cell -/
def hasR (c : Int) (r : Rw) : Bool := decide (r.1 ≤ c ∧ c < r.2.1)
/-- the first of the rows to come that has it -/
def wOfG (c : Int) (n : Nat) : Rws → Nat → Int
  | [], _ => (n : Int) - 1
  | r :: l, j => if hasR c r then (j : Int) else wOfG c n l (j + 1)
def wOf (c : Int) (l : Rws) : Int := wOfG c l.length l 0
theorem wOfG_at {c : Int} {n : Nat} {l : Rws} {j : Nat} (h : j < l.length) : wOfG c n (l.drop j) j = if hasR c l[j] then (j : Int) else wOfG c n (l.drop (j + 1)) (j + 1) := by
  rw [List.drop_eq_getElem_cons h]; rfl
theorem wOfG_end {c : Int} {n : Nat} {l : Rws} {j : Nat} (h : l.length ≤ j) : wOfG c n (l.drop j) j = (n : Int) - 1 := by
  rw [List.drop_of_length_le h]; rfl
theorem hasR_ways (c : Int) (r : Rw) : hasR c r = true ∧ decide (r.1 ≤ c) = true ∧ decide (c < r.2.1) = true ∨ hasR c r = false ∧ (decide (r.1 ≤ c) = false ∨ decide (r.1 ≤ c) = true ∧ decide (c < r.2.1) = false) := by
  unfold hasR
  by_cases h1 : r.1 ≤ c
  · by_cases h2 : c < r.2.1
    · exact .inl ⟨by simp [h1, h2], by simp [h1], by simp [h2]⟩
    · exact .inr ⟨by simp [h2], .inr ⟨by simp [h1], by simp [h2]⟩⟩
  · exact .inr ⟨by simp [h1], .inl (by simp [h1])⟩
theorem wOf_in (c : Int) : ∀ (l : Rws) (n j : Nat), -1 ≤ wOfG c n l j ∧ wOfG c n l j ≤ max (n : Int) (j + l.length)
  | [], n, j => by simp only [wOfG, List.length_nil]; omega
  | r :: l, n, j => by
    have := wOf_in c l n (j + 1)
    unfold wOfG
    rw [List.length_cons]
    split <;> omega
set_option maxRecDepth 100000 in
set_option maxHeartbeats 1600000 in
theorem wof_any (v : Value) (l : Rws) (c : Int) (w : World) (hv : FR rowF w v l) (hN : RwsOk l) (hl : l.length ≤ 100000) (hc : I64s c) :
    Calls Try.prog 13 #[v, .int .i64 c] w fun e w' => e = .returned (.int .i64 (wOf c l)) ∧ AnyLater w w' := by
  obtain ⟨A, cap, rfl, hcap⟩ := hv.form
  have HV := Lib.hid hv
  have HNN := Lib.hid hN
  obtain ⟨R, hR⟩ : ∃ R, wOf c l = R := ⟨_, rfl⟩
  obtain ⟨n, hn⟩ : ∃ n, l.length = n := ⟨_, rfl⟩
  have HL := Lib.hid hn
  have HR : Hid (wOfG c n (l.drop 0) 0 = R) := Lib.hid (by rw [← hR, ← hn, List.drop_zero]; rfl)
  rw [hR]
  rw [hn] at HV hcap hl ⊢
  obtain ⟨hc1, hc2⟩ := hc
  clear hv hN hn hR
  go_enter Try.func13, Try.ntmps13
  go_wp2_with fail
  go_loopg [9] n (fun kk iv wr => AnyLater w wr ∧ ∃ j : Nat, kk = n - j ∧ j ≤ n ∧ iv = .int .i64 j ∧ wOfG c n (l.drop j) j = R)
  case atStart => exact ⟨AnyLater.refl _, 0, by omega, by omega, rfl, HR.out⟩
  case round =>
    obtain ⟨a_wr, j, hk, hj, rfl, hr⟩ := hrel
    have HA := Lib.hid a_wr
    have HRR := Lib.hid hr
    clear hr
    by_cases hlt : j < n
    · have lj : j < l.length := by rw [HL.out]; exact hlt
      have i1 : (j : Int) < (n : Int) := by omega
      have hst := wOfG_at (c := c) (n := n) lj
      have hww := hasR_ways c l[j]
      have hok := HNN.out l[j] (List.getElem_mem lj)
      obtain ⟨b, off, rfl, hb, c0, c1, c2⟩ := rowAt (HV.out.later a_wr) j lj
      generalize l[j] = x at *
      obtain ⟨ca, cn, cs⟩ := x
      obtain ⟨⟨o1, o2⟩, ⟨o3, o4⟩, -⟩ := hok
      simp only at c0 c1 c2 hww o1 o2 o3 o4
      have HA1 := Lib.hid ((HA.out.alloc (.cells #[.int .i64 ca, .int .i64 cn, .int .i64 cs] 31)))
      rw [HRR.out] at hst
      rcases hww with ⟨e0, e1, e2⟩ | ⟨e0, e1⟩
      · rw [e0, if_pos rfl] at hst
        have HS := Lib.hid hst
        clear a_wr e0 hst
        go_wp2_with fail
        go_ret
        exact ⟨ret_i64 HS.out.symm, HA1.out⟩
      · rw [e0, if_neg (by decide)] at hst
        have HS := Lib.hid hst.symm
        clear a_wr e0 hst
        rcases e1 with e1 | ⟨e1, e2⟩
        all_goals
          go_wp2_with fail
          go_roundg (n - (j + 1))
          case measure => omega
          case rel => exact ⟨HA1.out, j + 1, rfl, hlt, by go_num, HS.out⟩
    · obtain rfl : j = n := by omega
      have HS : Hid ((j : Int) - 1 = R) := Lib.hid (by rw [← HRR.out]; exact (wOfG_end (by rw [HL.out]; exact Nat.le_refl _)).symm)
      clear a_wr
      go_wp2_with fail
      go_ret
      exact ⟨ret_i64 HS.out, HA.out⟩
set_option maxRecDepth 100000 in
set_option maxHeartbeats 1600000 in
theorem wrapOf_any (W : World) (v : Value) (l0 : Rws) (c : Int) (hv0 : FR rowF W v l0) (hN0 : RwsOk l0) (hc : I64s c) : Calls Try.prog 5 #[v, .int .i64 c] W fun e w' => e = .returned (.bool true) ∧ AnyLater W w' := by
  obtain ⟨A0, cap0, rfl, hcap0⟩ := hv0.form
  obtain ⟨l, hl⟩ : ∃ l, l0.take 30 = l := ⟨_, rfl⟩
  have hln : l.length ≤ 30 := by rw [← hl, List.length_take]; omega
  have hN : RwsOk l := by rw [← hl]; exact fun r hr => hN0 r (List.mem_of_mem_take hr)
  have hway : ∃ A cap n, l.length = n ∧ FR rowF W (.slice A n cap) l ∧ (30 < l0.length ∧ (∀ w', (Instr.sliceAt 24 (.slice A0 l0.length cap0) none (some (.int .i64 30)) none).run Try.prog w' = .ok (.slice A n cap) w') ∨ ¬ 30 < l0.length ∧ A = A0 ∧ cap = cap0 ∧ n = l0.length) := by
    by_cases q : 30 < l0.length
    · obtain ⟨A, cap, k1, k2⟩ := hv0.uptoF rowFT 30 (by omega)
      refine ⟨A, cap, 30, by rw [← hl, List.length_take]; omega, by rw [← hl]; exact k1, .inl ⟨q, k2⟩⟩
    · have e : l = l0 := by rw [← hl]; exact List.take_of_length_le (by omega)
      exact ⟨A0, cap0, l0.length, by rw [e], by rw [e]; exact hv0, .inr ⟨q, rfl, rfl, rfl⟩⟩
  obtain ⟨A, cap, n, hn, hv, hway⟩ := hway
  have HV := Lib.hid hv
  have HC := Lib.hid (fun (w : World) u (h : FR rowF w u l) => copyF rowFT h (by omega))
  obtain ⟨R, hR⟩ : ∃ R, wOf c l = R := ⟨_, rfl⟩
  have HO := Lib.hid (fun w u (h : FR rowF w u l) => wof_any u l c w h hN (by omega) hc)
  have HL := Lib.hid hn
  have HRE : Hid (wOfG c n (l.drop 0) 0 = R) := Lib.hid (by rw [← hR, ← hn, List.drop_zero]; rfl)
  have hRb := wOf_in c l l.length 0
  rw [show wOfG c l.length l 0 = R from hR] at hRb
  rw [hR] at HO
  rw [hn] at hln hRb
  have HNN := Lib.hid hN
  have HLV := Lib.hid (fun w => wlives_any w)
  generalize l0.length = n0 at *
  obtain ⟨hc1, hc2⟩ := hc
  obtain ⟨r1, r2⟩ := hRb
  have hn30 : n ≤ 30 := by omega
  clear hv0 hN0 hv hN hl hR hn
  go_enter Try.func5, Try.ntmps5
  rcases hway with ⟨q, hcut⟩ | ⟨q, rfl, rfl, rfl⟩
  all_goals
    go_wp2_with fail
    go_loopg [5, 6] n (fun kk wv iv wr => AnyLater W wr ∧ ∃ (k : Nat) (z g : Int), kk = k ∧ k ≤ n ∧ iv = .int .i64 z ∧ z = (k : Int) - 1 ∧ wv = .int .i64 g ∧ g = wOfG c n (l.drop k) k)
    case atStart => exact ⟨AnyLater.refl _, n, _, _, rfl, Nat.le_refl _, rfl, rfl, rfl, (wOfG_end (by rw [HL.out]; exact Nat.le_refl _)).symm⟩
    case round =>
      obtain ⟨a_wr, k, z, g, rfl, hk, rfl, hz, rfl, hg⟩ := hrel
      have HA := Lib.hid a_wr
      by_cases hk0 : 0 < gk
      · obtain ⟨j, rfl⟩ : ∃ j, gk = j + 1 := ⟨gk - 1, by omega⟩
        obtain rfl : z = (j : Int) := by omega
        have HG := Lib.hid hg
        have lj : j < l.length := by rw [HL.out]; omega
        have hst := wOfG_at (c := c) (n := n) lj
        have hww := hasR_ways c l[j]
        have hok := HNN.out l[j] (List.getElem_mem lj)
        obtain ⟨b, off, rfl, hb, c0, c1, c2⟩ := rowAt (HV.out.later a_wr) j lj
        generalize l[j] = x at *
        obtain ⟨ca, cn, cs⟩ := x
        obtain ⟨⟨o1, o2⟩, ⟨o3, o4⟩, -⟩ := hok
        simp only at c0 c1 c2 hww o1 o2 o3 o4
        rcases hww with ⟨e0, e1, e2⟩ | ⟨e0, e1⟩
        · rw [e0, if_pos rfl] at hst
          have HS := Lib.hid hst
          clear a_wr e0 hst hz hg
          go_wp2_with fail
          go_roundg j
          case measure => omega
          case rel => exact ⟨HA.out, j, _, _, rfl, by omega, by go_num, rfl, rfl, HS.out.symm⟩
        · rw [e0, if_neg (by decide)] at hst
          have HS := Lib.hid hst.symm
          clear a_wr e0 hst hz hg
          rcases e1 with e1 | ⟨e1, e2⟩
          all_goals
            go_wp2_with fail
            go_roundg j
            case measure => omega
            case rel => exact ⟨HA.out, j, _, _, rfl, by omega, by go_num, rfl, rfl, HG.out.trans HS.out⟩
      · obtain rfl : gk = 0 := by omega
        obtain rfl : z = -1 := by omega
        obtain rfl : g = R := by rw [hg]; exact HRE.out
        obtain ⟨u2, w2, k1, k2, k3⟩ := HC.out _ _ (HV.out.later HA.out)
        have K1 := Lib.hid k1
        have H2 := Lib.hid (And.intro (HA.out.trans k2) k3.fr)
        clear k1 k2 k3 hz a_wr hg
        go_wp2_with (at_builtin; refine Lib.wpList_append_run _ rfl _ _ _ _ rfl _ _ rfl rfl _ _ K1.out ?_)
        refine (HO.out _ _ H2.out.2).mono ?_
        rintro e w3 ⟨rfl, b3⟩
        have H3 := Lib.hid (H2.out.1.trans b3)
        clear b3
        go_wp2_with fail
        refine (HLV.out _).mono ?_
        rintro e w4 ⟨rfl, b4⟩
        have H4 := Lib.hid (H3.out.trans b4)
        clear b4
        go_wp2_with fail
        go_ret
        exact ⟨rfl, H4.out⟩
end Go.Proofs.Ytcbcbblclpongaa
