/- runs, the program: Tidy of any runs. -/
import Derived.Test.YtimplngemjdodaaDoorRunQ
namespace Go.Proofs.YtimplngemjdodaaDoor
set_option linter.unusedSimpArgs false
set_option linter.unusedVariables false
set_option linter.unusedSectionVars false
open Go.RowKit

theorem orn_nil (w : World) (B : Nat) : ORn w B (.slice none 0 0) [] := ⟨rfl, .inl ⟨rfl, rfl⟩⟩
/-- the last of a row of the call's own runs: where it lies, both its cells, that it may grow -/
theorem ORn.last2 {w : World} {B m : Nat} {v : Value} {l : Runs} (o : ORn w B v l) (hn : l.length = m + 1) :
    ∃ g cap t s, v = .slice (some ⟨g, 0, none⟩) (m + 1) cap ∧ B ≤ g ∧ g < w.heap.size ∧ w.cell? ⟨g, m * 2, none⟩ = some (.int .i64 t) ∧ w.cell? ⟨g, m * 2 + 1, none⟩ = some (.int .i64 s) ∧ l[m]? = some (t, s) ∧ w.frozen? ⟨g, m * 2, none⟩ = false ∧
    ∀ x : Int, ORn (w.setCell ⟨g, m * 2, none⟩ (.int .i64 x)) B (.slice (some ⟨g, 0, none⟩) (m + 1) cap) (l.modify m fun b => (x, b.2)) := by
  obtain ⟨g, cap, t, rfl, h1, h2, h3, ⟨s, h4⟩, h5, h6⟩ := o.last hn
  obtain ⟨A, c2, e, k1, k2⟩ := o.reads
  obtain ⟨b, off, e2, hb, hc⟩ := k2 (by omega)
  rw [hn] at e
  cases e
  cases e2
  have hm : m < l.length := by omega
  have e4 : l[m] = (t, s) := by rw [List.getElem?_eq_getElem hm] at h4; exact Option.some.inj h4
  have q := (hc m hm).2
  rw [Nat.zero_add, e4] at q
  exact ⟨g, cap, t, s, rfl, h1, h2, h3, q, h4, h5, h6⟩
theorem getLast_at {l : Runs} {m : Nat} {q : Int × Int} (hn : l.length = m + 1) (h : l[m]? = some q) : l.getLast? = some q := by
  rw [List.getLast?_eq_getElem?, hn]; exact h
set_option maxRecDepth 100000 in
set_option maxHeartbeats 3200000 in
theorem ptidy_some (b off n cap c : Nat) (l : Runs) (w : World) (hcc : (sR l).length = c) (hc0 : c ≠ 0) (hl : l.length = n) (hn : n ≤ 90000) (hN : NumsR l) (hb : b < w.heap.size) (hc : ∀ (j : Nat) (h : j < l.length), w.cell? ⟨b, off + j * 2, none⟩ = some (.int .i64 l[j].1) ∧ w.cell? ⟨b, off + j * 2 + 1, none⟩ = some (.int .i64 l[j].2)) :
    Calls Tryd.prog 49 #[.slice (some ⟨b, off, none⟩) n cap] w (RowN w (tidyR l)) := by
  have hs : (stylesR l).length ≤ 16777216 := by
    rcases Nat.lt_or_ge 16777216 (stylesR l).length with h | h
    · exact absurd (by rw [← hcc]; unfold sR; rw [if_neg (by omega)]; rfl) hc0
    · exact h
  have HLen := Lib.hid (plen_some b off n cap l w c hcc hl hn hN hb hc)
  have HL := Lib.hid hl
  have HC := Lib.hid hc
  have HTD : Hid (tidyR l = ofR (stylesR l)) := Lib.hid (by unfold tidyR; rw [sR_small hs])
  have HS0 : Hid (∀ j, (stylesR (l.take j)).length ≤ 16777216) := Lib.hid (fun j => Nat.le_trans (styles_le l j) hs)
  have HTL := Lib.hid (ofR_take_le l)
  have HNN := Lib.hid hN
  clear hl hc hcc hN hs
  have d0 : ((c : Int) == 0) = false := by simpa using hc0
  have HW0 := Lib.hid (AnyLater.refl w)
  go_enter Tryd.func49, Tryd.ntmps49
  go_wp2_with (go_at_call 46; refine HLen.out.mono ?_; rintro e w0 ⟨rfl, b0⟩; have HB0 := Lib.hid (And.intro b0 (Nat.lt_of_lt_of_le hb b0.below.size)); clear b0)
  go_loopg [3, 12] n (fun k v i wr => ∃ j : Nat, k = n - j ∧ j ≤ n ∧ i = .int .i64 j ∧ AnyLater w wr ∧ ORn wr w.heap.size v (ofR (stylesR (l.take j))))
  case atStart => exact ⟨0, by omega, by omega, rfl, HB0.out.1, orn_nil _ _⟩
  case round =>
    obtain ⟨j, hk, hj, rfl, ha, ho⟩ := hrel
    have HA := Lib.hid (And.intro ha ho)
    by_cases hlt : j < n
    · have lj : j < l.length := by rw [HL.out]; exact hlt
      have c0 : wr.cell? ⟨b, off + j * 2, none⟩ = some (.int .i64 l[j].1) := (ha.below.cell hb).trans (HC.out j lj).1
      have c1 : wr.cell? ⟨b, off + j * 2 + 1, none⟩ = some (.int .i64 l[j].2) := (ha.below.cell hb).trans (HC.out j lj).2
      have HS := Lib.hid (styles_take lj)
      have hx := HNN.out l[j] (List.getElem_mem lj)
      generalize l[j] = x at *
      obtain ⟨f, s⟩ := x
      simp only at c0 c1 hx HS
      have HLJ : Hid ((ofR (stylesR (l.take j))).length ≤ j) := Lib.hid (HTL.out j (Nat.le_of_lt lj))
      have HA0 := Lib.hid ((AnyLater.refl wr).alloc (.cells #[.int .i64 f, .int .i64 s] 48))
      cases hf : fairR (f, s) with
      | true =>
        have HF := Lib.hid (fun w => kept_any f s w true hf hx.1 hx.2)
        obtain ⟨f1, f2, _⟩ := fairR_in hf
        simp only at f1 f2
        have HE : Hid (ofR (stylesR (l.take (j + 1))) = addR (ofR (stylesR (l.take j))) (f, s)) := Lib.hid (by rw [HS.out, ofR_step hf])
        have HBND := Lib.hid (ofR_le (stylesR (l.take j)))
        have HS1 := Lib.hid (HS0.out j)
        clear hf hx
        generalize ofR (stylesR (l.take j)) = m at *
        cases hm : m.length with
        | zero =>
          obtain rfl := List.eq_nil_of_length_eq_zero hm
          obtain ⟨A, cb, rfl, _, _⟩ := ho.reads
          have HE2 : Hid (addR [] (f, s) = [] ++ [(f, s)]) := Lib.hid rfl
          clear ha ho
          go_wp2_with (go_at_call 48; refine (HF.out _).mono ?_; rintro e w1 ⟨rfl, b1⟩; obtain ⟨e0, e1⟩ := box_cells b1; have b2 := HA0.out.trans b1; have HA1 := Lib.hid (And.intro (HA.out.1.trans b2) (HA.out.2.later b2)); clear b1 b2)
          go_quiet (fail)
          have b1 : AnyLater w1 (w1.drewN nq) := (AnyLater.refl w1).drewN nq
          obtain ⟨u, w2, k1, k2, k3⟩ := appRun (f, s) (HA1.out.2.later b1) (HA1.out.1.trans b1).below.size (by have := HLJ.out; omega)
          have K1 := Lib.hid k1
          have HB := Lib.hid (And.intro (k3 w (Nat.le_refl _) (HA1.out.1.trans b1)) k2)
          clear k1 k2 k3 b1
          go_wp2_with (at_builtin; refine Lib.wpList_append_run _ rfl _ _ _ _ rfl _ _ rfl rfl _ _ K1.out ?_)
          go_roundg (n - (j + 1))
          case measure => omega
          case rel => exact ⟨j + 1, rfl, hlt, by go_num, HB.out.1, by rw [HE.out, HE2.out]; exact HB.out.2⟩
        | succ i =>
          have hi : i < 90000 := by have := HLJ.out; omega
          obtain ⟨g, cb, t, t2, rfl, hB, hg, _, _, hs, _, _⟩ := ho.last2 hm
          have hbnd := HBND.out _ (List.mem_of_getElem? hs)
          simp only at hbnd
          obtain ⟨t0, t1⟩ := hbnd
          have ht : t ≤ 16777216 := by have := HS1.out; omega
          have HQ := Lib.hid (And.intro hm hs)
          clear ha ho hm hs HBND t1
          by_cases he : t2 = s
          · subst he
            have HE2 : Hid (addR m (f, t2) = m.modify i fun b => (t + f, b.2)) := Lib.hid (addR_grow f t2 t i m HQ.out.1 HQ.out.2)
            go_wp2_with (go_at_call 48; refine (HF.out _).mono ?_; rintro e w1 ⟨rfl, b1⟩; obtain ⟨e0, e1⟩ := box_cells b1; have b2 := HA0.out.trans b1; have HA1 := Lib.hid (And.intro (HA.out.1.trans b2) (HA.out.2.later b2)); clear b1 b2)
            obtain ⟨g2, cb2, t3, t4, q1, _, _, g0, g1, q2, f0, q3⟩ := HA1.out.2.last2 HQ.out.1
            cases q1
            obtain ⟨rfl, rfl⟩ : t3 = t ∧ t4 = t2 := by
              rw [HQ.out.2] at q2
              cases q2
              exact ⟨rfl, rfl⟩
            have HO2 := Lib.hid q3
            clear q2 q3
            go_quiet (fail)
            go_wp2_with fail
            go_region
            go_wp2_with fail
            go_roundg (n - (j + 1))
            case measure => omega
            case rel =>
              have b3 : AnyLater w1 (w1.drewN (nq + 1)) := (AnyLater.refl w1).drewN (nq + 1)
              obtain ⟨_, _, _, _, q1, q2, _, _, _, _, _, q3⟩ := (HA1.out.2.later b3).last2 HQ.out.1
              cases q1
              exact ⟨j + 1, rfl, hlt, by go_num, (HA1.out.1.trans b3).setCell (p := ⟨g, i * 2, none⟩) q2 _, by rw [HE.out, HE2.out]; exact q3 (t3 + f)⟩
          · have he' : (t2 == s) = false := by simpa using he
            have HE2 : Hid (addR m (f, s) = m ++ [(f, s)]) := Lib.hid (addR_new (f, s) m (fun q hq => by
              rw [getLast_at HQ.out.1 HQ.out.2] at hq
              cases hq
              exact he))
            go_wp2_with (go_at_call 48; refine (HF.out _).mono ?_; rintro e w1 ⟨rfl, b1⟩; obtain ⟨e0, e1⟩ := box_cells b1; have b2 := HA0.out.trans b1; have HA1 := Lib.hid (And.intro (HA.out.1.trans b2) (HA.out.2.later b2)); clear b1 b2)
            obtain ⟨g2, cb2, t3, t4, q1, _, _, g0, g1, q2, f0, q3⟩ := HA1.out.2.last2 HQ.out.1
            cases q1
            obtain ⟨rfl, rfl⟩ : t3 = t ∧ t4 = t2 := by
              rw [HQ.out.2] at q2
              cases q2
              exact ⟨rfl, rfl⟩
            clear q2 q3
            go_quiet (fail)
            have b1 : AnyLater w1 (w1.drewN nq) := (AnyLater.refl w1).drewN nq
            obtain ⟨u, w2, k1, k2, k3⟩ := appRun (f, s) (HA1.out.2.later b1) (HA1.out.1.trans b1).below.size (by have := HLJ.out; omega)
            have K1 := Lib.hid k1
            have HB := Lib.hid (And.intro (k3 w (Nat.le_refl _) (HA1.out.1.trans b1)) k2)
            clear k1 k2 k3 b1
            go_wp2_with (at_builtin; refine Lib.wpList_append_run _ rfl _ _ _ _ rfl _ _ rfl rfl _ _ K1.out ?_)
            go_roundg (n - (j + 1))
            case measure => omega
            case rel => exact ⟨j + 1, rfl, hlt, by go_num, HB.out.1, by rw [HE.out, HE2.out]; exact HB.out.2⟩
      | false =>
        have HF := Lib.hid (fun w => kept_any f s w false hf hx.1 hx.2)
        have HE : Hid (stylesR (l.take (j + 1)) = stylesR (l.take j)) := Lib.hid (by rw [HS.out, oneR_no hf, List.append_nil])
        clear hf hx ha ho
        go_wp2_with (go_at_call 48; refine (HF.out _).mono ?_; rintro e w1 ⟨rfl, b1⟩; have b2 := HA0.out.trans b1; have HA1 := Lib.hid (And.intro (HA.out.1.trans b2) (HA.out.2.later b2)); clear b1 b2)
        go_roundg (n - (j + 1))
        case measure => omega
        case rel => exact ⟨j + 1, rfl, hlt, by go_num, HA1.out.1, by rw [HE.out]; exact HA1.out.2⟩
    · obtain rfl : j = n := by omega
      clear ha ho
      go_wp2_with fail
      go_ret
      exact ⟨_, rfl, HA.out.1, by have := HA.out.2; rw [HTD.out]; rwa [List.take_of_length_le (Nat.le_of_eq HL.out)] at this⟩
theorem ptidy_zero (v : Value) (l : Runs) (w : World) (hcc : (sR l).length = 0) (hv : RRn w v l) (hN : NumsR l) (hn : l.length ≤ 90000) : Calls Tryd.prog 49 #[v] w (RowN w (tidyR l)) := by
  have HLen := Lib.hid (plen_any v l w 0 hcc hv hN hn)
  have HTD : Hid (tidyR l = []) := Lib.hid (by unfold tidyR; rw [List.eq_nil_of_length_eq_zero hcc]; rfl)
  clear hcc hv hN hn
  go_enter Tryd.func49, Tryd.ntmps49
  go_wp2_with (go_at_call 46; refine HLen.out.mono ?_; rintro e w0 ⟨rfl, b0⟩; have HB0 := Lib.hid b0; clear b0)
  go_ret
  exact ⟨_, rfl, HB0.out, by rw [HTD.out]; exact orn_nil _ _⟩
/-- Tidy of any runs -/
theorem ptidy_any (v : Value) (l : Runs) (w : World) (h : RRn w v l) (hN : NumsR l) (hn : l.length ≤ 90000) : Calls Tryd.prog 49 #[v] w (RowN w (tidyR l)) := by
  by_cases h0 : (sR l).length = 0
  · exact ptidy_zero v l w h0 h hN hn
  · obtain ⟨A, cap, rfl, h2, h3⟩ := h
    rcases Nat.eq_zero_or_pos l.length with h1 | h1
    · obtain rfl := List.eq_nil_of_length_eq_zero h1
      exact absurd rfl h0
    · obtain ⟨b, off, rfl, hb, hcc⟩ := h3 h1
      exact ptidy_some b off _ cap _ l w rfl h0 rfl hn hN hb hcc
end Go.Proofs.YtimplngemjdodaaDoor
