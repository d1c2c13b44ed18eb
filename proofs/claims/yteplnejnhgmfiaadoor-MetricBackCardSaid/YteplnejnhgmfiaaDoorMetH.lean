/- metric: apart and Gap, places and Places: by contract. -/
import Derived.Test.YteplnejnhgmfiaaDoorMetE
namespace Go.Proofs.YteplnejnhgmfiaaDoor
set_option linter.unusedSimpArgs false
set_option linter.unusedVariables false
set_option linter.unusedSectionVars false
open Go.RowKit

theorem mrun_max {P : Program} (w : World) (ts : Array TypeId) (t : TypeId) (p q : Int) : (Builtin.max_ ts t #[.int .i64 p, .int .i64 q]).run P w = .ok (.int .i64 (max p q)) w := by
  rw [run_max_int2]
  split
  · rw [Int.max_eq_right (by omega)]
  · rw [Int.max_eq_left (by omega)]
theorem wrap_gap {x y : Int} (h : y ≤ x) (hx : I64s x) (hy : I64s y) : IntKind.u64.wrap (IntKind.u64.wrap x - IntKind.u64.wrap y) = x - y := by
  obtain ⟨h1, h2⟩ := hx
  obtain ⟨h3, h4⟩ := hy
  rw [IntKind.wrap_u64, IntKind.wrap_u64, IntKind.wrap_u64]
  omega
set_option maxRecDepth 100000 in
theorem mapart_any (a b : Int) (w : World) (c : Int) (hc : gapZ a b = c) (ha : I64s a) (hb : I64s b) : Calls Tryd.prog 41 #[.int .i64 a, .int .i64 b] w fun e w' => e = .returned (.int .u64 c) ∧ w = w' := by
  have hmx := mrun_max (P := Tryd.prog)
  have hmn := mrun_min (P := Tryd.prog)
  have HC : Hid (IntKind.u64.wrap (IntKind.u64.wrap (max a b) - IntKind.u64.wrap (min a b)) = c) := Lib.hid (by
    rw [← hc]
    unfold gapZ
    split
    · rw [Int.max_eq_left (by omega), Int.min_eq_right (by omega), wrap_gap (by omega) ha hb]
    · rw [Int.max_eq_right (by omega), Int.min_eq_left (by omega), wrap_gap (by omega) hb ha])
  obtain ⟨a1, a2⟩ := ha
  obtain ⟨b1, b2⟩ := hb
  clear hc
  go_enter Tryd.func41, Tryd.ntmps41
  go_wp2_with fail
  go_ret
  exact ⟨ret_int HC.out, rfl⟩
set_option maxRecDepth 100000 in
theorem xgap_any (a b : Int) (w : World) (c : Int) (hc : gapZ a b = c) (ha : I64s a) (hb : I64s b) : Calls Tryd.prog 42 #[.int .i64 a, .int .i64 b] w fun e w' => e = .returned (.int .u64 c) ∧ w = w' := by
  by_cases q : b < a
  · have HC : Hid (IntKind.u64.wrap (IntKind.u64.wrap a - IntKind.u64.wrap b) = c) := Lib.hid (by
      rw [← hc]
      unfold gapZ
      rw [if_pos q, wrap_gap (by omega) ha hb])
    obtain ⟨a1, a2⟩ := ha
    obtain ⟨b1, b2⟩ := hb
    clear hc
    go_enter Tryd.func42, Tryd.ntmps42
    go_wp2_with fail
    go_ret
    exact ⟨ret_int HC.out, rfl⟩
  · have HC : Hid (IntKind.u64.wrap (IntKind.u64.wrap b - IntKind.u64.wrap a) = c) := Lib.hid (by
      rw [← hc]
      unfold gapZ
      rw [if_neg q, wrap_gap (by omega) hb ha])
    have q2 : decide (b < a) = false := decide_eq_false q
    obtain ⟨a1, a2⟩ := ha
    obtain ⟨b1, b2⟩ := hb
    clear hc
    go_enter Tryd.func42, Tryd.ntmps42
    go_wp2_with fail
    go_ret
    exact ⟨ret_int HC.out, rfl⟩

/-! ### the places of a row -/
theorem atsL_take {r : Ld} {j : Nat} (h : j < r.cs.length) : (r.cs.map (·.1)).take (j + 1) = (r.cs.map (·.1)).take j ++ [r.cs[j].1] := by
  rw [List.take_succ_eq_append_getElem (by rw [List.length_map]; exact h), List.getElem_map]
set_option maxRecDepth 100000 in
set_option maxHeartbeats 1600000 in
theorem mplaces_any (a1 a2 : Option Addr) (k1 k2 : Nat) (r : Ld) (w : World) (hc : FR celF w (.slice a1 r.cs.length k1) r.cs) (hn : r.cs.length ≤ 1000) (hx : r.xs.length ≤ 100000) :
    Calls Tryd.prog 40 #[.agg #[.slice a1 r.cs.length k1, .slice a2 r.xs.length k2, .int .i64 r.up, .int .i64 r.dn, .int .i64 r.fr, .int .i64 r.en, .bool r.la]] w fun e w' => ∃ A cap, e = .returned (.slice A (placesL r).length cap) ∧ AnyLater w w' ∧ RI w' (.slice A (placesL r).length cap) (placesL r) := by
  have HV := Lib.hid hc
  obtain ⟨n, hnn⟩ : ∃ n, r.cs.length = n := ⟨_, rfl⟩
  have HN := Lib.hid hnn
  obtain ⟨n2, hn2⟩ : ∃ n2, r.xs.length = n2 := ⟨_, rfl⟩
  have HN2 := Lib.hid hn2
  rw [hnn] at hn HV
  rw [hn2] at hx
  have hcap : n ≤ k1 := by obtain ⟨_, _, e, he⟩ := hc.form; cases e; omega
  obtain ⟨ats, hats⟩ : ∃ ats, r.cs.map (·.1) = ats := ⟨_, rfl⟩
  have HATS := Lib.hid hats
  have hal : ats.length = n := by rw [← hats, List.length_map, hnn]
  have HAL := Lib.hid hal
  have hmn : ∀ (w : World) (ts : Array TypeId) (t : TypeId) (p q : Nat), (Builtin.min_ ts t #[.int .i64 (p : Int), .int .i64 (q : Int)]).run Tryd.prog w = .ok (.int .i64 ((min p q : Nat) : Int)) w := fun w ts t p q => by
    rw [mrun_min]; congr 2; omega
  obtain ⟨la, hla⟩ : ∃ la, r.la = la := ⟨_, rfl⟩
  have HLA := Lib.hid hla
  rw [hnn, hn2, hla]
  clear hc hnn hn2 hats hal hla
  go_enter Tryd.func40, Tryd.ntmps40
  go_wp2_with fail
  first | refine settle_wp (fun wS => AnyLater w wS ∧ wS.heap[w.heap.size]? = some (.cells #[.slice a1 n k1, .slice a2 n2 k2, .int .i64 r.up, .int .i64 r.dn, .int .i64 r.fr, .int .i64 r.en, .bool la] 43)) ?_ ?_ | refine settle_calls (fun wS => AnyLater w wS ∧ wS.heap[w.heap.size]? = some (.cells #[.slice a1 n k1, .slice a2 n2 k2, .int .i64 r.up, .int .i64 r.dn, .int .i64 r.fr, .int .i64 r.en, .bool la] 43)) ?_ ?_
  · refine ⟨?_, ?_⟩
    · repeat' (first | with_reducible assumption | with_reducible exact AnyLater.refl _ | with_reducible apply AnyLater.setCell | with_reducible apply AnyLater.later | with_reducible apply AnyLater.drewN | with_reducible apply AnyLater.drew | with_reducible apply AnyLater.alloc | ((try simp only [World.size_alloc, World.size_setCell, World.size_drew]); (try dsimp only); omega))
    · ((repeat (first | with_reducible assumption | ((with_reducible apply heap_new); (try simp only [World.size_alloc, World.size_setCell, World.size_drew, World.heap_drewN]); done) | ((with_reducible apply heap_new); (try simp only [World.size_alloc, World.size_setCell, World.size_drew, World.heap_drewN]); omega) | (with_reducible refine heap_old (by (try simp only [World.size_alloc, World.size_setCell, World.size_drew, World.heap_drewN]); omega) ?_) | (with_reducible refine heap_drew ?_) | (with_reducible refine heap_far (by omega) ?_) | (with_reducible apply heap_at))); all_goals rfl)
  rintro w1 ⟨b_w1, s0_w1⟩
  have a_w1 := b_w1
  have r0_w1 := own_row s0_w1
  have f0_w1 := own_free s0_w1
  have l0_w1 := own_lt s0_w1
  have z_w1 := b_w1.below.size
  go_wp2_with fail
  go_loopg [3, 9] n (fun kk sv iv wr => AnyLater w1 wr ∧ ∃ j : Nat, kk = n - j ∧ j ≤ n ∧ iv = .int .i64 j ∧ ON .i64 3 wr w1.heap.size sv (ats.take j))
  case atStart => exact ⟨AnyLater.refl _, 0, by omega, by omega, rfl, rfl, .inl ⟨rfl, rfl⟩⟩
  case round =>
    obtain ⟨a_wr, j, hk, hj, rfl, ho⟩ := hrel
    have HA := Lib.hid a_wr
    have HO := Lib.hid ho
    obtain ⟨A3, c3, rfl, h3⟩ := ho.form
    have hlen : (ats.take j).length = j := by rw [List.length_take, HAL.out]; omega
    rw [hlen] at HO h3 ⊢
    clear ho
    by_cases hlt : j < n
    · have lj : j < r.cs.length := by rw [HN.out]; exact hlt
      have i0 : (j : Int) < (n : Int) := by omega
      obtain ⟨b, off, rfl, hb, c0, c1, c2, c3⟩ := celAt (HV.out.later (b_w1.trans a_wr)) j lj
      have HT := Lib.hid (atsL_take lj)
      rw [HATS.out] at HT
      generalize r.cs[j] = cel at *
      obtain ⟨ca, cn, cr, cs⟩ := cel
      simp only at c0 c1 c2 c3 HT
      have aB := (AnyLater.refl wr).alloc (.cells #[.int .i64 ca, .int .i64 cn, .int .i32 cr, .int .i64 cs] 63)
      have HAB := Lib.hid (HA.out.trans aB)
      have HOB := Lib.hid (ON.later aB HO.out)
      obtain ⟨u2, w4, q1, q2, q3⟩ := appI ca HOB.out HAB.out.below.size (by rw [hlen]; omega)
      rw [World.size_alloc] at q1
      have K1 := Lib.hid q1
      have K2 : Hid (ON .i64 3 w4 w1.heap.size u2 (ats.take (j + 1))) := Lib.hid (by rw [HT.out]; exact q2)
      have K3 := Lib.hid (q3 w1 (Nat.le_refl _) HAB.out)
      clear q1 q2 q3 aB a_wr hlen
      go_wp2_with (at_builtin; refine Lib.wpList_append_run _ rfl _ _ _ _ rfl _ _ rfl rfl _ _ K1.out ?_)
      go_roundg (n - (j + 1))
      case measure => omega
      case rel => exact ⟨K3.out, j + 1, rfl, by omega, by go_num, K2.out⟩
    · obtain rfl : j = n := by omega
      have s0_wr := any_own HA.out s0_w1
      have r0_wr := own_row s0_wr
      have HE : Hid (ats.take j = ats) := Lib.hid (List.take_of_length_le (by rw [HAL.out]; exact Nat.le_refl _))
      rw [HE.out] at HO
      have hx2 : r.xs.length ≤ 100000 := by rw [HN2.out]; exact hx
      have HW := Lib.hid (b_w1.trans HA.out)
      clear a_wr hlen
      cases la with
      | false =>
        have HP : Hid (placesL r = ats.take (min j n2) ∧ (placesL r).length = min j n2) := Lib.hid (by
          have e : placesL r = ats.take (min j n2) := by
            unfold placesL atsL
            rw [HLA.out, HATS.out, HN2.out, if_neg (by decide), List.append_nil, Nat.min_comm, ← HAL.out, ← List.take_eq_take_min]
          exact ⟨e, by rw [e, List.length_take, HAL.out]; omega⟩)
        obtain ⟨A5, c5, h5, hcut⟩ := RN.uptoI HO.out.rn (min j n2) (by rw [HAL.out]; omega)
        have H5 := Lib.hid h5
        obtain ⟨m, hm⟩ : ∃ m, min j n2 = m := ⟨_, rfl⟩
        have hmn2 := fun w ts t => hmn w ts t j n2
        rw [hm] at H5 HP hcut hmn2
        clear h5 hmn hm
        go_wp2_with fail
        go_ret
        exact ⟨A5, c5, by rw [HP.out.2]; rfl, HW.out, by rw [HP.out.2, HP.out.1]; exact H5.out⟩
      | true =>
        have HP : Hid (placesL r = (ats ++ [r.en]).take (min (j + 1) n2) ∧ (placesL r).length = min (j + 1) n2) := Lib.hid (by
          have hl1 : (ats ++ [r.en]).length = j + 1 := by rw [List.length_append, HAL.out]; rfl
          have e : placesL r = (ats ++ [r.en]).take (min (j + 1) n2) := by
            unfold placesL atsL
            rw [HLA.out, HATS.out, HN2.out, if_pos rfl, Nat.min_comm, ← hl1, ← List.take_eq_take_min]
          exact ⟨e, by rw [e, List.length_take, hl1]; omega⟩)
        obtain ⟨u2, w4, q1, q2, q3⟩ := appI r.en HO.out HA.out.below.size (by rw [HAL.out]; omega)
        have hl1 : (ats ++ [r.en]).length = j + 1 := by rw [List.length_append, HAL.out]; rfl
        obtain ⟨A4, c4, rfl, -⟩ := q2.form
        obtain ⟨A5, c5, h5, hcut⟩ := RN.uptoI q2.rn (min (j + 1) n2) (by rw [hl1]; omega)
        have H5 := Lib.hid h5
        have K3 := q3 w1 (Nat.le_refl _) HA.out
        have s0_w4 := any_own K3 s0_w1
        have r0_w4 := own_row s0_w4
        have HW4 := Lib.hid (b_w1.trans K3)
        obtain ⟨m, hm⟩ : ∃ m, min (j + 1) n2 = m := ⟨_, rfl⟩
        have hmn2 : ∀ w ts t, (Builtin.min_ ts t #[.int .i64 ((j : Int) + 1), .int .i64 (n2 : Int)]).run Tryd.prog w = .ok (.int .i64 ((min (j + 1) n2 : Nat) : Int)) w := fun w ts t => hmn w ts t (j + 1) n2
        rw [hl1] at q1 hcut
        rw [hm] at H5 HP hcut hmn2
        have K1 := Lib.hid q1
        clear h5 hmn hm q1 q2 q3 K3 hl1
        go_wp2_with (at_builtin; refine Lib.wpList_append_run _ rfl _ _ _ _ rfl _ _ rfl rfl _ _ K1.out ?_)
        go_ret
        exact ⟨A5, c5, by rw [HP.out.2]; rfl, HW4.out, by rw [HP.out.2, HP.out.1]; exact H5.out⟩
end Go.Proofs.YteplnejnhgmfiaaDoor
