/- metric: Near, by contract. -/
import Derived.Test.YteplnejnhgmfiaaDoorMetH
import Derived.BigGuardPart
namespace Go.Proofs.YteplnejnhgmfiaaDoor
set_option linter.unusedSimpArgs false
set_option linter.unusedVariables false
set_option linter.unusedSectionVars false
open Go.RowKit

theorem nbest_succ (P X : List Int) (x : Int) (k : Nat) : nbest P X x (k + 1) = if gapZ (X.getD (k + 1) 0) x < gapZ (X.getD (nbest P X x k) 0) x ∨ gapZ (X.getD (k + 1) 0) x = gapZ (X.getD (nbest P X x k) 0) x ∧ P.getD (k + 1) 0 < P.getD (nbest P X x k) 0 then k + 1 else nbest P X x k := rfl
/-- what Near holds behind j places: the nearest one, and how far it is -/
def nearAt (r : Ld) (x : Int) : Nat → Int × Int
  | 0 => (r.fr, 0)
  | j + 1 => ((placesL r).getD (nbest (placesL r) r.xs x j) 0, gapZ (r.xs.getD (nbest (placesL r) r.xs x j) 0) x)
theorem nearAt_fin (r : Ld) (x : Int) : (nearAt r x (placesL r).length).1 = nearL r x := by
  unfold nearL
  cases h : (placesL r).length with
  | zero => rw [if_pos rfl]; rfl
  | succ j => rw [if_neg (by omega), Nat.add_sub_cancel]; rfl
theorem nearAt_zero (r : Ld) (x : Int) : nearAt r x 1 = ((placesL r).getD 0 0, gapZ (r.xs.getD 0 0) x) := rfl
/-- one more place -/
theorem nearAt_step (r : Ld) (x : Int) {j : Nat} (hj : 0 < j) : nearAt r x (j + 1) = if gapZ (r.xs.getD j 0) x < (nearAt r x j).2 ∨ gapZ (r.xs.getD j 0) x = (nearAt r x j).2 ∧ (placesL r).getD j 0 < (nearAt r x j).1 then ((placesL r).getD j 0, gapZ (r.xs.getD j 0) x) else nearAt r x j := by
  obtain ⟨k, rfl⟩ : ∃ k, j = k + 1 := ⟨j - 1, by omega⟩
  show ((placesL r).getD (nbest (placesL r) r.xs x (k + 1)) 0, gapZ (r.xs.getD (nbest (placesL r) r.xs x (k + 1)) 0) x) = _
  rw [nbest_succ]
  show _ = if gapZ (r.xs.getD (k + 1) 0) x < gapZ (r.xs.getD (nbest (placesL r) r.xs x k) 0) x ∨ gapZ (r.xs.getD (k + 1) 0) x = gapZ (r.xs.getD (nbest (placesL r) r.xs x k) 0) x ∧ (placesL r).getD (k + 1) 0 < (placesL r).getD (nbest (placesL r) r.xs x k) 0 then _ else ((placesL r).getD (nbest (placesL r) r.xs x k) 0, gapZ (r.xs.getD (nbest (placesL r) r.xs x k) 0) x)
  split <;> rfl
theorem placesL_ok {r : Ld} (h : LdOk r) : ∀ p ∈ placesL r, I64s p := by
  intro p hp
  have hp := List.mem_of_mem_take hp
  unfold atsL at hp
  rcases List.mem_append.1 hp with hp | hp
  · obtain ⟨c, hc, rfl⟩ := List.mem_map.1 hp
    exact (h.2.1 c hc).1
  · split at hp
    · obtain rfl := List.mem_singleton.1 hp
      exact h.1.2.2.2
    · cases hp
theorem getD_ok {l : List Int} (h : ∀ x ∈ l, I64s x) (j : Nat) : I64s (l.getD j 0) := by
  rw [List.getD_eq_getElem?_getD]
  rcases hq : l[j]? with _ | x
  · constructor <;> simp
  · exact h x (List.mem_of_getElem? hq)
theorem getD_at {l : List Int} {j : Nat} (h : j < l.length) : l.getD j 0 = l[j] := by
  rw [List.getD_eq_getElem?_getD, List.getElem?_eq_getElem h]; rfl
theorem nearAt_ok {r : Ld} {x : Int} (h : LdOk r) (hx : I64s x) (j : Nat) : I64s (nearAt r x j).1 ∧ 0 ≤ (nearAt r x j).2 ∧ (nearAt r x j).2 ≤ 18446744073709551615 := by
  cases j with
  | zero => exact ⟨h.1.2.2.1, Int.le_refl _, by show (0 : Int) ≤ _; omega⟩
  | succ j => exact ⟨getD_ok (placesL_ok h) _, gapZ_in (getD_ok h.2.2 _) hx⟩
set_option maxRecDepth 100000 in
set_option maxHeartbeats 1600000 in
theorem mnear_any (a1 a2 : Option Addr) (k1 k2 : Nat) (r : Ld) (x : Int) (w : World) (c : Int) (hcc : nearL r x = c) (hc : FR celF w (.slice a1 r.cs.length k1) r.cs) (hxs : RI w (.slice a2 r.xs.length k2) r.xs) (hok : LdOk r) (hn : r.cs.length ≤ 1000) (hl : r.xs.length ≤ 100000) (hx : I64s x) :
    Calls Tryd.prog 22 #[.agg #[.slice a1 r.cs.length k1, .slice a2 r.xs.length k2, .int .i64 r.up, .int .i64 r.dn, .int .i64 r.fr, .int .i64 r.en, .bool r.la], .int .i64 x] w fun e w' => e = .returned (.int .i64 c) ∧ AnyLater w w' := by
  have HPL := Lib.hid (fun w1 (a : AnyLater w w1) => mplaces_any a1 a2 k1 k2 r w1 (hc.later a) hn hl)
  have HX := Lib.hid hxs
  have HOK := Lib.hid (fun j => nearAt_ok hok hx j)
  have HPO := Lib.hid (fun j => getD_ok (placesL_ok hok) j)
  have HXO := Lib.hid (fun j => getD_ok hok.2.2 j)
  have HG := Lib.hid (fun j w => mapart_any (r.xs.getD j 0) x w _ rfl (getD_ok hok.2.2 j) hx)
  have HGI := Lib.hid (fun j => gapZ_in (getD_ok hok.2.2 j) hx)
  obtain ⟨n, hnn⟩ : ∃ n, r.cs.length = n := ⟨_, rfl⟩
  obtain ⟨n2, hn2⟩ : ∃ n2, r.xs.length = n2 := ⟨_, rfl⟩
  have HN2 := Lib.hid hn2
  obtain ⟨m, hm⟩ : ∃ m, (placesL r).length = m := ⟨_, rfl⟩
  have HM := Lib.hid hm
  have hm2 := (placesL_len r).1
  have HF : Hid ((nearAt r x m).1 = c) := Lib.hid (by rw [← hm, nearAt_fin, hcc])
  rw [hn2] at HX HPL hl hm2
  rw [hnn] at HPL
  rw [hm] at HPL hm2
  rw [hnn, hn2]
  obtain ⟨x1, x2⟩ := hx
  obtain ⟨⟨-, -, ⟨f1, f2⟩, -⟩, -⟩ := hok
  clear hc hxs hnn hn2 hm hcc
  go_enter Tryd.func22, Tryd.ntmps22
  go_wp2_with fail
  first | refine settle_wp (fun wS => AnyLater w wS ∧ wS.heap[w.heap.size]? = some (.cells #[.slice a1 n k1, .slice a2 n2 k2, .int .i64 r.up, .int .i64 r.dn, .int .i64 r.fr, .int .i64 r.en, .bool r.la] 43)) ?_ ?_ | refine settle_calls (fun wS => AnyLater w wS ∧ wS.heap[w.heap.size]? = some (.cells #[.slice a1 n k1, .slice a2 n2 k2, .int .i64 r.up, .int .i64 r.dn, .int .i64 r.fr, .int .i64 r.en, .bool r.la] 43)) ?_ ?_
  · refine ⟨?_, ?_⟩
    · repeat' (first | with_reducible assumption | with_reducible exact AnyLater.refl _ | with_reducible apply AnyLater.setCell | with_reducible apply AnyLater.later | with_reducible apply AnyLater.drewN | with_reducible apply AnyLater.drew | with_reducible apply AnyLater.alloc | ((try simp only [World.size_alloc, World.size_setCell, World.size_drew]); (try dsimp only); omega))
    · ((repeat (first | with_reducible assumption | ((with_reducible apply heap_new); (try simp only [World.size_alloc, World.size_setCell, World.size_drew, World.heap_drewN]); done) | ((with_reducible apply heap_new); (try simp only [World.size_alloc, World.size_setCell, World.size_drew, World.heap_drewN]); omega) | (with_reducible refine heap_old (by (try simp only [World.size_alloc, World.size_setCell, World.size_drew, World.heap_drewN]); omega) ?_) | (with_reducible refine heap_drew ?_) | (with_reducible refine heap_far (by omega) ?_) | (with_reducible apply heap_at))); all_goals rfl)
  rintro w1 ⟨b_w1, s0_w1⟩
  have a_w1 := b_w1
  have r0_w1 := own_row s0_w1
  have f0_w1 := own_free s0_w1
  have l0_w1 := own_lt s0_w1
  have z_w1 := b_w1.below.size
  go_wp2_with fail
  refine (HPL.out _ b_w1).mono ?_
  rintro e w2 ⟨A, cap, rfl, b_w2, hp⟩
  have s0_w2 := any_own b_w2 s0_w1
  have r0_w2 := own_row s0_w2
  have HP := Lib.hid hp
  have HA2 := Lib.hid (b_w1.trans b_w2)
  clear hp b_w2
  go_wp2_with fail
  go_loopg [5, 6, 15] m (fun kk nv lv iv wr => wr = w2 ∧ ∃ j : Nat, kk = m - j ∧ j ≤ m ∧ iv = .int .i64 j ∧ nv = .int .i64 (nearAt r x j).1 ∧ lv = .int .u64 (nearAt r x j).2)
  case atStart => exact ⟨rfl, 0, by omega, by omega, rfl, rfl, rfl⟩
  case round =>
    obtain ⟨rfl, j, hk, hj, rfl, rfl, rfl⟩ := hrel
    by_cases hlt : j < m
    · have i0 : (j : Int) < (m : Int) := by omega
      have i1 : (j : Int) < (n2 : Int) := by omega
      have lj : j < (placesL r).length := by rw [HM.out]; exact hlt
      have lx : j < r.xs.length := by rw [HN2.out]; omega
      obtain ⟨b, off, rfl, hb, c0⟩ := numAt HP.out j lj
      obtain ⟨b2, off2, rfl, hb2, c1⟩ := numAt (HX.out.later HA2.out) j lx
      rw [← getD_at lj] at c0
      rw [← getD_at lx] at c1
      have HGj := Lib.hid (fun w => HG.out j w)
      obtain ⟨⟨p1, p2⟩, q1, q2⟩ := HOK.out j
      obtain ⟨g1, g2⟩ := HGI.out j
      obtain ⟨t1, t2⟩ := HPO.out j
      obtain ⟨y1, y2⟩ := HXO.out j
      have HST := Lib.hid (fun h => nearAt_step r x (j := j) h)
      obtain ⟨P, hP⟩ : ∃ P, (placesL r).getD j 0 = P := ⟨_, rfl⟩
      obtain ⟨X, hX⟩ : ∃ X, r.xs.getD j 0 = X := ⟨_, rfl⟩
      have HZ : Hid (j = 0 → nearAt r x (j + 1) = (P, gapZ X x)) := Lib.hid (fun h => by subst h; rw [nearAt_zero, hP, hX])
      rw [hP] at c0 t1 t2 HST
      rw [hX] at c1 HGj g1 g2 y1 y2 HST
      obtain ⟨G, hG⟩ : ∃ G, gapZ X x = G := ⟨_, rfl⟩
      rw [hG] at HGj g1 g2 HST HZ
      obtain ⟨na, hna⟩ : ∃ na, (nearAt r x j).1 = na := ⟨_, rfl⟩
      obtain ⟨le, hle⟩ : ∃ le, (nearAt r x j).2 = le := ⟨_, rfl⟩
      have HNA : Hid (nearAt r x j = (na, le)) := Lib.hid (by rw [← hna, ← hle])
      rw [hna, hle] at HST
      rw [hna] at p1 p2 ⊢
      rw [hle] at q1 q2 ⊢
      clear hP hX hG hna hle
      have hway : (((j : Int) == 0) = true ∧ nearAt r x (j + 1) = (P, G)) ∨ (((j : Int) == 0) = false ∧ decide (G < le) = true ∧ nearAt r x (j + 1) = (P, G)) ∨
          (((j : Int) == 0) = false ∧ decide (G < le) = false ∧ (G == le) = true ∧ decide (P < na) = true ∧ nearAt r x (j + 1) = (P, G)) ∨
          (((j : Int) == 0) = false ∧ decide (G < le) = false ∧ (G == le) = true ∧ decide (P < na) = false ∧ nearAt r x (j + 1) = (na, le)) ∨
          (((j : Int) == 0) = false ∧ decide (G < le) = false ∧ (G == le) = false ∧ nearAt r x (j + 1) = (na, le)) := by
        by_cases h0 : j = 0
        · exact .inl ⟨by simp [h0], HZ.out h0⟩
        · have e0 : ((j : Int) == 0) = false := by simpa using h0
          have hst := HST.out (by omega)
          right
          by_cases h1 : G < le
          · rw [if_pos (.inl h1)] at hst
            exact .inl ⟨e0, decide_eq_true h1, hst⟩
          · right
            by_cases h2 : G = le
            · by_cases h3 : P < na
              · rw [if_pos (.inr ⟨h2, h3⟩)] at hst
                exact .inl ⟨e0, decide_eq_false h1, by simpa using h2, decide_eq_true h3, hst⟩
              · rw [if_neg (fun h => h.elim h1 (fun h => h3 h.2)), HNA.out] at hst
                exact .inr (.inl ⟨e0, decide_eq_false h1, by simpa using h2, decide_eq_false h3, hst⟩)
            · rw [if_neg (fun h => h.elim h1 (fun h => h2 h.1)), HNA.out] at hst
              exact .inr (.inr ⟨e0, decide_eq_false h1, by simpa using h2, hst⟩)
      rcases hway with ⟨e0, h⟩ | ⟨e0, e1, h⟩ | ⟨e0, e1, e2, e3, h⟩ | ⟨e0, e1, e2, e3, h⟩ | ⟨e0, e1, e2, h⟩
      all_goals
        have HH := Lib.hid h
        clear h
        go_wp2_with fail
        refine (HGj.out _).mono ?_
        rintro e w3 ⟨rfl, rfl⟩
        go_wp2_with fail
        go_roundg (m - (j + 1))
        case measure => omega
        case rel => exact ⟨rfl, j + 1, rfl, by omega, by go_num, by rw [HH.out], by rw [HH.out]⟩
    · obtain rfl : j = m := by omega
      rw [HF.out]
      go_wp2_with fail
      go_ret
      exact ⟨rfl, HA2.out⟩
end Go.Proofs.YteplnejnhgmfiaaDoor
