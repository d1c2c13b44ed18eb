/- rope: slices.BinarySearch at places; how many line feeds stand ahead in a piece, where one stands, a piece cut: by contract. -/
import Derived.Test.YtiicaldnegcdiaaGreatRopE
import Derived.Deep.LoopGhost
import Derived.BigRegion
namespace Go.Proofs.YtiicaldnegcdiaaGreat
set_option linter.unusedSimpArgs false
set_option linter.unusedVariables false
set_option linter.unusedSectionVars false
open Go.RowKit

theorem below_eq {x : Int} {l : List Int} {k : Nat} (hk : k ≤ l.length) (h1 : ∀ (t : Nat) (h : t < l.length), t < k → l[t] < x) (h2 : ∀ (h : k < l.length), x ≤ l[k]) : below x l = k := by
  have e : l = l.take k ++ l.drop k := (List.take_append_drop k l).symm
  unfold below
  rw [e, List.takeWhile_append_of_pos, List.length_append, List.length_take, Nat.min_eq_left hk]
  · rcases Nat.lt_or_ge k l.length with h | h
    · rw [List.drop_eq_getElem_cons h, List.takeWhile_cons_of_neg (by have := h2 h; simp; omega)]; simp
    · rw [List.drop_of_length_le h]; simp
  · intro y hy
    obtain ⟨t, ht, rfl⟩ := List.getElem_of_mem hy
    rw [List.length_take] at ht
    rw [List.getElem_take]
    have := h1 t (by omega) (by omega)
    simpa using this
theorem cmpNaN (x : Int) (w : World) : Calls Tryz.prog 104 #[.int .i32 x] w fun e w' => e = .returned (.bool false) ∧ w = w' := by
  go_enter Tryz.func104, Tryz.ntmps104
  go_wp2
  go_ret
  exact ⟨ret_bool (by simp), rfl⟩
theorem sliNaN (x : Int) (w : World) : Calls Tryz.prog 95 #[.int .i32 x] w fun e w' => e = .returned (.bool false) ∧ w = w' := by
  go_enter Tryz.func95, Tryz.ntmps95
  go_wp2
  go_ret
  exact ⟨ret_bool (by simp), rfl⟩
theorem rless_any (x y : Int) (c : Bool) (hc : decide (x < y) = c) (w : World) : Calls Tryz.prog 94 #[.int .i32 x, .int .i32 y] w fun e w' => e = .returned (.bool c) ∧ w = w' := by
  have HN := Lib.hid cmpNaN
  have HC := Lib.hid hc
  clear hc
  go_enter Tryz.func94, Tryz.ntmps94
  go_wp2_with (go_at_call 104; refine (HN.out _ _).mono ?_; rintro e w' ⟨rfl, rfl⟩)
  go_ret
  exact ⟨ret_bool (by rw [← HC.out]), rfl⟩
set_option maxRecDepth 100000 in
set_option maxHeartbeats 1600000 in
theorem search_some (b off n cap : Nat) (g : Nat → Int) (x : Int) (w : World) (hb : b < w.heap.size) (hcl : ∀ t, t < n → w.cell? ⟨b, off + t, none⟩ = some (.int .i32 (g t))) (hs : ∀ t u, t < u → u < n → g t < g u) (hn : n ≤ 90000) :
    Calls Tryz.prog 79 #[.slice (some ⟨b, off, none⟩) n cap, .int .i32 x] w fun e w' => (∃ (k : Nat) (c : Bool), e = .returned (.tuple #[.int .i64 (k : Int), .bool c]) ∧ k ≤ n ∧ (∀ t, t < k → g t < x) ∧ (k < n → x ≤ g k)) ∧ AnyLater w w' := by
  have HN := Lib.hid sliNaN
  have HLs := Lib.hid rless_any
  have HS := Lib.hid hs
  have HC := Lib.hid hcl
  clear hs hcl
  go_enter Tryz.func79, Tryz.ntmps79
  go_wp2_with fail
  go_loopg [7, 8] n (fun kk iv jv wr => AnyLater w wr ∧ ∃ i j : Nat, kk = j - i ∧ i ≤ j ∧ j ≤ n ∧ iv = .int .i64 (i : Int) ∧ jv = .int .i64 (j : Int) ∧ (∀ t, t < i → g t < x) ∧ (∀ t, t < n → j ≤ t → x ≤ g t))
  case atStart => exact ⟨AnyLater.refl _, 0, n, by omega, by omega, by omega, rfl, rfl, fun t h => by omega, fun t h h' => by omega⟩
  case round =>
    obtain ⟨a_wr, i, j, hk, hij, hj, rfl, rfl, q1, q2⟩ := hrel
    have HA := Lib.hid a_wr
    have HQ := Lib.hid (And.intro q1 q2)
    clear q1 q2 a_wr
    by_cases hlt : i < j
    · have d0 : (i : Int) < (j : Int) := by omega
      obtain ⟨h, hh⟩ : ∃ h, (i + j) / 2 = h := ⟨_, rfl⟩
      have hi : i ≤ h ∧ h < j := by omega
      have c0 : wr.cell? ⟨b, off + h, none⟩ = some (.int .i32 (g h)) := (HA.out.below.cell hb).trans (HC.out h (by omega))
      by_cases hc : g h < x
      · have HL := Lib.hid (HLs.out (g h) x true (by simpa using hc))
        go_wp2_with fail
        refine (HL.out wr).mono ?_
        rintro e w' ⟨rfl, rfl⟩
        go_wp2_with fail
        go_roundg (j - (h + 1))
        case measure => omega
        case rel => exact ⟨HA.out, h + 1, j, rfl, by omega, hj, by (congr 1; omega), rfl, fun t ht => by
          rcases Nat.lt_or_ge t h with h1 | h1
          · have := HS.out t h h1 (by omega); omega
          · obtain rfl : t = h := by omega
            exact hc, HQ.out.2⟩
      · have HL := Lib.hid (HLs.out (g h) x false (by simpa using hc))
        go_wp2_with fail
        refine (HL.out wr).mono ?_
        rintro e w' ⟨rfl, rfl⟩
        go_wp2_with fail
        go_roundg (h - i)
        case measure => omega
        case rel => exact ⟨HA.out, i, h, rfl, by omega, by omega, rfl, by (congr 1; omega), HQ.out.1, fun t ht h1 => by
          rcases Nat.lt_or_ge h t with h2 | h2
          · have := HS.out h t h2 ht; omega
          · obtain rfl : t = h := by omega
            omega⟩
    · obtain rfl : i = j := by omega
      have hdone : Hid (∀ c : Bool, (∃ (k : Nat) (c' : Bool), Ending.returned (.tuple #[.int .i64 (i : Int), .bool c]) = .returned (.tuple #[.int .i64 (k : Int), .bool c']) ∧ k ≤ n ∧ (∀ t, t < k → g t < x) ∧ (k < n → x ≤ g k)) ∧ AnyLater w wr) := Lib.hid (fun c => ⟨⟨i, c, rfl, hj, HQ.out.1, fun h => HQ.out.2 i h (Nat.le_refl _)⟩, HA.out⟩)
      by_cases hin : i < n
      · have d0 : (i : Int) < (n : Int) := by omega
        have c0 : wr.cell? ⟨b, off + i, none⟩ = some (.int .i32 (g i)) := (HA.out.below.cell hb).trans (HC.out i hin)
        clear hlt hk
        by_cases he : g i = x
        · go_wp2_with fail
          refine bodyPost_ret (v := .tuple #[.int .i64 (i : Int), .bool true]) (by simp [results, Tryz.results79, go_sem]) rfl ?_
          exact hdone.out true
        · have he2 : (g i == x) = false := by simpa using he
          clear he
          go_wp2_with (go_at_call 95; refine (HN.out _ _).mono ?_; rintro e w' ⟨rfl, rfl⟩)
          refine bodyPost_ret (v := .tuple #[.int .i64 (i : Int), .bool false]) (by simp [results, Tryz.results79, go_sem]) rfl ?_
          exact hdone.out false
      · have d0 : decide ((i : Int) < (n : Int)) = false := decide_eq_false (by omega)
        clear hlt hk
        go_wp2_with fail
        refine bodyPost_ret (v := .tuple #[.int .i64 (i : Int), .bool false]) (by simp [results, Tryz.results79, go_sem]) rfl ?_
        exact hdone.out false
set_option maxRecDepth 100000 in
theorem search_none (A : Option Addr) (cap : Nat) (x : Int) (w : World) :
    Calls Tryz.prog 79 #[.slice A 0 cap, .int .i32 x] w fun e w' => e = .returned (.tuple #[.int .i64 0, .bool false]) ∧ AnyLater w w' := by
  go_enter Tryz.func79, Tryz.ntmps79
  go_wp2_with fail
  refine wp_loop_rounds 1 ?_
  rw [rounds_succ]
  go_wp2_with fail
  refine bodyPost_ret (v := .tuple #[.int .i64 0, .bool false]) (by simp [results, Tryz.results79, go_sem]) rfl ⟨rfl, ?_⟩
  repeat' (first | with_reducible assumption | with_reducible exact AnyLater.refl _ | with_reducible apply AnyLater.setCell | with_reducible apply AnyLater.later | with_reducible apply AnyLater.drewN | with_reducible apply AnyLater.drew | with_reducible apply AnyLater.alloc | ((try simp only [World.size_alloc, World.size_setCell, World.size_drew]); (try dsimp only); omega))
/-- BinarySearch in a rising list -/
theorem search_any (v : Value) (l : List Int) (x : Int) (w : World) (k : Nat) (hk : below x l = k) (hv : RN .i32 w v l) (hs : l.Pairwise (· < ·)) (hn : l.length ≤ 90000) :
    Calls Tryz.prog 79 #[v, .int .i32 x] w fun e w' => (∃ c, e = .returned (.tuple #[.int .i64 (k : Int), .bool c])) ∧ AnyLater w w' := by
  subst hk
  obtain ⟨A, cap, rfl, h2, h3⟩ := hv
  rcases Nat.eq_zero_or_pos l.length with h0 | h0
  · obtain rfl := List.eq_nil_of_length_eq_zero h0
    refine (search_none A cap x w).mono ?_
    rintro e w' ⟨rfl, b⟩
    exact ⟨⟨false, rfl⟩, b⟩
  · obtain ⟨b, off, rfl, hb, hc⟩ := h3 h0
    have hs2 := List.pairwise_iff_getElem.1 hs
    have hg : ∀ t (h : t < l.length), l.getD t 0 = l[t] := fun t h => by simp [List.getD_eq_getElem?_getD, h]
    refine (search_some b off l.length cap (fun t => l.getD t 0) x w hb (fun t ht => by rw [hc t ht, hg t ht]) (fun t u h1 h2 => by rw [hg t (by omega), hg u h2]; exact hs2 t u _ _ h1) hn).mono ?_
    rintro e w' ⟨⟨k, c, rfl, q1, q2, q3⟩, bb⟩
    refine ⟨⟨c, ?_⟩, bb⟩
    rw [below_eq q1 (fun t h ht => by have := q2 t ht; rwa [hg t h] at this) (fun h => by have := q3 h; rwa [hg k h] at this)]

/-! ### in a piece -/
theorem Pc.fs_len (p : Pc) : p.fs.length ≤ p.b.length := feN_le p.b p.base
set_option maxRecDepth 100000 in
theorem ahead_any (p : Pc) (bv fv : Value) (w : World) (x : Int) (i c : Nat) (hx : x = (i : Int)) (hc : (feN p.base (p.b.take i)).length = c) (hp : RIsP w bv fv p) (fp : p.Fair) (hi : i ≤ p.b.length) :
    Calls Tryz.prog 69 #[pcV bv fv p, .int .i64 x] w fun e w' => e = .returned (.int .i64 (c : Int)) ∧ AnyLater w w' := by
  subst hx
  have hB : below (p.base + (i : Int)) p.fs = c := by rw [← hc]; exact feN_below p.b p.base i hi
  obtain ⟨f1, f2, f3, -⟩ := fp
  have hl := p.fs_len
  have HS := Lib.hid (fun (w' : World) (b : AnyLater w w') => search_any fv p.fs (p.base + (i : Int)) w' c hB (hp.2.later b).rn (feN_sorted p.b p.base) (by omega))
  obtain ⟨A, cap, rfl, -⟩ := hp.1.form
  obtain ⟨A2, cap2, rfl, -⟩ := hp.2.form
  unfold pcV
  have g1 : 0 ≤ p.base + (i : Int) := by omega
  have g2 : p.base + (i : Int) ≤ 90000 := by omega
  clear hp hc hB hl
  generalize p.b.length = n at *
  generalize p.fs.length = m at *
  generalize p.base = b0 at *
  go_enter Tryz.func69, Tryz.ntmps69
  go_wp2_with fail
  refine (HS.out _ (by repeat' (first | with_reducible assumption | with_reducible exact AnyLater.refl _ | with_reducible apply AnyLater.setCell | with_reducible apply AnyLater.later | with_reducible apply AnyLater.drewN | with_reducible apply AnyLater.drew | with_reducible apply AnyLater.alloc | ((try simp only [World.size_alloc, World.size_setCell, World.size_drew]); (try dsimp only); omega)))).mono ?_
  rintro e w2 ⟨⟨c2, rfl⟩, b2⟩
  have HB : Hid (AnyLater w w2) := Lib.hid (AnyLater.trans (by repeat' (first | with_reducible assumption | with_reducible exact AnyLater.refl _ | with_reducible apply AnyLater.setCell | with_reducible apply AnyLater.later | with_reducible apply AnyLater.drewN | with_reducible apply AnyLater.drew | with_reducible apply AnyLater.alloc | ((try simp only [World.size_alloc, World.size_setCell, World.size_drew]); (try dsimp only); omega))) b2)
  clear b2
  go_wp2_with fail
  go_ret
  exact ⟨rfl, HB.out⟩
set_option maxRecDepth 100000 in
theorem place_any (p : Pc) (bv fv : Value) (w : World) (x y : Int) (k : Nat) (hx : x = (k : Int)) (hk : k < p.fs.length) (hy : p.fs[k] - p.base = y) (hp : RIsP w bv fv p) (fp : p.Fair) :
    Calls Tryz.prog 67 #[pcV bv fv p, .int .i64 x] w fun e w' => e = .returned (.int .i64 y) ∧ AnyLater w w' := by
  subst hx
  obtain ⟨f1, f2, f3, -⟩ := fp
  have hm := feN_mem p.b p.base p.fs[k] (List.getElem_mem hk)
  obtain ⟨A, cap, rfl, -⟩ := hp.1.form
  obtain ⟨A2, cap2, rfl, h2, h3⟩ := hp.2
  obtain ⟨b, off, cs, m, rfl, hb, hc⟩ := h3 (by omega)
  have hcell : w.cell? ⟨b, off + k, none⟩ = some (.int .i32 p.fs[k]) := by rw [← hc k hk]; simp [World.cell?, hb]
  have hlt := own_lt hb
  have hne : w.heap.size ≠ b := by omega
  unfold pcV
  generalize p.fs[k] = z at *
  subst hy
  clear hp hc h3 hb
  have hk2 : (k : Int) < (p.fs.length : Int) := by omega
  generalize p.b.length = n at *
  generalize p.fs.length = m2 at *
  generalize p.base = b0 at *
  go_enter Tryz.func67, Tryz.ntmps67
  go_wp2_with fail
  first | refine settle_wp (fun wS => AnyLater w wS ∧ wS.heap[w.heap.size]? = some (.cells #[.slice A n cap, .slice (some ⟨b, off, none⟩) m2 cap2, .int .i64 b0] 94)) ?_ ?_ | refine settle_calls (fun wS => AnyLater w wS ∧ wS.heap[w.heap.size]? = some (.cells #[.slice A n cap, .slice (some ⟨b, off, none⟩) m2 cap2, .int .i64 b0] 94)) ?_ ?_
  · refine ⟨?_, ?_⟩
    · repeat' (first | with_reducible assumption | with_reducible exact AnyLater.refl _ | with_reducible apply AnyLater.setCell | with_reducible apply AnyLater.later | with_reducible apply AnyLater.drewN | with_reducible apply AnyLater.drew | with_reducible apply AnyLater.alloc | ((try simp only [World.size_alloc, World.size_setCell, World.size_drew]); (try dsimp only); omega))
    · ((repeat (first | with_reducible assumption | ((with_reducible apply heap_new); (try simp only [World.size_alloc, World.size_setCell, World.size_drew, World.heap_drewN]); done) | ((with_reducible apply heap_new); (try simp only [World.size_alloc, World.size_setCell, World.size_drew, World.heap_drewN]); omega) | (with_reducible refine heap_old (by (try simp only [World.size_alloc, World.size_setCell, World.size_drew, World.heap_drewN]); omega) ?_) | (with_reducible refine heap_drew ?_) | (with_reducible refine heap_far (by omega) ?_) | (with_reducible apply heap_at))); all_goals rfl)
  rintro w1 ⟨b_w1, s0_w1⟩
  have a_w1 := b_w1
  have r0_w1 := own_row s0_w1
  have f0_w1 := own_free s0_w1
  have l0_w1 := own_lt s0_w1
  have z_w1 := b_w1.below.size
  have c1 := cell_on a_w1 hcell
  go_quiet (fail)
  go_wp2_with fail
  go_ret
  refine ⟨rfl, ?_⟩
  exact a_w1.drewN _
def isPc (q : Pc) (v : Value) (w : World) : Prop := ∃ bv fv, v = pcV bv fv q ∧ RIsP w bv fv q
theorem isPc_stays {q : Pc} {v : Value} {w w' : World} (h : AnyLater w w') (s : isPc q v w) : isPc q v w' := by
  obtain ⟨bv, fv, e, hq⟩ := s
  exact ⟨bv, fv, e, hq.later h⟩
theorem RT.cut {k : IntKind} {t : TypeId} {w : World} {A : Option Addr} {cap : Nat} {l : List Int} (h : RT k t w (.slice A l.length cap) l) (lo hi : Nat) (h1 : lo ≤ hi) (h2 : hi ≤ l.length) :
    RT k t w (.slice (if hi = lo then A else A.map (fun x => x.add lo)) (hi - lo) (hi - lo)) ((l.drop lo).take (hi - lo)) := by
  obtain ⟨A', cap', e, h3, h4⟩ := h
  cases e
  have hl : ((l.drop lo).take (hi - lo)).length = hi - lo := by rw [List.length_take, List.length_drop]; omega
  refine ⟨_, _, by rw [hl], by rw [hl]; exact Nat.le_refl _, fun h0 => ?_⟩
  rw [hl] at h0
  obtain ⟨b, off, cs, m, rfl, hb, hc⟩ := h4 (by omega)
  rw [if_neg (by omega)]
  refine ⟨b, off + lo, cs, m, by rw [Option.map_some, addr_add], hb, fun j hj => ?_⟩
  rw [hl] at hj
  rw [Nat.add_assoc, hc (lo + j) (by omega), List.getElem_take, List.getElem_drop]
set_option maxRecDepth 100000 in
theorem cut_bytes {w : World} {v : Value} {l : List Int} (h : RT .u8 5 w v l) (lo hi : Nat) (h1 : lo ≤ hi) (h2 : hi ≤ l.length) : ∃ A cap, RT .u8 5 w (.slice A (hi - lo) cap) ((l.drop lo).take (hi - lo)) ∧
    ∀ w', (Instr.sliceAt 22 v (some (.int .i64 (lo : Int))) (some (.int .i64 (hi : Int))) (some (.int .i64 (hi : Int)))).run Tryz.prog w' = .ok (.slice A (hi - lo) cap) w' := by
  obtain ⟨A, cap, rfl, h3⟩ := h.form
  refine ⟨_, _, h.cut lo hi h1 h2, fun w' => ?_⟩
  rw [run_sliceAt_slice w' _ _ _ _ _ Tryz.underlying22, run_slice_lhm w' _ A l.length cap Tryz.underlying22 .i64 .i64 .i64 (lo : Int) (hi : Int) (hi : Int) (by omega) (by omega) (by omega) (by omega)]
  have hz : ∀ w, (Go.sizeOf (Tryz.prog.elem 22)).run Tryz.prog w = .ok 1 w := fun w => by simp [go_sem]
  rw [hz]
  simp [Result.andThen, sliced]
set_option maxRecDepth 100000 in
theorem cut_feeds {w : World} {v : Value} {l : List Int} (h : RT .i32 21 w v l) (lo hi : Nat) (h1 : lo ≤ hi) (h2 : hi ≤ l.length) : ∃ A cap, RT .i32 21 w (.slice A (hi - lo) cap) ((l.drop lo).take (hi - lo)) ∧
    ∀ w', (Instr.sliceAt 92 v (some (.int .i64 (lo : Int))) (some (.int .i64 (hi : Int))) (some (.int .i64 (hi : Int)))).run Tryz.prog w' = .ok (.slice A (hi - lo) cap) w' := by
  obtain ⟨A, cap, rfl, h3⟩ := h.form
  refine ⟨_, _, h.cut lo hi h1 h2, fun w' => ?_⟩
  rw [run_sliceAt_slice w' _ _ _ _ _ Tryz.underlying92, run_slice_lhm w' _ A l.length cap Tryz.underlying92 .i64 .i64 .i64 (lo : Int) (hi : Int) (hi : Int) (by omega) (by omega) (by omega) (by omega)]
  have hz : ∀ w, (Go.sizeOf (Tryz.prog.elem 92)).run Tryz.prog w = .ok 1 w := fun w => by simp [go_sem]
  rw [hz]
  simp [Result.andThen, sliced]
theorem cut_fs (p : Pc) (f t : Nat) (h1 : f ≤ t) (h2 : t ≤ p.b.length) : (p.fs.drop (feN p.base (p.b.take f)).length).take ((feN p.base (p.b.take t)).length - (feN p.base (p.b.take f)).length) = (p.cut f t).fs := by
  unfold Pc.fs Pc.cut
  rw [feN_drop p.b p.base f (by omega)]
  have e : p.b.take t = p.b.take f ++ (p.b.drop f).take (t - f) := by
    rw [← List.take_append_drop f (p.b.take t), List.take_take, Nat.min_eq_left h1, List.drop_take]
  have hl : (p.b.take f).length = f := by rw [List.length_take]; omega
  rw [e, feN_append, List.length_append, Nat.add_sub_cancel_left, hl, feN_take]
def AheadIs (p : Pc) (i c : Nat) : Prop := (feN p.base (p.b.take i)).length = c ∧ i ≤ p.b.length
set_option maxRecDepth 100000 in
set_option maxHeartbeats 1600000 in
theorem cut_any (p : Pc) (bv fv : Value) (w : World) (x y : Int) (f t : Nat) (hx : x = (f : Int)) (hy : y = (t : Int)) (h1 : f ≤ t) (h2 : t ≤ p.b.length) (hp : RIsP w bv fv p) (fp : p.Fair) :
    Calls Tryz.prog 70 #[pcV bv fv p, .int .i64 x, .int .i64 y] w (Ans (isPc (p.cut f t)) w) := by
  subst hx
  subst hy
  obtain ⟨i, hi⟩ : ∃ i, (feN p.base (p.b.take f)).length = i := ⟨_, rfl⟩
  obtain ⟨j, hj⟩ : ∃ i, (feN p.base (p.b.take t)).length = i := ⟨_, rfl⟩
  have g1 : AheadIs p f i := ⟨hi, by omega⟩
  have g2 : AheadIs p t j := ⟨hj, h2⟩
  have hcf := cut_fs p f t h1 h2
  rw [hi, hj] at hcf
  have hij : i ≤ j ∧ j ≤ p.fs.length := by
    have e : p.b.take t = p.b.take f ++ (p.b.drop f).take (t - f) := by
      rw [← List.take_append_drop f (p.b.take t), List.take_take, Nat.min_eq_left h1, List.drop_take]
    have e1 := hj
    rw [e, feN_append, List.length_append, hi] at e1
    have e2 := congrArg List.length (feN_split p.b p.base t)
    rw [List.length_append, hj] at e2
    unfold Pc.fs
    omega
  have HAh : Hid (∀ (w' : World) (i c : Nat), AnyLater w w' → AheadIs p i c → Calls Tryz.prog 69 #[pcV bv fv p, .int .i64 (i : Int)] w' fun e w'' => e = .returned (.int .i64 (c : Int)) ∧ AnyLater w' w'') :=
    Lib.hid (fun w' i c b h => ahead_any p bv fv w' _ i c rfl h.1 (hp.later b) fp h.2)
  obtain ⟨A3, cap3, m1, m2⟩ := cut_bytes hp.1 f t h1 h2
  obtain ⟨A4, cap4, m3, m4⟩ := cut_feeds hp.2 i j hij.1 hij.2
  rw [hcf] at m3
  have HM : Hid (∀ w', AnyLater w w' → isPc (p.cut f t) (pcV (.slice A3 (t - f) cap3) (.slice A4 (j - i) cap4) (p.cut f t)) w') := Lib.hid (fun w' b => ⟨_, _, rfl, m1.later b, m3.later b⟩)
  obtain ⟨A, cap, rfl, -⟩ := hp.1.form
  obtain ⟨A2, cap2, rfl, -⟩ := hp.2.form
  obtain ⟨f1, f2, f3, -⟩ := fp
  have hbase : (p.cut f t).base = p.base + (f : Int) := rfl
  unfold pcV at HM HAh ⊢
  rw [hbase] at HM
  clear hi hj hcf hbase m1 m3 hp
  generalize AheadIs p = G at *
  generalize p.b.length = n at *
  generalize p.fs.length = m at *
  generalize p.base = b0 at *
  go_enter Tryz.func70, Tryz.ntmps70
  go_wp2_with fail
  first | refine settle_wp (fun wS => AnyLater w wS ∧ wS.heap[w.heap.size]? = some (.cells #[.slice A n cap, .slice A2 m cap2, .int .i64 b0] 94) ∧ wS.heap[w.heap.size + 1]? = some (.cells #[.slice none 0 0, .slice none 0 0, .int .i64 0] 94)) ?_ ?_ | refine settle_calls (fun wS => AnyLater w wS ∧ wS.heap[w.heap.size]? = some (.cells #[.slice A n cap, .slice A2 m cap2, .int .i64 b0] 94) ∧ wS.heap[w.heap.size + 1]? = some (.cells #[.slice none 0 0, .slice none 0 0, .int .i64 0] 94)) ?_ ?_
  · refine ⟨?_, ?_, ?_⟩
    · repeat' (first | with_reducible assumption | with_reducible exact AnyLater.refl _ | with_reducible apply AnyLater.setCell | with_reducible apply AnyLater.later | with_reducible apply AnyLater.drewN | with_reducible apply AnyLater.drew | with_reducible apply AnyLater.alloc | ((try simp only [World.size_alloc, World.size_setCell, World.size_drew]); (try dsimp only); omega))
    · ((repeat (first | with_reducible assumption | ((with_reducible apply heap_new); (try simp only [World.size_alloc, World.size_setCell, World.size_drew, World.heap_drewN]); done) | ((with_reducible apply heap_new); (try simp only [World.size_alloc, World.size_setCell, World.size_drew, World.heap_drewN]); omega) | (with_reducible refine heap_old (by (try simp only [World.size_alloc, World.size_setCell, World.size_drew, World.heap_drewN]); omega) ?_) | (with_reducible refine heap_drew ?_) | (with_reducible refine heap_far (by omega) ?_) | (with_reducible apply heap_at))); all_goals rfl)
    · ((repeat (first | with_reducible assumption | ((with_reducible apply heap_new); (try simp only [World.size_alloc, World.size_setCell, World.size_drew, World.heap_drewN]); done) | ((with_reducible apply heap_new); (try simp only [World.size_alloc, World.size_setCell, World.size_drew, World.heap_drewN]); omega) | (with_reducible refine heap_old (by (try simp only [World.size_alloc, World.size_setCell, World.size_drew, World.heap_drewN]); omega) ?_) | (with_reducible refine heap_drew ?_) | (with_reducible refine heap_far (by omega) ?_) | (with_reducible apply heap_at))); all_goals rfl)
  rintro w1 ⟨b_w1, s0_w1, s1_w1⟩
  have a_w1 := b_w1
  have r0_w1 := own_row s0_w1
  have f0_w1 := own_free s0_w1
  have l0_w1 := own_lt s0_w1
  have r1_w1 := own_row s1_w1
  have f1_w1 := own_free s1_w1
  have l1_w1 := own_lt s1_w1
  have z_w1 := b_w1.below.size
  apply wp_region_mem (6) [] (by kernel_rfl) (by kernel_rfl) (by simp)
  case hstab =>
    intro e he v x y hxy hv
    simp only [List.mem_cons, List.not_mem_nil, or_false] at he
  case hlex =>
    intro U
    have q0 := fun (v : Later (later U)) => own_row (any_own ⟨v, rfl⟩ (any_own ⟨U, rfl⟩ s0_w1))
    have q1 := fun (v : Later (later U)) => own_row (any_own ⟨v, rfl⟩ (any_own ⟨U, rfl⟩ s1_w1))
    simp only [absFrom, absOp, idx, List.map_cons, List.map_nil, List.contains_cons, List.contains_nil, Nat.reduceBEq, Bool.or_false, Bool.false_or, Bool.true_or, Bool.or_true, Bool.false_eq_true, Nat.reduceLeDiff, Nat.reduceAdd, if_false, if_true]
    repeat (go_big_quiet_step ((go_at_call 69; exact in_later (HAh.out _ _ _ (by repeat' (first | with_reducible assumption | with_reducible exact AnyLater.refl _ | with_reducible apply AnyLater.setCell | with_reducible apply AnyLater.later | with_reducible apply AnyLater.drewN | with_reducible apply AnyLater.drew | with_reducible apply AnyLater.alloc | ((try simp only [World.size_alloc, World.size_setCell, World.size_drew]); (try dsimp only); omega))) (by assumption)))))
    exact wpQuiet_nil rfl
  case hown =>
    intro e he o ho
    simp only [List.mem_cons, List.not_mem_nil, or_false] at he
  case htail =>
    intro g u hst hne
    have b_w2 : AnyLater w1 (later u) := ⟨u, rfl⟩
    generalize later u = w2 at *
    clear u
    clear hst hne
    simp only [fillAll, Act.put, List.setIfInBounds_toArray, List.set_cons_zero, List.set_cons_succ, List.drop_succ_cons, List.drop_zero]
    have z_w2 := b_w2.below.size
    have a_w2 := a_w1.trans b_w2
    have s0_w2 := any_own b_w2 s0_w1
    have s1_w2 := any_own b_w2 s1_w1
    have r0_w2 := own_row s0_w2
    have f0_w2 := own_free s0_w2
    have l0_w2 := own_lt s0_w2
    have r1_w2 := own_row s1_w2
    have f1_w2 := own_free s1_w2
    have l1_w2 := own_lt s1_w2
    (try clear r0_w1); (try clear f0_w1)
    (try clear r1_w1); (try clear f1_w1)
    go_wp2_with fail
    apply wp_region_mem (17) [] (by kernel_rfl) (by kernel_rfl) (by simp)
    case hstab =>
      intro e he v x y hxy hv
      simp only [List.mem_cons, List.not_mem_nil, or_false] at he
    case hlex =>
      intro U
      have q0 := fun (v : Later (later U)) => own_row (any_own ⟨v, rfl⟩ (any_own ⟨U, rfl⟩ s0_w2))
      have q1 := fun (v : Later (later U)) => own_row (any_own ⟨v, rfl⟩ (any_own ⟨U, rfl⟩ s1_w2))
      simp only [absFrom, absOp, idx, List.map_cons, List.map_nil, List.contains_cons, List.contains_nil, Nat.reduceBEq, Bool.or_false, Bool.false_or, Bool.true_or, Bool.or_true, Bool.false_eq_true, Nat.reduceLeDiff, Nat.reduceAdd, if_false, if_true]
      repeat (go_big_quiet_step (fail))
      exact wpQuiet_nil rfl
    case hown =>
      intro e he o ho
      simp only [List.mem_cons, List.not_mem_nil, or_false] at he
    case htail =>
      intro g u hst hne
      have b_w3 : AnyLater w2 (later u) := ⟨u, rfl⟩
      generalize later u = w3 at *
      clear u
      clear hst hne
      simp only [fillAll, Act.put, List.setIfInBounds_toArray, List.set_cons_zero, List.set_cons_succ, List.drop_succ_cons, List.drop_zero]
      have z_w3 := b_w3.below.size
      have a_w3 := a_w2.trans b_w3
      have s0_w3 := any_own b_w3 s0_w2
      have s1_w3 := any_own b_w3 s1_w2
      have r0_w3 := own_row s0_w3
      have f0_w3 := own_free s0_w3
      have l0_w3 := own_lt s0_w3
      have r1_w3 := own_row s1_w3
      have f1_w3 := own_free s1_w3
      have l1_w3 := own_lt s1_w3
      (try clear r0_w2); (try clear f0_w2)
      (try clear r1_w2); (try clear f1_w2)
      go_wp2_with fail
      have HA : AnyLater w (((w3.setCell ⟨w.heap.size + 1, 0, none⟩ (.slice A3 (t - f) cap3)).setCell ⟨w.heap.size + 1, 1, none⟩ (.slice A4 (j - i) cap4)).setCell ⟨w.heap.size + 1, 2, none⟩ (.int .i64 (b0 + (f : Int)))) := by repeat' (first | with_reducible assumption | with_reducible exact AnyLater.refl _ | with_reducible apply AnyLater.setCell | with_reducible apply AnyLater.later | with_reducible apply AnyLater.drewN | with_reducible apply AnyLater.drew | with_reducible apply AnyLater.alloc | ((try simp only [World.size_alloc, World.size_setCell, World.size_drew]); (try dsimp only); omega))
      refine bodyPost_ret (v := .agg #[.slice A3 (t - f) cap3, .slice A4 (j - i) cap4, .int .i64 (b0 + (f : Int))]) (by simp [results, Tryz.results70, go_sem, *]) rfl ?_
      exact ⟨_, rfl, HA, HM.out _ HA⟩
end Go.Proofs.YtiicaldnegcdiaaGreat
