/- what the proof stands on: FldA RopF RopH -/
import Derived.Test.YtamhnffokoejjaaGreatDoorKnaj
import Derived.Test.YtamhnffokoejjaaGreatDoorKnai
import Derived.Deep.LoopGhost
import Derived.BigRegion
import Derived.Test.YtamhnffokoejjaaGreatDoorKnal
import Derived.Test.YtamhnffokoejjaaGreatDoorKnae
namespace Go.Proofs.YtamhnffokoejjaaGreatDoor
set_option linter.unusedSimpArgs false
set_option linter.unusedVariables false
set_option linter.unusedSectionVars false
open Go.RowKit
def hid1 (F : List Int) (n k : Int) (s : Int × Int) : Bool := decide (0 ≤ s.1 ∧ s.1 ≤ n ∧ 0 ≤ s.2 ∧ s.2 ≤ n ∧ ((below s.1 F : Nat) : Int) < k ∧ k ≤ ((below s.2 F : Nat) : Int))
def hidL (F : List Int) (n k : Int) (l : List (Int × Int)) : Bool := l.any (hid1 F n k)
def goodZ (n : Int) : Int → List (Int × Int) → Bool
  | _, [] => true
  | e, s :: l => decide (e ≤ s.1 ∧ s.1 < s.2 ∧ s.2 ≤ n) && goodZ n s.2 l
end Go.Proofs.YtamhnffokoejjaaGreatDoor
namespace Go.Proofs.YtamhnffokoejjaaGreatDoor
set_option linter.unusedSimpArgs false
set_option linter.unusedVariables false
set_option linter.unusedSectionVars false
open Go.RowKit
theorem below_eq {x : Int} {l : List Int} {k : Nat} (hk : k ≤ l.length) (h1 : ∀ (t : Nat) (h : t < l.length), t < k → l[t] < x) (h2 : ∀ (h : k < l.length), x ≤ l[k]) : below x l = k := by
  have e : l = l.take k ++ l.drop k := (List.take_append_drop k l).symm
  unfold below
  rw [e, List.takeWhile_append_of_pos, List.length_append, List.length_take, Nat.min_eq_left hk]
  · rcases Nat.lt_or_ge k l.length with h | h
    · rw [List.drop_eq_getElem_cons h, List.takeWhile_cons_of_neg (by have := h2 h; simp; omega)]; simp
    · rw [List.drop_of_length_le h]; simp
  · intro y hy
    obtain ⟨t, ht, rfl⟩ := List.getElem_of_mem hy
    rw [List.length_take] at ht
    rw [List.getElem_take]
    have := h1 t (by omega) (by omega)
    simpa using this
theorem cmpNaN (x : Int) (w : World) : Calls Tryz.prog 279 #[.int .i32 x] w fun e w' => e = .returned (.bool false) ∧ w = w' := by
  go_enter Tryz.func279, Tryz.ntmps279
  go_wp2
  go_ret
  exact ⟨ret_bool (by simp), rfl⟩
theorem sliNaN (x : Int) (w : World) : Calls Tryz.prog 262 #[.int .i32 x] w fun e w' => e = .returned (.bool false) ∧ w = w' := by
  go_enter Tryz.func262, Tryz.ntmps262
  go_wp2
  go_ret
  exact ⟨ret_bool (by simp), rfl⟩
theorem rless_any (x y : Int) (c : Bool) (hc : decide (x < y) = c) (w : World) : Calls Tryz.prog 261 #[.int .i32 x, .int .i32 y] w fun e w' => e = .returned (.bool c) ∧ w = w' := by
  have HN := Lib.hid cmpNaN
  have HC := Lib.hid hc
  clear hc
  go_enter Tryz.func261, Tryz.ntmps261
  go_wp2_with (go_at_call 279; refine (HN.out _ _).mono ?_; rintro e w' ⟨rfl, rfl⟩)
  go_ret
  exact ⟨ret_bool (by rw [← HC.out]), rfl⟩
set_option maxRecDepth 100000 in
set_option maxHeartbeats 1600000 in
theorem search_some (b off n cap : Nat) (g : Nat → Int) (x : Int) (w : World) (hb : b < w.heap.size) (hcl : ∀ t, t < n → w.cell? ⟨b, off + t, none⟩ = some (.int .i32 (g t))) (hs : ∀ t u, t < u → u < n → g t < g u) (hn : n ≤ 90000) :
    Calls Tryz.prog 234 #[.slice (some ⟨b, off, none⟩) n cap, .int .i32 x] w fun e w' => (∃ (k : Nat) (c : Bool), e = .returned (.tuple #[.int .i64 (k : Int), .bool c]) ∧ k ≤ n ∧ (∀ t, t < k → g t < x) ∧ (k < n → x ≤ g k)) ∧ AnyLater w w' := by
  have HN := Lib.hid sliNaN
  have HLs := Lib.hid rless_any
  have HS := Lib.hid hs
  have HC := Lib.hid hcl
  clear hs hcl
  go_enter Tryz.func234, Tryz.ntmps234
  go_wp2_with fail
  go_loopg [7, 8] n (fun kk iv jv wr => AnyLater w wr ∧ ∃ i j : Nat, kk = j - i ∧ i ≤ j ∧ j ≤ n ∧ iv = .int .i64 (i : Int) ∧ jv = .int .i64 (j : Int) ∧ (∀ t, t < i → g t < x) ∧ (∀ t, t < n → j ≤ t → x ≤ g t))
  case atStart => exact ⟨AnyLater.refl _, 0, n, by omega, by omega, by omega, rfl, rfl, fun t h => by omega, fun t h h' => by omega⟩
  case round =>
    obtain ⟨a_wr, i, j, hk, hij, hj, rfl, rfl, q1, q2⟩ := hrel
    have HA := Lib.hid a_wr
    have HQ := Lib.hid (And.intro q1 q2)
    clear q1 q2 a_wr
    by_cases hlt : i < j
    · have d0 : (i : Int) < (j : Int) := by omega
      obtain ⟨h, hh⟩ : ∃ h, (i + j) / 2 = h := ⟨_, rfl⟩
      have hi : i ≤ h ∧ h < j := by omega
      have c0 : wr.cell? ⟨b, off + h, none⟩ = some (.int .i32 (g h)) := (HA.out.below.cell hb).trans (HC.out h (by omega))
      by_cases hc : g h < x
      · have HL := Lib.hid (HLs.out (g h) x true (by simpa using hc))
        go_wp2_with fail
        refine (HL.out wr).mono ?_
        rintro e w' ⟨rfl, rfl⟩
        go_wp2_with fail
        go_roundg (j - (h + 1))
        case measure => omega
        case rel => exact ⟨HA.out, h + 1, j, rfl, by omega, hj, by (congr 1; omega), rfl, fun t ht => by
          rcases Nat.lt_or_ge t h with h1 | h1
          · have := HS.out t h h1 (by omega); omega
          · obtain rfl : t = h := by omega
            exact hc, HQ.out.2⟩
      · have HL := Lib.hid (HLs.out (g h) x false (by simpa using hc))
        go_wp2_with fail
        refine (HL.out wr).mono ?_
        rintro e w' ⟨rfl, rfl⟩
        go_wp2_with fail
        go_roundg (h - i)
        case measure => omega
        case rel => exact ⟨HA.out, i, h, rfl, by omega, by omega, rfl, by (congr 1; omega), HQ.out.1, fun t ht h1 => by
          rcases Nat.lt_or_ge h t with h2 | h2
          · have := HS.out h t h2 ht; omega
          · obtain rfl : t = h := by omega
            omega⟩
    · obtain rfl : i = j := by omega
      have hdone : Hid (∀ c : Bool, (∃ (k : Nat) (c' : Bool), Ending.returned (.tuple #[.int .i64 (i : Int), .bool c]) = .returned (.tuple #[.int .i64 (k : Int), .bool c']) ∧ k ≤ n ∧ (∀ t, t < k → g t < x) ∧ (k < n → x ≤ g k)) ∧ AnyLater w wr) := Lib.hid (fun c => ⟨⟨i, c, rfl, hj, HQ.out.1, fun h => HQ.out.2 i h (Nat.le_refl _)⟩, HA.out⟩)
      by_cases hin : i < n
      · have d0 : (i : Int) < (n : Int) := by omega
        have c0 : wr.cell? ⟨b, off + i, none⟩ = some (.int .i32 (g i)) := (HA.out.below.cell hb).trans (HC.out i hin)
        clear hlt hk
        by_cases he : g i = x
        · go_wp2_with fail
          refine bodyPost_ret (v := .tuple #[.int .i64 (i : Int), .bool true]) (by simp [results, Tryz.results234, go_sem]) rfl ?_
          exact hdone.out true
        · have he2 : (g i == x) = false := by simpa using he
          clear he
          go_wp2_with (go_at_call 262; refine (HN.out _ _).mono ?_; rintro e w' ⟨rfl, rfl⟩)
          refine bodyPost_ret (v := .tuple #[.int .i64 (i : Int), .bool false]) (by simp [results, Tryz.results234, go_sem]) rfl ?_
          exact hdone.out false
      · have d0 : decide ((i : Int) < (n : Int)) = false := decide_eq_false (by omega)
        clear hlt hk
        go_wp2_with fail
        refine bodyPost_ret (v := .tuple #[.int .i64 (i : Int), .bool false]) (by simp [results, Tryz.results234, go_sem]) rfl ?_
        exact hdone.out false
set_option maxRecDepth 100000 in
theorem search_none (A : Option Addr) (cap : Nat) (x : Int) (w : World) :
    Calls Tryz.prog 234 #[.slice A 0 cap, .int .i32 x] w fun e w' => e = .returned (.tuple #[.int .i64 0, .bool false]) ∧ AnyLater w w' := by
  go_enter Tryz.func234, Tryz.ntmps234
  go_wp2_with fail
  refine wp_loop_rounds 1 ?_
  rw [rounds_succ]
  go_wp2_with fail
  refine bodyPost_ret (v := .tuple #[.int .i64 0, .bool false]) (by simp [results, Tryz.results234, go_sem]) rfl ⟨rfl, ?_⟩
  repeat' (first | with_reducible assumption | with_reducible exact AnyLater.refl _ | with_reducible apply AnyLater.setCell | with_reducible apply AnyLater.later | with_reducible apply AnyLater.drewN | with_reducible apply AnyLater.drew | with_reducible apply AnyLater.alloc | ((try simp only [World.size_alloc, World.size_setCell, World.size_drew]); (try dsimp only); omega))
theorem search_any (v : Value) (l : List Int) (x : Int) (w : World) (k : Nat) (hk : below x l = k) (hv : RN .i32 w v l) (hs : l.Pairwise (· < ·)) (hn : l.length ≤ 90000) :
    Calls Tryz.prog 234 #[v, .int .i32 x] w fun e w' => (∃ c, e = .returned (.tuple #[.int .i64 (k : Int), .bool c])) ∧ AnyLater w w' := by
  subst hk
  obtain ⟨A, cap, rfl, h2, h3⟩ := hv
  rcases Nat.eq_zero_or_pos l.length with h0 | h0
  · obtain rfl := List.eq_nil_of_length_eq_zero h0
    refine (search_none A cap x w).mono ?_
    rintro e w' ⟨rfl, b⟩
    exact ⟨⟨false, rfl⟩, b⟩
  · obtain ⟨b, off, rfl, hb, hc⟩ := h3 h0
    have hs2 := List.pairwise_iff_getElem.1 hs
    have hg : ∀ t (h : t < l.length), l.getD t 0 = l[t] := fun t h => by simp [List.getD_eq_getElem?_getD, h]
    refine (search_some b off l.length cap (fun t => l.getD t 0) x w hb (fun t ht => by rw [hc t ht, hg t ht]) (fun t u h1 h2 => by rw [hg t (by omega), hg u h2]; exact hs2 t u _ _ h1) hn).mono ?_
    rintro e w' ⟨⟨k, c, rfl, q1, q2, q3⟩, bb⟩
    refine ⟨⟨c, ?_⟩, bb⟩
    rw [below_eq q1 (fun t h ht => by have := q2 t ht; rwa [hg t h] at this) (fun h => by have := q3 h; rwa [hg k h] at this)]
theorem Pc.fs_len (p : Pc) : p.fs.length ≤ p.b.length := feN_le p.b p.base
set_option maxRecDepth 100000 in
theorem ahead_any (p : Pc) (bv fv : Value) (w : World) (x : Int) (i c : Nat) (hx : x = (i : Int)) (hc : (feN p.base (p.b.take i)).length = c) (hp : RIsP w bv fv p) (fp : p.Fair) (hi : i ≤ p.b.length) :
    Calls Tryz.prog 191 #[pcV bv fv p, .int .i64 x] w fun e w' => e = .returned (.int .i64 (c : Int)) ∧ AnyLater w w' := by
  subst hx
  have hB : below (p.base + (i : Int)) p.fs = c := by rw [← hc]; exact feN_below p.b p.base i hi
  obtain ⟨f1, f2, f3, -⟩ := fp
  have hl := p.fs_len
  have HS := Lib.hid (fun (w' : World) (b : AnyLater w w') => search_any fv p.fs (p.base + (i : Int)) w' c hB (hp.2.later b).rn (feN_sorted p.b p.base) (by omega))
  obtain ⟨A, cap, rfl, -⟩ := hp.1.form
  obtain ⟨A2, cap2, rfl, -⟩ := hp.2.form
  unfold pcV
  have g1 : 0 ≤ p.base + (i : Int) := by omega
  have g2 : p.base + (i : Int) ≤ 90000 := by omega
  clear hp hc hB hl
  generalize p.b.length = n at *
  generalize p.fs.length = m at *
  generalize p.base = b0 at *
  go_enter Tryz.func191, Tryz.ntmps191
  go_wp2_with fail
  refine (HS.out _ (by repeat' (first | with_reducible assumption | with_reducible exact AnyLater.refl _ | with_reducible apply AnyLater.setCell | with_reducible apply AnyLater.later | with_reducible apply AnyLater.drewN | with_reducible apply AnyLater.drew | with_reducible apply AnyLater.alloc | ((try simp only [World.size_alloc, World.size_setCell, World.size_drew]); (try dsimp only); omega)))).mono ?_
  rintro e w2 ⟨⟨c2, rfl⟩, b2⟩
  have HB : Hid (AnyLater w w2) := Lib.hid (AnyLater.trans (by repeat' (first | with_reducible assumption | with_reducible exact AnyLater.refl _ | with_reducible apply AnyLater.setCell | with_reducible apply AnyLater.later | with_reducible apply AnyLater.drewN | with_reducible apply AnyLater.drew | with_reducible apply AnyLater.alloc | ((try simp only [World.size_alloc, World.size_setCell, World.size_drew]); (try dsimp only); omega))) b2)
  clear b2
  go_wp2_with fail
  go_ret
  exact ⟨rfl, HB.out⟩
set_option maxRecDepth 100000 in
theorem place_any (p : Pc) (bv fv : Value) (w : World) (x y : Int) (k : Nat) (hx : x = (k : Int)) (hk : k < p.fs.length) (hy : p.fs[k] - p.base = y) (hp : RIsP w bv fv p) (fp : p.Fair) :
    Calls Tryz.prog 194 #[pcV bv fv p, .int .i64 x] w fun e w' => e = .returned (.int .i64 y) ∧ AnyLater w w' := by
  subst hx
  obtain ⟨f1, f2, f3, -⟩ := fp
  have hm := feN_mem p.b p.base p.fs[k] (List.getElem_mem hk)
  obtain ⟨A, cap, rfl, -⟩ := hp.1.form
  obtain ⟨A2, cap2, rfl, h2, h3⟩ := hp.2
  obtain ⟨b, off, cs, m, rfl, hb, hc⟩ := h3 (by omega)
  have hcell : w.cell? ⟨b, off + k, none⟩ = some (.int .i32 p.fs[k]) := by rw [← hc k hk]; simp [World.cell?, hb]
  have hlt := own_lt hb
  have hne : w.heap.size ≠ b := by omega
  unfold pcV
  generalize p.fs[k] = z at *
  subst hy
  clear hp hc h3 hb
  have hk2 : (k : Int) < (p.fs.length : Int) := by omega
  generalize p.b.length = n at *
  generalize p.fs.length = m2 at *
  generalize p.base = b0 at *
  go_enter Tryz.func194, Tryz.ntmps194
  go_wp2_with fail
  first | refine settle_wp (fun wS => AnyLater w wS ∧ wS.heap[w.heap.size]? = some (.cells #[.slice A n cap, .slice (some ⟨b, off, none⟩) m2 cap2, .int .i64 b0] 191)) ?_ ?_ | refine settle_calls (fun wS => AnyLater w wS ∧ wS.heap[w.heap.size]? = some (.cells #[.slice A n cap, .slice (some ⟨b, off, none⟩) m2 cap2, .int .i64 b0] 191)) ?_ ?_
  · refine ⟨?_, ?_⟩
    · repeat' (first | with_reducible assumption | with_reducible exact AnyLater.refl _ | with_reducible apply AnyLater.setCell | with_reducible apply AnyLater.later | with_reducible apply AnyLater.drewN | with_reducible apply AnyLater.drew | with_reducible apply AnyLater.alloc | ((try simp only [World.size_alloc, World.size_setCell, World.size_drew]); (try dsimp only); omega))
    · ((repeat (first | with_reducible assumption | ((with_reducible apply heap_new); (try simp only [World.size_alloc, World.size_setCell, World.size_drew, World.heap_drewN]); done) | ((with_reducible apply heap_new); (try simp only [World.size_alloc, World.size_setCell, World.size_drew, World.heap_drewN]); omega) | (with_reducible refine heap_old (by (try simp only [World.size_alloc, World.size_setCell, World.size_drew, World.heap_drewN]); omega) ?_) | (with_reducible refine heap_drew ?_) | (with_reducible refine heap_far (by omega) ?_) | (with_reducible apply heap_at))); all_goals rfl)
  rintro w1 ⟨b_w1, s0_w1⟩
  have a_w1 := b_w1
  have r0_w1 := own_row s0_w1
  have f0_w1 := own_free s0_w1
  have l0_w1 := own_lt s0_w1
  have z_w1 := b_w1.below.size
  have c1 := cell_on a_w1 hcell
  go_quiet (fail)
  go_wp2_with fail
  go_ret
  refine ⟨rfl, ?_⟩
  exact a_w1.drewN _
def isPc (q : Pc) (v : Value) (w : World) : Prop := ∃ bv fv, v = pcV bv fv q ∧ RIsP w bv fv q
theorem isPc_stays {q : Pc} {v : Value} {w w' : World} (h : AnyLater w w') (s : isPc q v w) : isPc q v w' := by
  obtain ⟨bv, fv, e, hq⟩ := s
  exact ⟨bv, fv, e, hq.later h⟩
theorem RT.cut {k : IntKind} {t : TypeId} {w : World} {A : Option Addr} {cap : Nat} {l : List Int} (h : RT k t w (.slice A l.length cap) l) (lo hi : Nat) (h1 : lo ≤ hi) (h2 : hi ≤ l.length) :
    RT k t w (.slice (if hi = lo then A else A.map (fun x => x.add lo)) (hi - lo) (hi - lo)) ((l.drop lo).take (hi - lo)) := by
  obtain ⟨A', cap', e, h3, h4⟩ := h
  cases e
  have hl : ((l.drop lo).take (hi - lo)).length = hi - lo := by rw [List.length_take, List.length_drop]; omega
  refine ⟨_, _, by rw [hl], by rw [hl]; exact Nat.le_refl _, fun h0 => ?_⟩
  rw [hl] at h0
  obtain ⟨b, off, cs, m, rfl, hb, hc⟩ := h4 (by omega)
  rw [if_neg (by omega)]
  refine ⟨b, off + lo, cs, m, by rw [Option.map_some, addr_add], hb, fun j hj => ?_⟩
  rw [hl] at hj
  rw [Nat.add_assoc, hc (lo + j) (by omega), List.getElem_take, List.getElem_drop]
set_option maxRecDepth 100000 in
theorem cut_bytes {w : World} {v : Value} {l : List Int} (h : RT .u8 5 w v l) (lo hi : Nat) (h1 : lo ≤ hi) (h2 : hi ≤ l.length) : ∃ A cap, RT .u8 5 w (.slice A (hi - lo) cap) ((l.drop lo).take (hi - lo)) ∧
    ∀ w', (Instr.sliceAt 22 v (some (.int .i64 (lo : Int))) (some (.int .i64 (hi : Int))) (some (.int .i64 (hi : Int)))).run Tryz.prog w' = .ok (.slice A (hi - lo) cap) w' := by
  obtain ⟨A, cap, rfl, h3⟩ := h.form
  refine ⟨_, _, h.cut lo hi h1 h2, fun w' => ?_⟩
  rw [run_sliceAt_slice w' _ _ _ _ _ Tryz.underlying22, run_slice_lhm w' _ A l.length cap Tryz.underlying22 .i64 .i64 .i64 (lo : Int) (hi : Int) (hi : Int) (by omega) (by omega) (by omega) (by omega)]
  have hz : ∀ w, (Go.sizeOf (Tryz.prog.elem 22)).run Tryz.prog w = .ok 1 w := fun w => by simp [go_sem]
  rw [hz]
  simp [Result.andThen, sliced]
set_option maxRecDepth 100000 in
theorem cut_feeds {w : World} {v : Value} {l : List Int} (h : RT .i32 21 w v l) (lo hi : Nat) (h1 : lo ≤ hi) (h2 : hi ≤ l.length) : ∃ A cap, RT .i32 21 w (.slice A (hi - lo) cap) ((l.drop lo).take (hi - lo)) ∧
    ∀ w', (Instr.sliceAt 189 v (some (.int .i64 (lo : Int))) (some (.int .i64 (hi : Int))) (some (.int .i64 (hi : Int)))).run Tryz.prog w' = .ok (.slice A (hi - lo) cap) w' := by
  obtain ⟨A, cap, rfl, h3⟩ := h.form
  refine ⟨_, _, h.cut lo hi h1 h2, fun w' => ?_⟩
  rw [run_sliceAt_slice w' _ _ _ _ _ Tryz.underlying189, run_slice_lhm w' _ A l.length cap Tryz.underlying189 .i64 .i64 .i64 (lo : Int) (hi : Int) (hi : Int) (by omega) (by omega) (by omega) (by omega)]
  have hz : ∀ w, (Go.sizeOf (Tryz.prog.elem 189)).run Tryz.prog w = .ok 1 w := fun w => by simp [go_sem]
  rw [hz]
  simp [Result.andThen, sliced]
theorem cut_fs (p : Pc) (f t : Nat) (h1 : f ≤ t) (h2 : t ≤ p.b.length) : (p.fs.drop (feN p.base (p.b.take f)).length).take ((feN p.base (p.b.take t)).length - (feN p.base (p.b.take f)).length) = (p.cut f t).fs := by
  unfold Pc.fs Pc.cut
  rw [feN_drop p.b p.base f (by omega)]
  have e : p.b.take t = p.b.take f ++ (p.b.drop f).take (t - f) := by
    rw [← List.take_append_drop f (p.b.take t), List.take_take, Nat.min_eq_left h1, List.drop_take]
  have hl : (p.b.take f).length = f := by rw [List.length_take]; omega
  rw [e, feN_append, List.length_append, Nat.add_sub_cancel_left, hl, feN_take]
def AheadIs (p : Pc) (i c : Nat) : Prop := (feN p.base (p.b.take i)).length = c ∧ i ≤ p.b.length
set_option maxRecDepth 100000 in
set_option maxHeartbeats 1600000 in
theorem cut_any (p : Pc) (bv fv : Value) (w : World) (x y : Int) (f t : Nat) (hx : x = (f : Int)) (hy : y = (t : Int)) (h1 : f ≤ t) (h2 : t ≤ p.b.length) (hp : RIsP w bv fv p) (fp : p.Fair) :
    Calls Tryz.prog 211 #[pcV bv fv p, .int .i64 x, .int .i64 y] w (Ans (isPc (p.cut f t)) w) := by
  subst hx
  subst hy
  obtain ⟨i, hi⟩ : ∃ i, (feN p.base (p.b.take f)).length = i := ⟨_, rfl⟩
  obtain ⟨j, hj⟩ : ∃ i, (feN p.base (p.b.take t)).length = i := ⟨_, rfl⟩
  have g1 : AheadIs p f i := ⟨hi, by omega⟩
  have g2 : AheadIs p t j := ⟨hj, h2⟩
  have hcf := cut_fs p f t h1 h2
  rw [hi, hj] at hcf
  have hij : i ≤ j ∧ j ≤ p.fs.length := by
    have e : p.b.take t = p.b.take f ++ (p.b.drop f).take (t - f) := by
      rw [← List.take_append_drop f (p.b.take t), List.take_take, Nat.min_eq_left h1, List.drop_take]
    have e1 := hj
    rw [e, feN_append, List.length_append, hi] at e1
    have e2 := congrArg List.length (feN_split p.b p.base t)
    rw [List.length_append, hj] at e2
    unfold Pc.fs
    omega
  have HAh : Hid (∀ (w' : World) (i c : Nat), AnyLater w w' → AheadIs p i c → Calls Tryz.prog 191 #[pcV bv fv p, .int .i64 (i : Int)] w' fun e w'' => e = .returned (.int .i64 (c : Int)) ∧ AnyLater w' w'') :=
    Lib.hid (fun w' i c b h => ahead_any p bv fv w' _ i c rfl h.1 (hp.later b) fp h.2)
  obtain ⟨A3, cap3, m1, m2⟩ := cut_bytes hp.1 f t h1 h2
  obtain ⟨A4, cap4, m3, m4⟩ := cut_feeds hp.2 i j hij.1 hij.2
  rw [hcf] at m3
  have HM : Hid (∀ w', AnyLater w w' → isPc (p.cut f t) (pcV (.slice A3 (t - f) cap3) (.slice A4 (j - i) cap4) (p.cut f t)) w') := Lib.hid (fun w' b => ⟨_, _, rfl, m1.later b, m3.later b⟩)
  obtain ⟨A, cap, rfl, -⟩ := hp.1.form
  obtain ⟨A2, cap2, rfl, -⟩ := hp.2.form
  obtain ⟨f1, f2, f3, -⟩ := fp
  have hbase : (p.cut f t).base = p.base + (f : Int) := rfl
  unfold pcV at HM HAh ⊢
  rw [hbase] at HM
  clear hi hj hcf hbase m1 m3 hp
  generalize AheadIs p = G at *
  generalize p.b.length = n at *
  generalize p.fs.length = m at *
  generalize p.base = b0 at *
  go_enter Tryz.func211, Tryz.ntmps211
  go_wp2_with fail
  first | refine settle_wp (fun wS => AnyLater w wS ∧ wS.heap[w.heap.size]? = some (.cells #[.slice A n cap, .slice A2 m cap2, .int .i64 b0] 191) ∧ wS.heap[w.heap.size + 1]? = some (.cells #[.slice none 0 0, .slice none 0 0, .int .i64 0] 191)) ?_ ?_ | refine settle_calls (fun wS => AnyLater w wS ∧ wS.heap[w.heap.size]? = some (.cells #[.slice A n cap, .slice A2 m cap2, .int .i64 b0] 191) ∧ wS.heap[w.heap.size + 1]? = some (.cells #[.slice none 0 0, .slice none 0 0, .int .i64 0] 191)) ?_ ?_
  · refine ⟨?_, ?_, ?_⟩
    · repeat' (first | with_reducible assumption | with_reducible exact AnyLater.refl _ | with_reducible apply AnyLater.setCell | with_reducible apply AnyLater.later | with_reducible apply AnyLater.drewN | with_reducible apply AnyLater.drew | with_reducible apply AnyLater.alloc | ((try simp only [World.size_alloc, World.size_setCell, World.size_drew]); (try dsimp only); omega))
    · ((repeat (first | with_reducible assumption | ((with_reducible apply heap_new); (try simp only [World.size_alloc, World.size_setCell, World.size_drew, World.heap_drewN]); done) | ((with_reducible apply heap_new); (try simp only [World.size_alloc, World.size_setCell, World.size_drew, World.heap_drewN]); omega) | (with_reducible refine heap_old (by (try simp only [World.size_alloc, World.size_setCell, World.size_drew, World.heap_drewN]); omega) ?_) | (with_reducible refine heap_drew ?_) | (with_reducible refine heap_far (by omega) ?_) | (with_reducible apply heap_at))); all_goals rfl)
    · ((repeat (first | with_reducible assumption | ((with_reducible apply heap_new); (try simp only [World.size_alloc, World.size_setCell, World.size_drew, World.heap_drewN]); done) | ((with_reducible apply heap_new); (try simp only [World.size_alloc, World.size_setCell, World.size_drew, World.heap_drewN]); omega) | (with_reducible refine heap_old (by (try simp only [World.size_alloc, World.size_setCell, World.size_drew, World.heap_drewN]); omega) ?_) | (with_reducible refine heap_drew ?_) | (with_reducible refine heap_far (by omega) ?_) | (with_reducible apply heap_at))); all_goals rfl)
  rintro w1 ⟨b_w1, s0_w1, s1_w1⟩
  have a_w1 := b_w1
  have r0_w1 := own_row s0_w1
  have f0_w1 := own_free s0_w1
  have l0_w1 := own_lt s0_w1
  have r1_w1 := own_row s1_w1
  have f1_w1 := own_free s1_w1
  have l1_w1 := own_lt s1_w1
  have z_w1 := b_w1.below.size
  apply wp_region_mem (6) [] (by kernel_rfl) (by kernel_rfl) (by simp)
  case hstab =>
    intro e he v x y hxy hv
    simp only [List.mem_cons, List.not_mem_nil, or_false] at he
  case hlex =>
    intro U
    have q0 := fun (v : Later (later U)) => own_row (any_own ⟨v, rfl⟩ (any_own ⟨U, rfl⟩ s0_w1))
    have q1 := fun (v : Later (later U)) => own_row (any_own ⟨v, rfl⟩ (any_own ⟨U, rfl⟩ s1_w1))
    simp only [absFrom, absOp, idx, List.map_cons, List.map_nil, List.contains_cons, List.contains_nil, Nat.reduceBEq, Bool.or_false, Bool.false_or, Bool.true_or, Bool.or_true, Bool.false_eq_true, Nat.reduceLeDiff, Nat.reduceAdd, if_false, if_true]
    repeat (go_big_quiet_step ((go_at_call 191; exact in_later (HAh.out _ _ _ (by repeat' (first | with_reducible assumption | with_reducible exact AnyLater.refl _ | with_reducible apply AnyLater.setCell | with_reducible apply AnyLater.later | with_reducible apply AnyLater.drewN | with_reducible apply AnyLater.drew | with_reducible apply AnyLater.alloc | ((try simp only [World.size_alloc, World.size_setCell, World.size_drew]); (try dsimp only); omega))) (by assumption)))))
    exact wpQuiet_nil rfl
  case hown =>
    intro e he o ho
    simp only [List.mem_cons, List.not_mem_nil, or_false] at he
  case htail =>
    intro g u hst hne
    have b_w2 : AnyLater w1 (later u) := ⟨u, rfl⟩
    generalize later u = w2 at *
    clear u
    clear hst hne
    simp only [fillAll, Act.put, List.setIfInBounds_toArray, List.set_cons_zero, List.set_cons_succ, List.drop_succ_cons, List.drop_zero]
    have z_w2 := b_w2.below.size
    have a_w2 := a_w1.trans b_w2
    have s0_w2 := any_own b_w2 s0_w1
    have s1_w2 := any_own b_w2 s1_w1
    have r0_w2 := own_row s0_w2
    have f0_w2 := own_free s0_w2
    have l0_w2 := own_lt s0_w2
    have r1_w2 := own_row s1_w2
    have f1_w2 := own_free s1_w2
    have l1_w2 := own_lt s1_w2
    (try clear r0_w1); (try clear f0_w1)
    (try clear r1_w1); (try clear f1_w1)
    go_wp2_with fail
    apply wp_region_mem (17) [] (by kernel_rfl) (by kernel_rfl) (by simp)
    case hstab =>
      intro e he v x y hxy hv
      simp only [List.mem_cons, List.not_mem_nil, or_false] at he
    case hlex =>
      intro U
      have q0 := fun (v : Later (later U)) => own_row (any_own ⟨v, rfl⟩ (any_own ⟨U, rfl⟩ s0_w2))
      have q1 := fun (v : Later (later U)) => own_row (any_own ⟨v, rfl⟩ (any_own ⟨U, rfl⟩ s1_w2))
      simp only [absFrom, absOp, idx, List.map_cons, List.map_nil, List.contains_cons, List.contains_nil, Nat.reduceBEq, Bool.or_false, Bool.false_or, Bool.true_or, Bool.or_true, Bool.false_eq_true, Nat.reduceLeDiff, Nat.reduceAdd, if_false, if_true]
      repeat (go_big_quiet_step (fail))
      exact wpQuiet_nil rfl
    case hown =>
      intro e he o ho
      simp only [List.mem_cons, List.not_mem_nil, or_false] at he
    case htail =>
      intro g u hst hne
      have b_w3 : AnyLater w2 (later u) := ⟨u, rfl⟩
      generalize later u = w3 at *
      clear u
      clear hst hne
      simp only [fillAll, Act.put, List.setIfInBounds_toArray, List.set_cons_zero, List.set_cons_succ, List.drop_succ_cons, List.drop_zero]
      have z_w3 := b_w3.below.size
      have a_w3 := a_w2.trans b_w3
      have s0_w3 := any_own b_w3 s0_w2
      have s1_w3 := any_own b_w3 s1_w2
      have r0_w3 := own_row s0_w3
      have f0_w3 := own_free s0_w3
      have l0_w3 := own_lt s0_w3
      have r1_w3 := own_row s1_w3
      have f1_w3 := own_free s1_w3
      have l1_w3 := own_lt s1_w3
      (try clear r0_w2); (try clear f0_w2)
      (try clear r1_w2); (try clear f1_w2)
      go_wp2_with fail
      have HA : AnyLater w (((w3.setCell ⟨w.heap.size + 1, 0, none⟩ (.slice A3 (t - f) cap3)).setCell ⟨w.heap.size + 1, 1, none⟩ (.slice A4 (j - i) cap4)).setCell ⟨w.heap.size + 1, 2, none⟩ (.int .i64 (b0 + (f : Int)))) := by repeat' (first | with_reducible assumption | with_reducible exact AnyLater.refl _ | with_reducible apply AnyLater.setCell | with_reducible apply AnyLater.later | with_reducible apply AnyLater.drewN | with_reducible apply AnyLater.drew | with_reducible apply AnyLater.alloc | ((try simp only [World.size_alloc, World.size_setCell, World.size_drew]); (try dsimp only); omega))
      refine bodyPost_ret (v := .agg #[.slice A3 (t - f) cap3, .slice A4 (j - i) cap4, .int .i64 (b0 + (f : Int))]) (by simp [results, Tryz.results211, go_sem, *]) rfl ?_
      exact ⟨_, rfl, HA, HM.out _ HA⟩
end Go.Proofs.YtamhnffokoejjaaGreatDoor
namespace Go.Proofs.YtamhnffokoejjaaGreatDoor
set_option linter.unusedSimpArgs false
set_option linter.unusedVariables false
set_option linter.unusedSectionVars false
open Go.RowKit
def isTT (t : Tr × Tr) (v : Value) (w : World) : Prop := ∃ u1 u2, v = .tuple #[u1, u2] ∧ IsT w t.1 u1 ∧ IsT w t.2 u2
set_option maxRecDepth 100000 in
theorem split_nil (i : Int) (w : World) : Calls Tryz.prog 167 #[.pointer none, .int .i64 i] w (Ans (isTT (.nil, .nil)) w) := by
  go_enter Tryz.func167, Tryz.ntmps167
  go_wp2_with fail
  refine bodyPost_ret (v := .tuple #[.pointer none, .pointer none]) (by simp [results, Tryz.results167, go_sem]) rfl ?_
  exact ⟨_, rfl, AnyLater.refl _, _, _, rfl, rfl, rfl⟩
set_option maxRecDepth 100000 in
set_option maxHeartbeats 1600000 in
theorem split_left (l r : Tr) (p : Pc) (v : Value) (w : World) (i : Nat) (s : Tr × Tr) (t : Tr) (ht : Tr.join s.2 p r = t) (h : IsT w (.node l p r) v) (hF : (Tr.node l p r).Fair) (hn : (Tr.node l p r).len ≤ 90000) (hi : i ≤ l.len)
    (ih : ∀ (u : Value) (w' : World), IsT w' l u → Calls Tryz.prog 167 #[u, .int .i64 (i : Int)] w' (Ans (isTT s) w')) (f2 : s.2.Fair) (hs : s.2.len ≤ l.len) :
    Calls Tryz.prog 167 #[v, .int .i64 (i : Int)] w (Ans (isTT (s.1, t)) w) := by
  have HN := Lib.hid (fun (w' : World) (b : AnyLater w w') => ends_any l r p v w' (h.later b) hn)
  obtain ⟨k, lv, rv, bv, fv, rfl, hk, hl, hr, hp⟩ := h
  obtain ⟨fl, fp, fr⟩ := hF
  have hn2 : l.len + p.b.length + r.len ≤ 90000 := hn
  have HI := Lib.hid (fun (w' : World) (b : AnyLater w w') => ih lv w' (hl.later b))
  have HJ := Lib.hid (fun (w' : World) (u : Value) (b : AnyLater w w') (hu : IsT w' s.2 u) => rjoin_any s.2 r p u rv bv fv w' t ht hu (hr.later b) (hp.later b) f2 fp fr (by omega))
  have HD : Hid (∀ w' u1 u2, IsT w' s.1 u1 → isT t u2 w' → isTT (s.1, t) (.tuple #[u1, u2]) w') := Lib.hid (fun w' u1 u2 h1 h2 => ⟨_, _, rfl, h1, h2⟩)
  have HK := Lib.hid hk
  obtain ⟨A, cap, rfl, -⟩ := hp.1.form
  obtain ⟨A2, cap2, rfl, -⟩ := hp.2.form
  have d1 : (i : Int) ≤ (l.len : Int) := by omega
  have l0 := own_lt hk
  have r0 := own_row hk
  unfold nodeC at HK r0
  unfold pcV at HJ
  clear hl hr hp hk fl fp fr hn hn2 ih ht f2 hs hi
  generalize p.b.length = n at *
  generalize p.fs.length = m at *
  generalize p.base = b0 at *
  generalize l.len = e1 at *
  go_enter Tryz.func167, Tryz.ntmps167
  go_wp2_with fail
  refine (HN.out _ (AnyLater.refl w)).mono ?_
  rintro e w1 ⟨rfl, b_w1⟩
  have a_w1 := b_w1
  have s0_w1 := any_own b_w1 HK.out
  have r0_w1 := own_row s0_w1
  clear r0
  go_wp2_with fail
  refine (HI.out _ a_w1).mono ?_
  rintro e w2 ⟨_, rfl, b_w2, u1, u2, rfl, h1, h2⟩
  have z_w2 := b_w2.below.size
  have a_w2 := a_w1.trans b_w2
  have s0_w2 := any_own b_w2 s0_w1
  have r0_w2 := own_row s0_w2
  have f0_w2 := own_free s0_w2
  have l0_w2 := own_lt s0_w2
  (try clear r0_w1); (try clear f0_w1)
  have HU := Lib.hid (And.intro h1 h2)
  clear h1 h2
  go_wp2_with fail
  apply Wild.wp_region_free (12) [⟨10, 39, undef, true, isT t⟩] [⟨10, 39, isT t⟩] rfl (by kernel_rfl) (by kernel_rfl) (by kernel_rfl) (by simp) (by kernel_rfl)
  case hstab =>
    intro c hc
    simp only [List.mem_cons, List.not_mem_nil, or_false] at hc
    rcases hc with rfl
    · intro v x y hxy hv; exact isT_stays hxy hv
  case hfix =>
    intro c hc
    simp only [List.mem_cons, List.not_mem_nil, or_false] at hc
    rcases hc with rfl
    · exact .inl rfl
  case hlex =>
    intro U hU
    have q0 := own_row (any_own hU s0_w2)
    simp only [List.map_cons, List.map_nil, CA.act, actFrom, actOp, List.lookup, Nat.reduceBEq, Nat.reduceLeDiff, Nat.reduceAdd, if_false, if_true]
    repeat (go_big_quiet_step (fail))
    exact wpQuiet_nil rfl
  case hstep =>
    intro j hj o ho
    have hj2 : j = 0 := by simp at hj; omega
    rcases hj2 with rfl
    · cases ho
      refine ⟨rfl, fun g x hx hp => ?_⟩
      clear hp
      simp only [fillAll, Act.put, List.setIfInBounds_toArray, List.set_cons_zero, List.set_cons_succ]
      refine chain_go ?_ (Wild.free_tells (HJ.out _ _ (a_w2.trans hx) (HU.out.2.later hx)))
      first | (simp [go_sem, execOp]; done) | simp [go_sem, execOp, hcf]
  case htail =>
    intro g u hst hne
    have b_w3 : AnyLater w2 (later u) := ⟨u, rfl⟩
    generalize later u = w3 at *
    clear u hne
    obtain ⟨p39_w3, -⟩ := hst _ (List.mem_of_getElem? (i := 0) rfl)
    (try dsimp only at p39_w3)
    clear hst
    simp only [fillAll, Act.put, List.setIfInBounds_toArray, List.set_cons_zero, List.set_cons_succ, List.drop_succ_cons, List.drop_zero, List.drop_nil]
    generalize g 10 = v39 at *
    have z_w3 := b_w3.below.size
    have a_w3 := a_w2.trans b_w3
    have s0_w3 := any_own b_w3 s0_w2
    have r0_w3 := own_row s0_w3
    have f0_w3 := own_free s0_w3
    have l0_w3 := own_lt s0_w3
    (try clear r0_w2); (try clear f0_w2)
    go_wp2_with fail
    refine bodyPost_ret (v := .tuple #[u1, v39]) (by simp [results, Tryz.results167, go_sem]) rfl ?_
    exact ⟨_, rfl, a_w3, HD.out _ _ _ (HU.out.1.later b_w3) p39_w3⟩
set_option maxRecDepth 100000 in
set_option maxHeartbeats 1600000 in
theorem split_right (l r : Tr) (p : Pc) (v : Value) (w : World) (i : Nat) (s : Tr × Tr) (t : Tr) (ht : Tr.join l p s.1 = t) (h : IsT w (.node l p r) v) (hF : (Tr.node l p r).Fair) (hn : (Tr.node l p r).len ≤ 90000) (hi : ¬ i ≤ l.len) (hi2 : l.len + p.b.length ≤ i) (hi3 : i ≤ 90000)
    (ih : ∀ (x : Int) (u : Value) (w' : World), x = ((i - (l.len + p.b.length) : Nat) : Int) → IsT w' r u → Calls Tryz.prog 167 #[u, .int .i64 x] w' (Ans (isTT s) w')) (f2 : s.1.Fair) (hs : s.1.len ≤ r.len) :
    Calls Tryz.prog 167 #[v, .int .i64 (i : Int)] w (Ans (isTT (t, s.2)) w) := by
  have HN := Lib.hid (fun (w' : World) (b : AnyLater w w') => ends_any l r p v w' (h.later b) hn)
  obtain ⟨k, lv, rv, bv, fv, rfl, hk, hl, hr, hp⟩ := h
  obtain ⟨fl, fp, fr⟩ := hF
  have hn2 : l.len + p.b.length + r.len ≤ 90000 := hn
  have HI := Lib.hid (fun (w' : World) (b : AnyLater w w') => ih ((i : Int) - ((l.len : Int) + (p.b.length : Int))) rv w' (by omega) (hr.later b))
  have HJ := Lib.hid (fun (w' : World) (u : Value) (b : AnyLater w w') (hu : IsT w' s.1 u) => rjoin_any l s.1 p lv u bv fv w' t ht (hl.later b) hu (hp.later b) fl fp f2 (by omega))
  have HD : Hid (∀ w' u1 u2, isT t u1 w' → IsT w' s.2 u2 → isTT (t, s.2) (.tuple #[u1, u2]) w') := Lib.hid (fun w' u1 u2 h1 h2 => ⟨_, _, rfl, h1, h2⟩)
  have HK := Lib.hid hk
  obtain ⟨A, cap, rfl, -⟩ := hp.1.form
  obtain ⟨A2, cap2, rfl, -⟩ := hp.2.form
  have d1 : decide (i ≤ l.len) = false := decide_eq_false hi
  have d2 : decide ((i : Int) ≤ (l.len : Int)) = false := decide_eq_false (by omega)
  have d3 : (l.len : Int) + (p.b.length : Int) ≤ (i : Int) := by omega
  have b1 : l.len ≤ 90000 := by omega
  have b2 : p.b.length ≤ 90000 := by omega
  have r0 := own_row hk
  unfold nodeC at HK r0
  unfold pcV at HJ
  clear hl hr hp hk fl fp fr hn hn2 ih ht f2 hs hi hi2
  generalize p.b.length = n at *
  generalize p.fs.length = m at *
  generalize p.base = b0 at *
  generalize l.len = e1 at *
  go_enter Tryz.func167, Tryz.ntmps167
  go_wp2_with fail
  refine (HN.out _ (AnyLater.refl w)).mono ?_
  rintro e w1 ⟨rfl, b_w1⟩
  have a_w1 := b_w1
  have s0_w1 := any_own b_w1 HK.out
  have r0_w1 := own_row s0_w1
  clear r0
  go_wp2_with fail
  refine (HI.out _ a_w1).mono ?_
  rintro e w2 ⟨_, rfl, b_w2, u1, u2, rfl, h1, h2⟩
  have z_w2 := b_w2.below.size
  have a_w2 := a_w1.trans b_w2
  have s0_w2 := any_own b_w2 s0_w1
  have r0_w2 := own_row s0_w2
  have f0_w2 := own_free s0_w2
  have l0_w2 := own_lt s0_w2
  (try clear r0_w1); (try clear f0_w1)
  have HU := Lib.hid (And.intro h1 h2)
  clear h1 h2
  go_wp2_with fail
  refine wp_region_early _ 8 4 u1 _ _ (by kernel_rfl) rfl rfl (by kernel_rfl) rfl (by simp only [List.set_cons_succ, List.set_cons_zero]; exact rfl) ?_
  apply Wild.any_free (12) [⟨9, 64, undef, true, isT t⟩, ⟨11, 4, undef, true, isT t⟩] [⟨9, 64, isT t⟩, ⟨11, 4, isT t⟩] rfl (by kernel_rfl) (by kernel_rfl) (by kernel_rfl) (by simp) (by kernel_rfl)
  case hstab =>
    intro c hc
    simp only [List.mem_cons, List.not_mem_nil, or_false] at hc
    rcases hc with rfl | rfl
    · intro v x y hxy hv; exact isT_stays hxy hv
    · intro v x y hxy hv; exact isT_stays hxy hv
  case hfix =>
    intro c hc
    simp only [List.mem_cons, List.not_mem_nil, or_false] at hc
    rcases hc with rfl | rfl
    · exact .inl rfl
    · exact .inl rfl
  case hlex =>
    intro U hU
    have q0 := own_row (any_own hU s0_w2)
    simp only [List.map_cons, List.map_nil, CA.act, actFrom, actOp, List.lookup, Nat.reduceBEq, Nat.reduceLeDiff, Nat.reduceAdd, if_false, if_true]
    repeat (go_big_quiet_step (fail))
    exact wpQuiet_nil rfl
  case hstep =>
    intro j hj o ho
    have hj2 : j = 0 ∨ j = 1 := by simp at hj; omega
    rcases hj2 with rfl | rfl
    · cases ho
      refine ⟨rfl, fun g x hx hp => ?_⟩
      clear hp
      simp only [fillAll, Act.put, List.setIfInBounds_toArray, List.set_cons_zero, List.set_cons_succ]
      refine chain_go ?_ (Wild.free_tells (HJ.out _ _ (a_w2.trans hx) (HU.out.1.later hx)))
      first | (simp [go_sem, execOp]; done) | simp [go_sem, execOp, hcf]
    · cases ho
      refine ⟨rfl, fun g x hx hp => ?_⟩
      have p64 : (isT t) (g 9) x := hp _ (List.mem_of_getElem? (i := 0) rfl) (List.contains_iff_mem.1 (by kernel_rfl))
      clear hp
      simp only [fillAll, Act.put, List.setIfInBounds_toArray, List.set_cons_zero, List.set_cons_succ]
      refine Wild.free_is (v := g 9) ?_ p64; simp [go_sem, execOp]
  case htail =>
    intro g u hst hne
    have b_w3 : AnyLater w2 (later u) := ⟨u, rfl⟩
    generalize later u = w3 at *
    clear u hne
    obtain ⟨p64_w3, -⟩ := hst _ (List.mem_of_getElem? (i := 0) rfl)
    (try dsimp only at p64_w3)
    obtain ⟨p4_w3, -⟩ := hst _ (List.mem_of_getElem? (i := 1) rfl)
    (try dsimp only at p4_w3)
    clear hst
    simp only [fillAll, Act.put, List.setIfInBounds_toArray, List.set_cons_zero, List.set_cons_succ, List.drop_succ_cons, List.drop_zero, List.drop_nil]
    generalize g 9 = v64 at *
    generalize g 11 = v4 at *
    have z_w3 := b_w3.below.size
    have a_w3 := a_w2.trans b_w3
    have s0_w3 := any_own b_w3 s0_w2
    have r0_w3 := own_row s0_w3
    have f0_w3 := own_free s0_w3
    have l0_w3 := own_lt s0_w3
    (try clear r0_w2); (try clear f0_w2)
    go_wp2_with fail
    refine bodyPost_ret (v := .tuple #[v4, u2]) (by simp [results, Tryz.results167, go_sem]) rfl ?_
    exact ⟨_, rfl, a_w3, HD.out _ _ _ p4_w3 (HU.out.2.later b_w3)⟩
set_option maxRecDepth 100000 in
set_option maxHeartbeats 3200000 in
theorem split_mid (l r : Tr) (p : Pc) (v : Value) (w : World) (i d : Nat) (t1 t2 : Tr) (ht1 : Tr.join l (p.cut 0 d) .nil = t1) (ht2 : Tr.join .nil (p.cut d p.b.length) r = t2) (h : IsT w (.node l p r) v) (hF : (Tr.node l p r).Fair) (hn : (Tr.node l p r).len ≤ 90000) (hi : i = l.len + d) (hd : 0 < d) (hd2 : d < p.b.length) :
    Calls Tryz.prog 167 #[v, .int .i64 (i : Int)] w (Ans (isTT (t1, t2)) w) := by
  have HN := Lib.hid (fun (w' : World) (b : AnyLater w w') => ends_any l r p v w' (h.later b) hn)
  obtain ⟨k, lv, rv, bv, fv, rfl, hk, hl, hr, hp⟩ := h
  obtain ⟨fl, fp, fr⟩ := hF
  have hn2 : l.len + p.b.length + r.len ≤ 90000 := hn
  have g1 : (p.cut 0 d).Fair := fp.cut hd (by omega)
  have g2 : (p.cut d p.b.length).Fair := fp.cut hd2 (Nat.le_refl _)
  have k1 : (p.cut 0 d).b.length ≤ p.b.length := by unfold Pc.cut; simp only [List.length_take, List.length_drop]; omega
  have k2 : (p.cut d p.b.length).b.length ≤ p.b.length := by unfold Pc.cut; simp only [List.length_take, List.length_drop]; omega
  have HC1 := Lib.hid (fun (w' : World) (b : AnyLater w w') => cut_any p bv fv w' 0 ((i : Int) - (l.len : Int)) 0 d rfl (by omega) (by omega) (by omega) (hp.later b) fp)
  have HC2 := Lib.hid (fun (w' : World) (b : AnyLater w w') => cut_any p bv fv w' ((i : Int) - (l.len : Int)) ((l.len : Int) + (p.b.length : Int) - (l.len : Int)) d p.b.length (by omega) (by omega) (by omega) (Nat.le_refl _) (hp.later b) fp)
  have HJ1 : Hid (∀ (w' : World) (u : Value), AnyLater w w' → isPc (p.cut 0 d) u w' → Calls Tryz.prog 169 #[lv, u, .pointer none] w' (Ans (isT t1) w')) := Lib.hid (fun w' u b hu => by
    obtain ⟨x, y, rfl, hu⟩ := hu
    exact rjoin_any l .nil _ lv (.pointer none) x y w' t1 ht1 (hl.later b) rfl hu fl g1 trivial (by simp only [Tr.len]; omega))
  have HJ2 : Hid (∀ (w' : World) (u : Value), AnyLater w w' → isPc (p.cut d p.b.length) u w' → Calls Tryz.prog 169 #[.pointer none, u, rv] w' (Ans (isT t2) w')) := Lib.hid (fun w' u b hu => by
    obtain ⟨x, y, rfl, hu⟩ := hu
    exact rjoin_any .nil r _ (.pointer none) rv x y w' t2 ht2 rfl (hr.later b) hu trivial g2 fr (by simp only [Tr.len]; omega))
  have HD : Hid (∀ w' u1 u2, isT t1 u1 w' → isT t2 u2 w' → isTT (t1, t2) (.tuple #[u1, u2]) w') := Lib.hid (fun w' u1 u2 h1 h2 => ⟨_, _, rfl, h1, h2⟩)
  have HK := Lib.hid hk
  obtain ⟨A, cap, rfl, -⟩ := hp.1.form
  obtain ⟨A2, cap2, rfl, -⟩ := hp.2.form
  have d1 : decide (i ≤ l.len) = false := decide_eq_false (by omega)
  have d2 : decide ((i : Int) ≤ (l.len : Int)) = false := decide_eq_false (by omega)
  have d3 : decide ((l.len : Int) + (p.b.length : Int) ≤ (i : Int)) = false := decide_eq_false (by omega)
  have b1 : l.len ≤ 90000 := by omega
  have b2 : p.b.length ≤ 90000 := by omega
  have b3 : i ≤ 180000 := by omega
  have b4 : l.len ≤ i := by omega
  have r0 := own_row hk
  unfold nodeC at HK r0
  unfold pcV at HC1 HC2
  clear hl hr hp hk fl fp fr hn hn2 ht1 ht2 hi hd hd2 k1 k2 g1 g2
  generalize p.cut 0 d = q1 at *
  generalize p.cut d p.b.length = q2 at *
  generalize p.b.length = n at *
  generalize p.fs.length = m at *
  generalize p.base = b0 at *
  generalize l.len = e1 at *
  go_enter Tryz.func167, Tryz.ntmps167
  go_wp2_with fail
  refine (HN.out _ (AnyLater.refl w)).mono ?_
  rintro e w1 ⟨rfl, b_w1⟩
  have a_w1 := b_w1
  have s0_w1 := any_own b_w1 HK.out
  have r0_w1 := own_row s0_w1
  clear r0
  go_wp2_with fail
  apply Wild.wp_region_free (26) [⟨9, 78, undef, true, isPc q1⟩, ⟨10, 79, undef, true, isT t1⟩, ⟨19, 88, undef, true, isPc q2⟩, ⟨24, 93, undef, true, isT t2⟩, ⟨25, 4, undef, true, isT t1⟩] [⟨9, 78, isPc q1⟩, ⟨10, 79, isT t1⟩, ⟨19, 88, isPc q2⟩, ⟨24, 93, isT t2⟩, ⟨25, 4, isT t1⟩] rfl (by kernel_rfl) (by kernel_rfl) (by kernel_rfl) (by simp) (by kernel_rfl)
  case hstab =>
    intro c hc
    simp only [List.mem_cons, List.not_mem_nil, or_false] at hc
    rcases hc with rfl | rfl | rfl | rfl | rfl
    · intro v x y hxy hv; exact isPc_stays hxy hv
    · intro v x y hxy hv; exact isT_stays hxy hv
    · intro v x y hxy hv; exact isPc_stays hxy hv
    · intro v x y hxy hv; exact isT_stays hxy hv
    · intro v x y hxy hv; exact isT_stays hxy hv
  case hfix =>
    intro c hc
    simp only [List.mem_cons, List.not_mem_nil, or_false] at hc
    rcases hc with rfl | rfl | rfl | rfl | rfl
    · exact .inl rfl
    · exact .inl rfl
    · exact .inl rfl
    · exact .inl rfl
    · exact .inl rfl
  case hlex =>
    intro U hU
    have q0 := own_row (any_own hU s0_w1)
    simp only [List.map_cons, List.map_nil, CA.act, actFrom, actOp, List.lookup, Nat.reduceBEq, Nat.reduceLeDiff, Nat.reduceAdd, if_false, if_true]
    repeat (go_big_quiet_step (fail))
    exact wpQuiet_nil rfl
  case hstep =>
    intro j hj o ho
    have hj2 : j = 0 ∨ j = 1 ∨ j = 2 ∨ j = 3 ∨ j = 4 := by simp at hj; omega
    rcases hj2 with rfl | rfl | rfl | rfl | rfl
    · cases ho
      refine ⟨rfl, fun g x hx hp => ?_⟩
      clear hp
      simp only [fillAll, Act.put, List.setIfInBounds_toArray, List.set_cons_zero, List.set_cons_succ]
      refine chain_go ?_ (Wild.free_tells (HC1.out _ (a_w1.trans hx)))
      first | (simp [go_sem, execOp]; done) | simp [go_sem, execOp, hcf]
    · cases ho
      refine ⟨rfl, fun g x hx hp => ?_⟩
      have p78 : (isPc q1) (g 9) x := hp _ (List.mem_of_getElem? (i := 0) rfl) (List.contains_iff_mem.1 (by kernel_rfl))
      clear hp
      simp only [fillAll, Act.put, List.setIfInBounds_toArray, List.set_cons_zero, List.set_cons_succ]
      refine chain_go ?_ (Wild.free_tells (HJ1.out _ _ (a_w1.trans hx) p78))
      first | (simp [go_sem, execOp]; done) | simp [go_sem, execOp, hcf]
    · cases ho
      refine ⟨rfl, fun g x hx hp => ?_⟩
      clear hp
      simp only [fillAll, Act.put, List.setIfInBounds_toArray, List.set_cons_zero, List.set_cons_succ]
      refine chain_go ?_ (Wild.free_tells (HC2.out _ (a_w1.trans hx)))
      first | (simp [go_sem, execOp]; done) | simp [go_sem, execOp, hcf]
    · cases ho
      refine ⟨rfl, fun g x hx hp => ?_⟩
      have p88 : (isPc q2) (g 19) x := hp _ (List.mem_of_getElem? (i := 2) rfl) (List.contains_iff_mem.1 (by kernel_rfl))
      clear hp
      simp only [fillAll, Act.put, List.setIfInBounds_toArray, List.set_cons_zero, List.set_cons_succ]
      refine chain_go ?_ (Wild.free_tells (HJ2.out _ _ (a_w1.trans hx) p88))
      first | (simp [go_sem, execOp]; done) | simp [go_sem, execOp, hcf]
    · cases ho
      refine ⟨rfl, fun g x hx hp => ?_⟩
      have p79 : (isT t1) (g 10) x := hp _ (List.mem_of_getElem? (i := 1) rfl) (List.contains_iff_mem.1 (by kernel_rfl))
      clear hp
      simp only [fillAll, Act.put, List.setIfInBounds_toArray, List.set_cons_zero, List.set_cons_succ]
      refine Wild.free_is (v := g 10) ?_ p79; simp [go_sem, execOp]
  case htail =>
    intro g u hst hne
    have b_w3 : AnyLater w1 (later u) := ⟨u, rfl⟩
    generalize later u = w3 at *
    clear u hne
    obtain ⟨p78_w3, -⟩ := hst _ (List.mem_of_getElem? (i := 0) rfl)
    (try dsimp only at p78_w3)
    obtain ⟨p79_w3, -⟩ := hst _ (List.mem_of_getElem? (i := 1) rfl)
    (try dsimp only at p79_w3)
    obtain ⟨p88_w3, -⟩ := hst _ (List.mem_of_getElem? (i := 2) rfl)
    (try dsimp only at p88_w3)
    obtain ⟨p93_w3, -⟩ := hst _ (List.mem_of_getElem? (i := 3) rfl)
    (try dsimp only at p93_w3)
    obtain ⟨p4_w3, -⟩ := hst _ (List.mem_of_getElem? (i := 4) rfl)
    (try dsimp only at p4_w3)
    clear hst
    simp only [fillAll, Act.put, List.setIfInBounds_toArray, List.set_cons_zero, List.set_cons_succ, List.drop_succ_cons, List.drop_zero, List.drop_nil]
    generalize g 9 = v78 at *
    generalize g 10 = v79 at *
    generalize g 19 = v88 at *
    generalize g 24 = v93 at *
    generalize g 25 = v4 at *
    have z_w3 := b_w3.below.size
    have a_w3 := a_w1.trans b_w3
    have s0_w3 := any_own b_w3 s0_w1
    have r0_w3 := own_row s0_w3
    have f0_w3 := own_free s0_w3
    have l0_w3 := own_lt s0_w3
    (try clear r0_w1); (try clear f0_w1)
    go_wp2_with fail
    refine bodyPost_ret (v := .tuple #[v4, v93]) (by simp [results, Tryz.results167, go_sem]) rfl ?_
    exact ⟨_, rfl, a_w3, HD.out _ _ _ p4_w3 p93_w3⟩
theorem rsplit_any : ∀ (t : Tr) (i : Nat) (x : Int) (v : Value) (w : World), x = (i : Int) → IsT w t v → t.Fair → t.len ≤ 90000 → i ≤ 90000 → Calls Tryz.prog 167 #[v, .int .i64 x] w (Ans (isTT (Tr.split t i)) w)
  | .nil, i, x, v, w, hx, h, _, _, _ => by
    obtain rfl : v = .pointer none := h
    exact split_nil x w
  | .node l p r, i, x, v, w, hx, h, hF, hn, hi => by
    subst hx
    have hn2 : l.len + p.b.length + r.len ≤ 90000 := hn
    unfold Tr.split
    split
    · rename_i c1
      have hl := (Tr.len_split l i c1).2
      exact split_left l r p v w i (Tr.split l i) _ rfl h hF hn c1 (fun u w' hu => rsplit_any l i _ u w' rfl hu hF.1 (by omega) hi) (Tr.fair_split l i hF.1).2 (by omega)
    · rename_i c1
      split
      · rename_i c2
        have hb := (Tr.bs_split r (i - (l.len + p.b.length))).1
        have hl := congrArg List.length hb
        rw [List.length_take, Tr.len_bs, Tr.len_bs] at hl
        exact split_right l r p v w i (Tr.split r (i - (l.len + p.b.length))) _ rfl h hF hn c1 c2 hi (fun x u w' hx hu => rsplit_any r _ x u w' hx hu hF.2.2 (by omega) (by omega)) (Tr.fair_split r _ hF.2.2).1 (by omega)
      · rename_i c2
        exact split_mid l r p v w i (i - l.len) _ _ rfl rfl h hF hn (by omega) (by omega) (by omega)
end Go.Proofs.YtamhnffokoejjaaGreatDoor
