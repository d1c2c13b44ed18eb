/- band: Has and Good by contract; all eight functions at once. -/
import Derived.Test.YtcgbfdjdpjdncaaBandW
namespace Go.Proofs.Ytcgbfdjdpjdncaa
set_option linter.unusedSimpArgs false
set_option linter.unusedVariables false
set_option linter.unusedSectionVars false
open Go.RowKit

/-! ### Has -/
/-- a closure that answers whether p holds of a band -/
def Tests (w : World) (gc : Nat) (cb : Array Value) (p : Int × Int → Bool) : Prop := ∀ (b1 b2 : Int) (w' : World), AnyLater w w' →
  Calls Try.prog gc (#[.agg #[.int .i64 b1, .int .i64 b2]] ++ cb) w' fun e w'' => e = .returned (.bool (p (b1, b2))) ∧ AnyLater w' w''
def Found (w : World) (c : Bool) (e : Ending) (w' : World) : Prop := ∃ k : Int, e = .returned (.int .i64 k) ∧ decide (0 ≤ k) = c ∧ AnyLater w w'
set_option maxRecDepth 100000 in
set_option maxHeartbeats 1600000 in
theorem index_none (A : Option Addr) (cap gc : Nat) (cb : Array Value) (w : World) : Calls Try.prog 38 #[.slice A 0 cap, .func (.func gc) #[] cb] w (Found w false) := by
  go_enter Try.func38, Try.ntmps38
  go_wp2_with fail
  refine wp_loop_rounds 1 ?_
  rw [rounds_succ]
  go_wp2_with fail
  go_ret
  exact ⟨_, rfl, by decide, AnyLater.refl _⟩
set_option maxRecDepth 100000 in
set_option maxHeartbeats 1600000 in
theorem index_some (b off n cap gc : Nat) (cb : Array Value) (p : Int × Int → Bool) (l : Bands) (w : World) (hl : l.length = n) (hn : n ≤ 100000) (hb : b < w.heap.size) (hc : ∀ (j : Nat) (h : j < l.length), w.cell? ⟨b, off + j * 2, none⟩ = some (.int .i64 l[j].1) ∧ w.cell? ⟨b, off + j * 2 + 1, none⟩ = some (.int .i64 l[j].2))
    (hcf : ∀ args w, (callFunc gc args).run Try.prog w = .ok (.enter gc args) w) (hdo : Tests w gc cb p) :
    Calls Try.prog 38 #[.slice (some ⟨b, off, none⟩) n cap, .func (.func gc) #[] cb] w (Found w (l.any p)) := by
  have HL := Lib.hid hl
  have HC := Lib.hid hc
  have HD := Lib.hid hdo
  clear hl hc hdo
  go_enter Try.func38, Try.ntmps38
  go_wp2_with fail
  go_loopg [8] n (fun k i wr => ∃ j : Nat, k = n - j ∧ j ≤ n ∧ i = .int .i64 j ∧ AnyLater w wr ∧ (l.take j).any p = false)
  case atStart => exact ⟨0, by omega, by omega, rfl, AnyLater.refl _, by simp⟩
  case round =>
    obtain ⟨j, hk, hj, rfl, a_wr, hf⟩ := hrel
    have HF := Lib.hid hf
    clear hf
    by_cases hlt : j < n
    · have lj : j < l.length := by rw [HL.out]; exact hlt
      have c0 : wr.cell? ⟨b, off + j * 2, none⟩ = some (.int .i64 l[j].1) := (a_wr.below.cell hb).trans (HC.out j lj).1
      have c1 : wr.cell? ⟨b, off + j * 2 + 1, none⟩ = some (.int .i64 l[j].2) := (a_wr.below.cell hb).trans (HC.out j lj).2
      have HT : Hid ((l.take (j + 1)).any p = ((l.take j).any p || p l[j])) := Lib.hid (by rw [List.take_succ_eq_append_getElem lj, List.any_append]; simp)
      have HH : Hid (p l[j] = true → l.any p = true) := Lib.hid (fun h => List.any_eq_true.2 ⟨_, List.getElem_mem lj, h⟩)
      generalize l[j] = x at *
      obtain ⟨f, t⟩ := x
      simp only at c0 c1
      cases hp : p (f, t) with
      | true =>
        have HD1 := Lib.hid (HD.out f t wr a_wr)
        rw [hp] at HD1
        have HE := Lib.hid (HH.out hp)
        clear hp HT HH
        go_wp2_with fail
        refine HD1.out.mono ?_
        rintro e w1 ⟨rfl, b_w1⟩
        go_wp2_with fail
        go_ret
        exact ⟨_, rfl, by rw [HE.out]; exact decide_eq_true (by omega), a_wr.trans b_w1⟩
      | false =>
        have HD1 := Lib.hid (HD.out f t wr a_wr)
        rw [hp] at HD1
        have HE : Hid ((l.take (j + 1)).any p = false) := Lib.hid (by rw [HT.out, HF.out, hp]; rfl)
        clear hp HT HH
        go_wp2_with fail
        refine HD1.out.mono ?_
        rintro e w1 ⟨rfl, b_w1⟩
        go_wp2_with fail
        go_roundg (n - (j + 1))
        case measure => omega
        case rel => exact ⟨j + 1, rfl, hlt, by go_num, a_wr.trans b_w1, HE.out⟩
    · obtain rfl : j = n := by omega
      have HE : Hid (l.any p = false) := Lib.hid (by
        have := HF.out
        rwa [List.take_of_length_le (Nat.le_of_eq HL.out)] at this)
      go_wp2_with fail
      go_ret
      exact ⟨_, rfl, by rw [HE.out]; decide, a_wr⟩
theorem contains_any (v fv : Value) (w : World) (c : Bool) (h : Calls Try.prog 38 #[v, fv] w (Found w c)) : Calls Try.prog 28 #[v, fv] w fun e w' => e = .returned (.bool c) ∧ AnyLater w w' := by
  have H := Lib.hid h
  clear h
  go_enter Try.func28, Try.ntmps28
  go_wp2_with fail
  refine H.out.mono ?_
  rintro e w1 ⟨k, rfl, hk, b_w1⟩
  have HK := Lib.hid hk
  clear hk
  go_wp2_with fail
  go_ret
  exact ⟨ret_bool HK.out, b_w1⟩
theorem has_any (v : Value) (l : Bands) (y : Int) (w : World) (c : Bool) (hcc : inB l y = c) (hr : RB w v l) (hn : l.length ≤ 100000) :
    Calls Try.prog 18 #[v, .int .i64 y] w fun e w' => e = .returned (.bool c) ∧ AnyLater w w' := by
  have hcf : ∀ args w, (callFunc 29 args).run Try.prog w = .ok (.enter 29 args) w := enters_of Try.func29 (by kernel_rfl) rfl
  have hq : l.any (fun b => hasOne b y) = c := by
    rw [← hcc]
    unfold inB
    congr 1
    funext b
    unfold hasOne
    rw [decide_eq_decide]
    exact edge_rows b y
  have a1 := (AnyLater.refl w).alloc (.cells #[.int .i64 y] 3)
  have hH : Calls Try.prog 38 #[v, .func (.func 29) #[] #[.pointer (some ⟨w.heap.size, 0, none⟩)]] (w.alloc (.cells #[.int .i64 y] 3)) (Found (w.alloc (.cells #[.int .i64 y] 3)) c) := by
    obtain ⟨A, cap, rfl, h2, h3⟩ := hr.later a1
    rcases Nat.eq_zero_or_pos l.length with h0 | h0
    · obtain rfl := List.eq_nil_of_length_eq_zero h0
      rw [← hq]
      exact index_none A cap _ _ _
    · obtain ⟨b, off, rfl, hb, hc⟩ := h3 h0
      rw [← hq]
      refine index_some b off _ cap _ _ (fun b => hasOne b y) l _ rfl hn hb hc hcf fun b1 b2 w' hw' => ?_
      have := has_clo b1 b2 y w.heap.size _ w' (any_own hw' (heap_new rfl)) rfl
      simpa using this
  have H := Lib.hid hH
  have HA := Lib.hid a1
  clear hcf hq a1 hH hr hcc
  go_enter Try.func18, Try.ntmps18
  go_wp2_with fail
  refine (contains_any _ _ _ _ H.out).mono ?_
  rintro e w1 ⟨rfl, b_w1⟩
  go_wp2_with fail
  go_ret
  exact ⟨rfl, HA.out.trans b_w1⟩

/-! ### Good -/
set_option maxRecDepth 100000 in
set_option maxHeartbeats 1600000 in
theorem good_none (A : Option Addr) (cap : Nat) (w : World) : Calls Try.prog 19 #[.slice A 0 cap] w fun e w' => e = .returned (.bool true) ∧ AnyLater w w' := by
  go_enter Try.func19, Try.ntmps19
  go_wp2_with fail
  refine wp_loop_rounds 1 ?_
  rw [rounds_succ]
  go_wp2_with fail
  go_ret
  exact ⟨rfl, AnyLater.refl _⟩
set_option maxRecDepth 100000 in
set_option maxHeartbeats 6400000 in
theorem good_some (b off n cap : Nat) (l : Bands) (w : World) (c : Bool) (hcc : c = true ↔ GoodL l) (hl : l.length = n) (hn : n ≤ 100000) (hb : b < w.heap.size) (hc : ∀ (j : Nat) (h : j < l.length), w.cell? ⟨b, off + j * 2, none⟩ = some (.int .i64 l[j].1) ∧ w.cell? ⟨b, off + j * 2 + 1, none⟩ = some (.int .i64 l[j].2)) :
    Calls Try.prog 19 #[.slice (some ⟨b, off, none⟩) n cap] w fun e w' => e = .returned (.bool c) ∧ AnyLater w w' := by
  have HL := Lib.hid hl
  have HC := Lib.hid hc
  have HNo : Hid (¬ GoodL l → false = c) := Lib.hid (fun h => by cases c with | false => rfl | true => exact absurd (hcc.1 rfl) h)
  have HYes : Hid (GoodL l → true = c) := Lib.hid (fun h => (hcc.2 h).symm)
  have gb := guard_band
  have nb := neqBand
  clear hl hc hcc
  go_enter Try.func19, Try.ntmps19
  go_wp2_with fail
  go_loopg [7] n (fun k i wr => ∃ j : Nat, k = n - j ∧ j ≤ n ∧ i = .int .i64 j ∧ AnyLater w wr ∧ GoodL (l.take j))
  case atStart => exact ⟨0, by omega, by omega, rfl, AnyLater.refl _, by rw [List.take_zero]; exact GoodL.nil⟩
  case round =>
    obtain ⟨j, hk, hj, rfl, a_wr, hf⟩ := hrel
    have HF := Lib.hid hf
    clear hf
    by_cases hlt : j < n
    · have lj : j < l.length := by rw [HL.out]; exact hlt
      have c0 : wr.cell? ⟨b, off + j * 2, none⟩ = some (.int .i64 l[j].1) := (a_wr.below.cell hb).trans (HC.out j lj).1
      have c1 : wr.cell? ⟨b, off + j * 2 + 1, none⟩ = some (.int .i64 l[j].2) := (a_wr.below.cell hb).trans (HC.out j lj).2
      have HG := Lib.hid (fun h => good_sub (l := l) lj h)
      have HT := Lib.hid (fun h1 h2 => good_one (l := l) lj HF.out h1 h2)
      obtain ⟨x, hx⟩ : ∃ x, l[j] = x := ⟨_, rfl⟩
      rw [hx] at HG HT c0 c1
      obtain ⟨f, t⟩ := x
      simp only at c0 c1 HG HT
      clear hx
      by_cases h1 : f < t
      · have e1 : decide (f < t) = true := decide_eq_true h1
        obtain ⟨r1, hr1⟩ : ∃ r, clZ f (-1073741824) 1073741824 = r := ⟨_, rfl⟩
        obtain ⟨r2, hr2⟩ : ∃ r, clZ t (-1073741824) 1073741824 = r := ⟨_, rfl⟩
        have he : edgeB (f, t) = (r1, r2) := by unfold edgeB clB; rw [hr1, hr2]
        by_cases h2 : f = r1 ∧ t = r2
        · obtain ⟨rfl, rfl⟩ := h2
          have hin : -1073741824 ≤ f ∧ t ≤ 1073741824 := by have := edge_in (f, t); rw [he] at this; exact ⟨this.1, this.2.2.2⟩
          cases j with
          | zero =>
            have HJ : Hid (GoodL (l.take (0 + 1))) := Lib.hid (HT.out (by omega) (fun i h => by omega))
            clear HG HT he hin
            simp only [Nat.zero_mul, Nat.add_zero] at c0 c1
            go_wp2_with fail
            first | refine settle_wp (fun wS => AnyLater wr wS ∧ wS.heap[wr.heap.size]? = some (.cells #[.int .i64 f, .int .i64 t] 38)) ?_ ?_ | refine settle_calls (fun wS => AnyLater wr wS ∧ wS.heap[wr.heap.size]? = some (.cells #[.int .i64 f, .int .i64 t] 38)) ?_ ?_
            · refine ⟨?_, ?_⟩
              · repeat' (first | with_reducible assumption | with_reducible exact AnyLater.refl _ | with_reducible apply AnyLater.setCell | with_reducible apply AnyLater.later | with_reducible apply AnyLater.drewN | with_reducible apply AnyLater.drew | with_reducible apply AnyLater.alloc | ((try simp only [World.size_alloc, World.size_setCell, World.size_drew]); (try dsimp only); omega))
              · ((repeat (first | with_reducible assumption | ((with_reducible apply heap_new); (try simp only [World.size_alloc, World.size_setCell, World.size_drew, World.heap_drewN]); done) | ((with_reducible apply heap_new); (try simp only [World.size_alloc, World.size_setCell, World.size_drew, World.heap_drewN]); omega) | (with_reducible refine heap_old (by (try simp only [World.size_alloc, World.size_setCell, World.size_drew, World.heap_drewN]); omega) ?_) | (with_reducible refine heap_drew ?_) | (with_reducible refine heap_far (by omega) ?_) | (with_reducible apply heap_at))); all_goals rfl)
            rintro w1 ⟨b_w1, s0_w1⟩
            have a_w1 := a_wr.trans b_w1
            have r0_w1 := own_row s0_w1
            have f0_w1 := own_free s0_w1
            have l0_w1 := own_lt s0_w1
            have z_w1 := b_w1.below.size
            apply wp_region_mem (24) [] (by kernel_rfl) (by kernel_rfl) (by simp)
            case hstab =>
              intro e he v x y hxy hv
              simp only [List.mem_cons, List.not_mem_nil, or_false] at he
            case hlex =>
              intro U
              have q0 := fun (v : Later (later U)) => own_row (any_own ⟨v, rfl⟩ (any_own ⟨U, rfl⟩ s0_w1))
              simp only [absFrom, absOp, idx, List.map_cons, List.map_nil, List.contains_cons, List.contains_nil, Nat.reduceBEq, Bool.or_false, Bool.false_or, Bool.true_or, Bool.or_true, Bool.false_eq_true, Nat.reduceLeDiff, Nat.reduceAdd, if_false, if_true]
              repeat (go_big_quiet_step (first | (go_at_call 26; exact in_later (filled_any _ _ _ _ (by assumption))) | (go_at_call 25; exact in_later (within_any _ _ _ _ _ _ _ (by assumption) (by assumption)))))
              exact wpQuiet_nil rfl
            case hown =>
              intro e he o ho
              simp only [List.mem_cons, List.not_mem_nil, or_false] at he
            case htail =>
              intro g u hst hne
              have b_w2 : AnyLater w1 (later u) := ⟨u, rfl⟩
              generalize later u = w2 at *
              clear u
              clear hst hne
              simp only [fillAll, Act.put, List.setIfInBounds_toArray, List.set_cons_zero, List.set_cons_succ, List.drop_succ_cons, List.drop_zero]
              have z_w2 := b_w2.below.size
              have a_w2 := a_w1.trans b_w2
              have s0_w2 := any_own b_w2 s0_w1
              have r0_w2 := own_row s0_w2
              have f0_w2 := own_free s0_w2
              have l0_w2 := own_lt s0_w2
              (try clear r0_w1); (try clear f0_w1)
              go_wp2_with fail
              go_roundg (n - (0 + 1))
              case measure => omega
              case rel => exact ⟨0 + 1, rfl, hlt, by go_num, a_w2, HJ.out⟩
          | succ i =>
            have li : i < l.length := by omega
            have u0 : wr.cell? ⟨b, off + i * 2 + 1, none⟩ = some (.int .i64 l[i].2) := (a_wr.below.cell hb).trans (HC.out i li).2
            have HG2 : Hid (GoodL l → l[i].2 < f) := Lib.hid (fun h => (HG.out h).2 i rfl)
            have HT2 : Hid (l[i].2 < f → GoodL (l.take (i + 1 + 1))) := Lib.hid (fun h => HT.out (by omega) (fun k hk => by
              obtain rfl : k = i := by omega
              exact h))
            clear HG HT he hin
            generalize l[i].2 = u at *
            have ki : (0 : Int) < (i : Int) + 1 := by omega
            by_cases h3 : f ≤ u
            · have HX := Lib.hid (HNo.out (fun h => by have := HG2.out h; omega))
              clear HG2 HT2
              go_wp2_with fail
              first | refine settle_wp (fun wS => AnyLater wr wS ∧ wS.heap[wr.heap.size]? = some (.cells #[.int .i64 f, .int .i64 t] 38)) ?_ ?_ | refine settle_calls (fun wS => AnyLater wr wS ∧ wS.heap[wr.heap.size]? = some (.cells #[.int .i64 f, .int .i64 t] 38)) ?_ ?_
              · refine ⟨?_, ?_⟩
                · repeat' (first | with_reducible assumption | with_reducible exact AnyLater.refl _ | with_reducible apply AnyLater.setCell | with_reducible apply AnyLater.later | with_reducible apply AnyLater.drewN | with_reducible apply AnyLater.drew | with_reducible apply AnyLater.alloc | ((try simp only [World.size_alloc, World.size_setCell, World.size_drew]); (try dsimp only); omega))
                · ((repeat (first | with_reducible assumption | ((with_reducible apply heap_new); (try simp only [World.size_alloc, World.size_setCell, World.size_drew, World.heap_drewN]); done) | ((with_reducible apply heap_new); (try simp only [World.size_alloc, World.size_setCell, World.size_drew, World.heap_drewN]); omega) | (with_reducible refine heap_old (by (try simp only [World.size_alloc, World.size_setCell, World.size_drew, World.heap_drewN]); omega) ?_) | (with_reducible refine heap_drew ?_) | (with_reducible refine heap_far (by omega) ?_) | (with_reducible apply heap_at))); all_goals rfl)
              rintro w1 ⟨b_w1, s0_w1⟩
              have a_w1 := a_wr.trans b_w1
              have r0_w1 := own_row s0_w1
              have f0_w1 := own_free s0_w1
              have l0_w1 := own_lt s0_w1
              have z_w1 := b_w1.below.size
              have u_w1 := cell_on b_w1 u0
              apply wp_region_mem (24) [] (by kernel_rfl) (by kernel_rfl) (by simp)
              case hstab =>
                intro e he v x y hxy hv
                simp only [List.mem_cons, List.not_mem_nil, or_false] at he
              case hlex =>
                intro U
                have q0 := fun (v : Later (later U)) => own_row (any_own ⟨v, rfl⟩ (any_own ⟨U, rfl⟩ s0_w1))
                have q_u_w1 := fun (v : Later (later U)) => cell_on (AnyLater.trans ⟨U, rfl⟩ ⟨v, rfl⟩) u_w1
                simp only [absFrom, absOp, idx, List.map_cons, List.map_nil, List.contains_cons, List.contains_nil, Nat.reduceBEq, Bool.or_false, Bool.false_or, Bool.true_or, Bool.or_true, Bool.false_eq_true, Nat.reduceLeDiff, Nat.reduceAdd, if_false, if_true]
                repeat (go_big_quiet_step (first | (go_at_call 26; exact in_later (filled_any _ _ _ _ (by assumption))) | (go_at_call 25; exact in_later (within_any _ _ _ _ _ _ _ (by assumption) (by assumption)))))
                exact wpQuiet_nil rfl
              case hown =>
                intro e he o ho
                simp only [List.mem_cons, List.not_mem_nil, or_false] at he
              case htail =>
                intro g u hst hne
                have b_w2 : AnyLater w1 (later u) := ⟨u, rfl⟩
                generalize later u = w2 at *
                clear u
                clear hst hne
                simp only [fillAll, Act.put, List.setIfInBounds_toArray, List.set_cons_zero, List.set_cons_succ, List.drop_succ_cons, List.drop_zero]
                have z_w2 := b_w2.below.size
                have a_w2 := a_w1.trans b_w2
                have s0_w2 := any_own b_w2 s0_w1
                have r0_w2 := own_row s0_w2
                have f0_w2 := own_free s0_w2
                have l0_w2 := own_lt s0_w2
                (try clear r0_w1); (try clear f0_w1)
                have u_w1_w2 := cell_on b_w2 u_w1
                go_wp2_with fail
                go_ret
                exact ⟨ret_bool HX.out, a_w2⟩
            · have HJ := Lib.hid (HT2.out (by omega))
              clear HG2 HT2
              go_wp2_with fail
              first | refine settle_wp (fun wS => AnyLater wr wS ∧ wS.heap[wr.heap.size]? = some (.cells #[.int .i64 f, .int .i64 t] 38)) ?_ ?_ | refine settle_calls (fun wS => AnyLater wr wS ∧ wS.heap[wr.heap.size]? = some (.cells #[.int .i64 f, .int .i64 t] 38)) ?_ ?_
              · refine ⟨?_, ?_⟩
                · repeat' (first | with_reducible assumption | with_reducible exact AnyLater.refl _ | with_reducible apply AnyLater.setCell | with_reducible apply AnyLater.later | with_reducible apply AnyLater.drewN | with_reducible apply AnyLater.drew | with_reducible apply AnyLater.alloc | ((try simp only [World.size_alloc, World.size_setCell, World.size_drew]); (try dsimp only); omega))
                · ((repeat (first | with_reducible assumption | ((with_reducible apply heap_new); (try simp only [World.size_alloc, World.size_setCell, World.size_drew, World.heap_drewN]); done) | ((with_reducible apply heap_new); (try simp only [World.size_alloc, World.size_setCell, World.size_drew, World.heap_drewN]); omega) | (with_reducible refine heap_old (by (try simp only [World.size_alloc, World.size_setCell, World.size_drew, World.heap_drewN]); omega) ?_) | (with_reducible refine heap_drew ?_) | (with_reducible refine heap_far (by omega) ?_) | (with_reducible apply heap_at))); all_goals rfl)
              rintro w1 ⟨b_w1, s0_w1⟩
              have a_w1 := a_wr.trans b_w1
              have r0_w1 := own_row s0_w1
              have f0_w1 := own_free s0_w1
              have l0_w1 := own_lt s0_w1
              have z_w1 := b_w1.below.size
              have u_w1 := cell_on b_w1 u0
              apply wp_region_mem (24) [] (by kernel_rfl) (by kernel_rfl) (by simp)
              case hstab =>
                intro e he v x y hxy hv
                simp only [List.mem_cons, List.not_mem_nil, or_false] at he
              case hlex =>
                intro U
                have q0 := fun (v : Later (later U)) => own_row (any_own ⟨v, rfl⟩ (any_own ⟨U, rfl⟩ s0_w1))
                have q_u_w1 := fun (v : Later (later U)) => cell_on (AnyLater.trans ⟨U, rfl⟩ ⟨v, rfl⟩) u_w1
                simp only [absFrom, absOp, idx, List.map_cons, List.map_nil, List.contains_cons, List.contains_nil, Nat.reduceBEq, Bool.or_false, Bool.false_or, Bool.true_or, Bool.or_true, Bool.false_eq_true, Nat.reduceLeDiff, Nat.reduceAdd, if_false, if_true]
                repeat (go_big_quiet_step (first | (go_at_call 26; exact in_later (filled_any _ _ _ _ (by assumption))) | (go_at_call 25; exact in_later (within_any _ _ _ _ _ _ _ (by assumption) (by assumption)))))
                exact wpQuiet_nil rfl
              case hown =>
                intro e he o ho
                simp only [List.mem_cons, List.not_mem_nil, or_false] at he
              case htail =>
                intro g u hst hne
                have b_w2 : AnyLater w1 (later u) := ⟨u, rfl⟩
                generalize later u = w2 at *
                clear u
                clear hst hne
                simp only [fillAll, Act.put, List.setIfInBounds_toArray, List.set_cons_zero, List.set_cons_succ, List.drop_succ_cons, List.drop_zero]
                have z_w2 := b_w2.below.size
                have a_w2 := a_w1.trans b_w2
                have s0_w2 := any_own b_w2 s0_w1
                have r0_w2 := own_row s0_w2
                have f0_w2 := own_free s0_w2
                have l0_w2 := own_lt s0_w2
                (try clear r0_w1); (try clear f0_w1)
                have u_w1_w2 := cell_on b_w2 u_w1
                go_wp2_with fail
                go_roundg (n - (i + 1 + 1))
                case measure => omega
                case rel => exact ⟨i + 1 + 1, rfl, hlt, by go_num, a_w2, HJ.out⟩
        · have hd : (f == r1 && t == r2) = false := by
            rw [Bool.and_eq_false_iff]
            by_cases h3 : f = r1
            · right; simp; exact fun e => h2 ⟨h3, e⟩
            · left; simpa using h3
          have HX := Lib.hid (HNo.out (fun h => h2 (by
            have q := (HG.out h).1
            have q2 := edge_same (b := (f, t)) (by simp only; omega)
            rw [he] at q2
            exact ⟨(Prod.mk.inj q2).1.symm, (Prod.mk.inj q2).2.symm⟩)))
          clear HG HT he h2
          go_wp2_with fail
          first | refine settle_wp (fun wS => AnyLater wr wS ∧ wS.heap[wr.heap.size]? = some (.cells #[.int .i64 f, .int .i64 t] 38)) ?_ ?_ | refine settle_calls (fun wS => AnyLater wr wS ∧ wS.heap[wr.heap.size]? = some (.cells #[.int .i64 f, .int .i64 t] 38)) ?_ ?_
          · refine ⟨?_, ?_⟩
            · repeat' (first | with_reducible assumption | with_reducible exact AnyLater.refl _ | with_reducible apply AnyLater.setCell | with_reducible apply AnyLater.later | with_reducible apply AnyLater.drewN | with_reducible apply AnyLater.drew | with_reducible apply AnyLater.alloc | ((try simp only [World.size_alloc, World.size_setCell, World.size_drew]); (try dsimp only); omega))
            · ((repeat (first | with_reducible assumption | ((with_reducible apply heap_new); (try simp only [World.size_alloc, World.size_setCell, World.size_drew, World.heap_drewN]); done) | ((with_reducible apply heap_new); (try simp only [World.size_alloc, World.size_setCell, World.size_drew, World.heap_drewN]); omega) | (with_reducible refine heap_old (by (try simp only [World.size_alloc, World.size_setCell, World.size_drew, World.heap_drewN]); omega) ?_) | (with_reducible refine heap_drew ?_) | (with_reducible refine heap_far (by omega) ?_) | (with_reducible apply heap_at))); all_goals rfl)
          rintro w1 ⟨b_w1, s0_w1⟩
          have a_w1 := a_wr.trans b_w1
          have r0_w1 := own_row s0_w1
          have f0_w1 := own_free s0_w1
          have l0_w1 := own_lt s0_w1
          have z_w1 := b_w1.below.size
          apply wp_region_mem (24) [] (by kernel_rfl) (by kernel_rfl) (by simp)
          case hstab =>
            intro e he v x y hxy hv
            simp only [List.mem_cons, List.not_mem_nil, or_false] at he
          case hlex =>
            intro U
            have q0 := fun (v : Later (later U)) => own_row (any_own ⟨v, rfl⟩ (any_own ⟨U, rfl⟩ s0_w1))
            simp only [absFrom, absOp, idx, List.map_cons, List.map_nil, List.contains_cons, List.contains_nil, Nat.reduceBEq, Bool.or_false, Bool.false_or, Bool.true_or, Bool.or_true, Bool.false_eq_true, Nat.reduceLeDiff, Nat.reduceAdd, if_false, if_true]
            repeat (go_big_quiet_step (first | (go_at_call 26; exact in_later (filled_any _ _ _ _ (by assumption))) | (go_at_call 25; exact in_later (within_any _ _ _ _ _ _ _ (by assumption) (by assumption)))))
            exact wpQuiet_nil rfl
          case hown =>
            intro e he o ho
            simp only [List.mem_cons, List.not_mem_nil, or_false] at he
          case htail =>
            intro g u hst hne
            have b_w2 : AnyLater w1 (later u) := ⟨u, rfl⟩
            generalize later u = w2 at *
            clear u
            clear hst hne
            simp only [fillAll, Act.put, List.setIfInBounds_toArray, List.set_cons_zero, List.set_cons_succ, List.drop_succ_cons, List.drop_zero]
            have z_w2 := b_w2.below.size
            have a_w2 := a_w1.trans b_w2
            have s0_w2 := any_own b_w2 s0_w1
            have r0_w2 := own_row s0_w2
            have f0_w2 := own_free s0_w2
            have l0_w2 := own_lt s0_w2
            (try clear r0_w1); (try clear f0_w1)
            go_wp2_with fail
            go_ret
            exact ⟨ret_bool HX.out, a_w2⟩
      · have e1 : decide (f < t) = false := decide_eq_false h1
        have HX := Lib.hid (HNo.out (fun h => by have := (HG.out h).1; omega))
        clear HG HT
        go_wp2_with fail
        first | refine settle_wp (fun wS => AnyLater wr wS ∧ wS.heap[wr.heap.size]? = some (.cells #[.int .i64 f, .int .i64 t] 38)) ?_ ?_ | refine settle_calls (fun wS => AnyLater wr wS ∧ wS.heap[wr.heap.size]? = some (.cells #[.int .i64 f, .int .i64 t] 38)) ?_ ?_
        · refine ⟨?_, ?_⟩
          · repeat' (first | with_reducible assumption | with_reducible exact AnyLater.refl _ | with_reducible apply AnyLater.setCell | with_reducible apply AnyLater.later | with_reducible apply AnyLater.drewN | with_reducible apply AnyLater.drew | with_reducible apply AnyLater.alloc | ((try simp only [World.size_alloc, World.size_setCell, World.size_drew]); (try dsimp only); omega))
          · ((repeat (first | with_reducible assumption | ((with_reducible apply heap_new); (try simp only [World.size_alloc, World.size_setCell, World.size_drew, World.heap_drewN]); done) | ((with_reducible apply heap_new); (try simp only [World.size_alloc, World.size_setCell, World.size_drew, World.heap_drewN]); omega) | (with_reducible refine heap_old (by (try simp only [World.size_alloc, World.size_setCell, World.size_drew, World.heap_drewN]); omega) ?_) | (with_reducible refine heap_drew ?_) | (with_reducible refine heap_far (by omega) ?_) | (with_reducible apply heap_at))); all_goals rfl)
        rintro w1 ⟨b_w1, s0_w1⟩
        have a_w1 := a_wr.trans b_w1
        have r0_w1 := own_row s0_w1
        have f0_w1 := own_free s0_w1
        have l0_w1 := own_lt s0_w1
        have z_w1 := b_w1.below.size
        apply wp_region_mem (24) [] (by kernel_rfl) (by kernel_rfl) (by simp)
        case hstab =>
          intro e he v x y hxy hv
          simp only [List.mem_cons, List.not_mem_nil, or_false] at he
        case hlex =>
          intro U
          have q0 := fun (v : Later (later U)) => own_row (any_own ⟨v, rfl⟩ (any_own ⟨U, rfl⟩ s0_w1))
          simp only [absFrom, absOp, idx, List.map_cons, List.map_nil, List.contains_cons, List.contains_nil, Nat.reduceBEq, Bool.or_false, Bool.false_or, Bool.true_or, Bool.or_true, Bool.false_eq_true, Nat.reduceLeDiff, Nat.reduceAdd, if_false, if_true]
          repeat (go_big_quiet_step (first | (go_at_call 26; exact in_later (filled_any _ _ _ _ (by assumption))) | (go_at_call 25; exact in_later (within_any _ _ _ _ _ _ _ (by assumption) (by assumption)))))
          exact wpQuiet_nil rfl
        case hown =>
          intro e he o ho
          simp only [List.mem_cons, List.not_mem_nil, or_false] at he
        case htail =>
          intro g u hst hne
          have b_w2 : AnyLater w1 (later u) := ⟨u, rfl⟩
          generalize later u = w2 at *
          clear u
          clear hst hne
          simp only [fillAll, Act.put, List.setIfInBounds_toArray, List.set_cons_zero, List.set_cons_succ, List.drop_succ_cons, List.drop_zero]
          have z_w2 := b_w2.below.size
          have a_w2 := a_w1.trans b_w2
          have s0_w2 := any_own b_w2 s0_w1
          have r0_w2 := own_row s0_w2
          have f0_w2 := own_free s0_w2
          have l0_w2 := own_lt s0_w2
          (try clear r0_w1); (try clear f0_w1)
          go_wp2_with fail
          go_ret
          exact ⟨ret_bool HX.out, a_w2⟩
    · obtain rfl : j = n := by omega
      have HX := Lib.hid (HYes.out (by have := HF.out; rwa [List.take_of_length_le (Nat.le_of_eq HL.out)] at this))
      go_wp2_with fail
      go_ret
      exact ⟨ret_bool HX.out, a_wr⟩
theorem good_any (v : Value) (l : Bands) (w : World) (c : Bool) (hcc : c = true ↔ GoodL l) (hr : RB w v l) (hn : l.length ≤ 100000) :
    Calls Try.prog 19 #[v] w fun e w' => e = .returned (.bool c) ∧ AnyLater w w' := by
  obtain ⟨A, cap, rfl, h2, h3⟩ := hr
  rcases Nat.eq_zero_or_pos l.length with h0 | h0
  · obtain rfl := List.eq_nil_of_length_eq_zero h0
    rw [hcc.2 GoodL.nil]
    exact good_none A cap w
  · obtain ⟨b, off, rfl, hb, hc⟩ := h3 h0
    exact good_some b off _ cap l w c hcc rfl hn hb hc

/-- what the eight functions tell -/
theorem says : Says where
  tidy v l w hr _ hn := tidy_any v l w hr (by omega)
  join v v2 l l2 w hr hr2 _ _ hn hn2 := join_any v v2 l l2 w hr hr2 (by omega) (by omega)
  meet v v2 l l2 w hr hr2 _ _ hn hn2 := meet_any v v2 l l2 w hr hr2 (by omega) (by omega)
  less v v2 l l2 w hr hr2 _ _ hn hn2 := less_any v v2 l l2 w hr hr2 (by omega) (by omega)
  has v l y w c hcc hr _ hn _ _ := has_any v l y w c hcc hr (by omega)
  good v l w c hcc hr _ hn := good_any v l w c hcc hr (by omega)
  height v l T w hr _ hn hT hy := height_any v l T w hr (by omega) hT hy
  move v l d f t w hr _ hn _ := move_any v l d f t w hr (by omega)
end Go.Proofs.Ytcgbfdjdpjdncaa
