/- runs: rows of runs that are put on; the document's Fair and Small by contract. -/
import Derived.Test.YtimplngemjdodaaDoorRunB
import Derived.Test.YtimplngemjdodaaDoorNums
import Derived.Deep.DeepCutAuto
import Derived.BigQuiet
namespace Go.Proofs.YtimplngemjdodaaDoor
set_option linter.unusedSimpArgs false
set_option linter.unusedVariables false
set_option linter.unusedSectionVars false
open Go.RowKit

theorem ORn.base {w : World} {B : Nat} {v : Value} {l : Runs} (h : ORn w B v l) : ∀ k, v.ownBlock = some k → B ≤ k := owns_base h
theorem ORn.wide {w : World} {B C : Nat} {v : Value} {l : Runs} (hC : C ≤ B) (h : ORn w B v l) : ORn w C v l := by
  refine ⟨h.1, ?_⟩
  rcases h.2 with q | ⟨g, cap, cur, h0, h1, h2⟩
  · exact .inl q
  · exact .inr ⟨g, cap, cur, h0, by omega, h2⟩
theorem ORn.grown {W w w2 : World} {B : Nat} {v : Value} {l : Runs} (ho : ORn w B v l) (hW : W.heap.size ≤ B) (h : AnyLater W w) (hg : w.grownBy w2 v.ownBlock) : AnyLater W w2 :=
  grown_later h hg (fun q hq => Nat.le_trans hW (owns_base ho q hq))
/-- append(v, u...) onto a row of runs that the call owns -/
theorem appRuns {w : World} {B : Nat} {v u : Value} {l m : Runs} (ho : ORn w B v l) (hm : RRn w u m) (hB : B ≤ w.heap.size) (hlen : l.length + m.length ≤ 100000) :
    ∃ v' w', (Builtin.append_ #[23, 23] 23 #[v, u]).run Tryd.prog w = .ok v' w' ∧ ORn w' B v' (l ++ m) ∧ w.grownBy w' v.ownBlock := by
  obtain ⟨i0, hi0, hz0, hz1, hz2⟩ := info_parts info_run
  obtain ⟨A, cap, rfl, h2, h3⟩ := hm
  cases A with
  | none =>
    have h0 : m = [] := by
      cases m with
      | nil => rfl
      | cons x t => obtain ⟨b, off, e, _⟩ := h3 (by simp); cases e
    subst h0
    obtain ⟨A2, c2, rfl, q2, _⟩ := ho.reads
    have hsrc := Src.ofNil (P := Tryd.prog) w (size := i0.size) Tryd.underlying23 cap
    refine ⟨_, _, run_append_nothing (P := Tryd.prog) w 23 23 23 48 i0 Tryd.underlying23 hi0 A2 l.length c2 q2 _ hsrc, by rw [List.append_nil]; exact ho, ⟨rfl, rfl, rfl, Nat.le_refl _, fun _ _ _ => rfl⟩⟩
  | some ad =>
    by_cases h0 : 0 < m.length
    · obtain ⟨b, off, e, hb, hc⟩ := h3 h0
      cases e
      have hnews := RRn.cells (AnyLater.refl w) (fun _ => hb) hc
      obtain ⟨v', w', k1, k2, k3, _⟩ := run_append_own (P := Tryd.prog) w B 23 23 48 i0 (.agg #[.int .i64 0, .int .i64 0]) 2 16 Tryd.underlying23 hi0 hz0 hz1 hz2 rfl (by decide) v l.length (flatN l) ho ⟨b, off, none⟩ m.length cap (flatN m) (by rw [flatN_length]) hnews (flatN_one m) (by unfold maxLen; omega) (by omega) hB
      refine ⟨v', w', k1, ?_, k3⟩
      show w'.ownsRow B 48 2 v' (l ++ m).length (flatN (l ++ m))
      rw [List.length_append, flatN_append]
      exact k2
    · obtain rfl := List.eq_nil_of_length_eq_zero (Nat.eq_zero_of_not_pos h0)
      obtain ⟨v', w', k1, k2, k3, _⟩ := run_append_own (P := Tryd.prog) w B 23 23 48 i0 (.agg #[.int .i64 0, .int .i64 0]) 2 16 Tryd.underlying23 hi0 hz0 hz1 hz2 rfl (by decide) v l.length (flatN l) ho ad 0 cap [] (by simp) (fun j x hx => by simp at hx) (by intro x hx; simp at hx) (by unfold maxLen; omega) (by simp at hlen; omega) hB
      refine ⟨v', w', k1, ?_, k3⟩
      show w'.ownsRow B 48 2 v' (l ++ []).length (flatN (l ++ []))
      rw [List.append_nil]
      simpa using k2
theorem ORn.one {w : World} {g B : Nat} {r : Int × Int} (hB : B ≤ g) (h : w.heap[g]? = some (.cells #[.int .i64 r.1, .int .i64 r.2] 48)) : ORn w B (.slice (some ⟨g, 0, none⟩) 1 1) [r] := ⟨rfl, .inr ⟨g, 1, _, rfl, hB, h, Nat.le_refl _, by unfold maxLen; omega, rfl, rfl⟩⟩
/-- append(v, r) -/
theorem appRun {w : World} {B : Nat} {v : Value} {l : Runs} (r : Int × Int) (ho : ORn w B v l) (hB : B ≤ w.heap.size) (hl : l.length ≤ 90000) :
    ∃ u w2, (Builtin.append_ #[23, 23] 23 #[v, .slice (some ⟨w.heap.size, 0, none⟩) 1 1]).run Tryd.prog (w.alloc (.cells #[.int .i64 r.1, .int .i64 r.2] 48)) = .ok u w2 ∧ ORn w2 B u (l ++ [r]) ∧ ∀ W, W.heap.size ≤ B → AnyLater W w → AnyLater W w2 := by
  have a1 : AnyLater w (w.alloc (.cells #[.int .i64 r.1, .int .i64 r.2] 48)) := (AnyLater.refl w).alloc _
  have hm : RRn (w.alloc (.cells #[.int .i64 r.1, .int .i64 r.2] 48)) (.slice (some ⟨w.heap.size, 0, none⟩) 1 1) [r] := (ORn.one (B := 0) (Nat.zero_le _) (heap_new rfl)).reads
  have ho2 := ho.later a1
  obtain ⟨u, w2, k1, k2, k3⟩ := appRuns ho2 hm (Nat.le_trans hB a1.below.size) (by simp; omega)
  exact ⟨u, w2, k1, k2, fun W h1 h2 => ORn.grown ho2 h1 (h2.trans a1) k3⟩
/-- append([]api.Run{}, v...) -/
theorem copyRuns {w : World} {v : Value} {l : Runs} (hr : RRn w v l) (hl : l.length ≤ 90000) :
    ∃ u w2, (Builtin.append_ #[23, 23] 23 #[.slice (some ⟨w.heap.size, 0, none⟩) 0 0, v]).run Tryd.prog (w.alloc (.cells #[] 48)) = .ok u w2 ∧ AnyLater w w2 ∧ ORn w2 w.heap.size u l := by
  have a1 : AnyLater w (w.alloc (.cells #[] 48)) := (AnyLater.refl w).alloc _
  have ho := own_run0 w
  obtain ⟨u, w2, k1, k2, k3⟩ := appRuns ho (hr.later a1) a1.below.size (by simp; omega)
  exact ⟨u, w2, k1, ORn.grown ho (Nat.le_refl _) a1 k3, k2⟩

/-! ### Fair, Small -/
def NumsR (l : Runs) : Prop := ∀ r ∈ l, I64s r.1 ∧ I64s r.2
theorem NumsR.take {l : Runs} (h : NumsR l) (n : Nat) : NumsR (l.take n) := fun r hr => h r (List.mem_of_mem_take hr)
theorem fairR_split (n s : Int) (c : Bool) (hc : fairR (n, s) = c) : (decide (1 ≤ n) && decide (n ≤ 16777216) && goodS s) = c := by
  rw [← hc]; unfold fairR; simp [Bool.decide_and]
set_option maxRecDepth 100000 in
set_option maxHeartbeats 1600000 in
theorem fair_any (n s : Int) (w : World) (c : Bool) (hc : fairR (n, s) = c) (hn : I64s n) (hs : I64s s) : Calls Tryd.prog 23 #[.agg #[.int .i64 n, .int .i64 s]] w fun e w' => e = .returned (.bool c) ∧ AnyLater w w' := by
  have hc := fairR_split n s c hc
  have HG := Lib.hid (fun w => refGoodS_any s w _ rfl hs)
  have HC := Lib.hid hc
  generalize goodS s = g at *
  obtain ⟨n1, n2⟩ := hn
  obtain ⟨s1, s2⟩ := hs
  clear hc
  by_cases q1 : 1 ≤ n
  · by_cases q2 : n ≤ 16777216
    · have HC2 : Hid (g = c) := Lib.hid (by rw [← HC.out]; simp [q1, q2])
      go_enter Tryd.func23, Tryd.ntmps23
      go_wp2_with (go_at_call 38; refine (HG.out _).mono ?_; rintro e w' ⟨rfl, rfl⟩)
      go_ret
      exact ⟨ret_bool HC2.out, by repeat' (first | with_reducible assumption | with_reducible exact AnyLater.refl _ | with_reducible apply AnyLater.setCell | with_reducible apply AnyLater.later | with_reducible apply AnyLater.drewN | with_reducible apply AnyLater.drew | with_reducible apply AnyLater.alloc | ((try simp only [World.size_alloc, World.size_setCell, World.size_drew]); (try dsimp only); omega))⟩
    · have HC2 : Hid (false = c) := Lib.hid (by rw [← HC.out]; simp [q2])
      have d2 : decide (n ≤ 16777216) = false := decide_eq_false q2
      go_enter Tryd.func23, Tryd.ntmps23
      go_wp2_with (go_at_call 38; refine (HG.out _).mono ?_; rintro e w' ⟨rfl, rfl⟩)
      go_ret
      exact ⟨ret_bool HC2.out, by repeat' (first | with_reducible assumption | with_reducible exact AnyLater.refl _ | with_reducible apply AnyLater.setCell | with_reducible apply AnyLater.later | with_reducible apply AnyLater.drewN | with_reducible apply AnyLater.drew | with_reducible apply AnyLater.alloc | ((try simp only [World.size_alloc, World.size_setCell, World.size_drew]); (try dsimp only); omega))⟩
  · have HC2 : Hid (false = c) := Lib.hid (by rw [← HC.out]; simp [q1])
    have d1 : decide (1 ≤ n) = false := decide_eq_false q1
    go_enter Tryd.func23, Tryd.ntmps23
    go_wp2_with (go_at_call 38; refine (HG.out _).mono ?_; rintro e w' ⟨rfl, rfl⟩)
    go_ret
    exact ⟨ret_bool HC2.out, by repeat' (first | with_reducible assumption | with_reducible exact AnyLater.refl _ | with_reducible apply AnyLater.setCell | with_reducible apply AnyLater.later | with_reducible apply AnyLater.drewN | with_reducible apply AnyLater.drew | with_reducible apply AnyLater.alloc | ((try simp only [World.size_alloc, World.size_setCell, World.size_drew]); (try dsimp only); omega))⟩
theorem styles_take {l : Runs} {j : Nat} (h : j < l.length) : stylesR (l.take (j + 1)) = stylesR (l.take j) ++ oneR l[j] := by
  rw [List.take_succ_eq_append_getElem h, stylesR_append]
  simp [stylesR]
theorem styles_le (l : Runs) (j : Nat) : (stylesR (l.take j)).length ≤ (stylesR l).length := by
  conv => rhs; rw [← List.take_append_drop j l, stylesR_append, List.length_append]
  omega
def smallR (l : Runs) : Bool := decide ((stylesR l).length ≤ 4000) && decide (l.length ≤ 100)
set_option maxRecDepth 100000 in
set_option maxHeartbeats 3200000 in
theorem small_some (b off n cap : Nat) (l : Runs) (w : World) (c : Bool) (hcc : smallR l = c) (hl : l.length = n) (hn : n ≤ 100000) (hN : NumsR l) (hb : b < w.heap.size) (hc : ∀ (j : Nat) (h : j < l.length), w.cell? ⟨b, off + j * 2, none⟩ = some (.int .i64 l[j].1) ∧ w.cell? ⟨b, off + j * 2 + 1, none⟩ = some (.int .i64 l[j].2)) :
    Calls Tryd.prog 8 #[.slice (some ⟨b, off, none⟩) n cap] w fun e w' => e = .returned (.bool c) ∧ AnyLater w w' := by
  have HL := Lib.hid hl
  have HC := Lib.hid hc
  have HCC := Lib.hid hcc
  have HNN := Lib.hid hN
  clear hl hc hcc hN
  go_enter Tryd.func8, Tryd.ntmps8
  go_wp2_with fail
  go_loopg [3, 4] n (fun k s i wr => AnyLater w wr ∧ ∃ j : Nat, k = n - j ∧ j ≤ n ∧ i = .int .i64 j ∧ ∃ t : Nat, s = .int .i64 t ∧ (stylesR (l.take j)).length = t ∧ t ≤ 4000)
  case atStart => exact ⟨AnyLater.refl _, 0, by omega, by omega, rfl, 0, rfl, rfl, by omega⟩
  case round =>
    obtain ⟨a_wr, j, hk, hj, rfl, t, rfl, ht, ht4⟩ := hrel
    have HT := Lib.hid ht
    have HA := Lib.hid a_wr
    clear ht
    by_cases hlt : j < n
    · have lj : j < l.length := by rw [HL.out]; exact hlt
      have c0 : wr.cell? ⟨b, off + j * 2, none⟩ = some (.int .i64 l[j].1) := (a_wr.below.cell hb).trans (HC.out j lj).1
      have c1 : wr.cell? ⟨b, off + j * 2 + 1, none⟩ = some (.int .i64 l[j].2) := (a_wr.below.cell hb).trans (HC.out j lj).2
      have hlx : b < wr.heap.size := Nat.lt_of_lt_of_le hb a_wr.below.size
      have HS := Lib.hid (styles_take lj)
      have HM := Lib.hid (styles_le l (j + 1))
      have hx := HNN.out l[j] (List.getElem_mem lj)
      have HO : Hid (((oneR l[j]).length : Int) = if fairR l[j] then l[j].1 else 0) := Lib.hid oneR_length
      generalize l[j] = x at *
      obtain ⟨f, s⟩ := x
      simp only at c0 c1 hx HO
      cases hf : fairR (f, s) with
      | true =>
        have HF := Lib.hid (fun w => fair_any f s w true hf hx.1 hx.2)
        obtain ⟨f1, f2, _⟩ := fairR_in hf
        simp only at f1 f2
        have HO2 : Hid (((oneR (f, s)).length : Int) = f) := Lib.hid (by rw [HO.out, hf]; rfl)
        clear hf hx HO
        by_cases hg : 4000 - (t : Int) < f
        · have HZ : Hid (false = c) := Lib.hid (by
            rw [← HCC.out, eq_comm]
            unfold smallR
            rw [Bool.and_eq_false_iff]; left
            apply decide_eq_false
            have h1 := HM.out
            rw [HS.out, List.length_append, HT.out] at h1
            have h2 := HO2.out
            omega)
          go_wp2_with fail
          refine (HF.out _).mono ?_
          rintro e w1 ⟨rfl, b1⟩
          have d0 : w1.cell? ⟨b, off + j * 2, none⟩ = some (.int .i64 f) := (b1.below.cell hlx).trans c0
          have HA1 := Lib.hid (HA.out.trans b1)
          clear b1 a_wr
          go_wp2_with fail
          go_ret
          exact ⟨ret_bool HZ.out, HA1.out⟩
        · have hgf : decide (4000 - (t : Int) < f) = false := decide_eq_false hg
          go_wp2_with fail
          refine (HF.out _).mono ?_
          rintro e w1 ⟨rfl, b1⟩
          have d0 : w1.cell? ⟨b, off + j * 2, none⟩ = some (.int .i64 f) := (b1.below.cell hlx).trans c0
          have HA1 := Lib.hid (HA.out.trans b1)
          clear b1 a_wr
          go_wp2_with fail
          go_roundg (n - (j + 1))
          case measure => omega
          case rel => exact ⟨HA1.out, j + 1, rfl, hlt, by go_num, t + f.toNat, by go_num, by rw [HS.out, List.length_append, HT.out]; have := HO2.out; omega, by omega⟩
      | false =>
        have HF := Lib.hid (fun w => fair_any f s w false hf hx.1 hx.2)
        have HO2 : Hid (((oneR (f, s)).length : Int) = 0) := Lib.hid (by rw [HO.out, hf]; rfl)
        clear hf hx HO
        go_wp2_with fail
        refine (HF.out _).mono ?_
        rintro e w1 ⟨rfl, b1⟩
        have HA1 := Lib.hid (HA.out.trans b1)
        clear b1 a_wr
        go_wp2_with fail
        go_roundg (n - (j + 1))
        case measure => omega
        case rel => exact ⟨HA1.out, j + 1, rfl, hlt, by go_num, t, rfl, by rw [HS.out, List.length_append, HT.out]; have := HO2.out; omega, ht4⟩
    · obtain rfl : j = n := by omega
      have HZ : Hid (decide ((j : Int) ≤ 100) = c) := Lib.hid (by
        rw [← HCC.out]
        unfold smallR
        have := HT.out
        rw [List.take_of_length_le (Nat.le_of_eq HL.out)] at this
        rw [this, HL.out, decide_eq_true ht4, Bool.true_and, decide_eq_decide]
        omega)
      clear a_wr
      go_wp2_with fail
      go_ret
      exact ⟨ret_bool HZ.out, HA.out⟩
theorem small_none (A : Option Addr) (cap : Nat) (w : World) : Calls Tryd.prog 8 #[.slice A 0 cap] w fun e w' => e = .returned (.bool true) ∧ w = w' := by
  go_enter Tryd.func8, Tryd.ntmps8
  go_wp2_with fail
  refine wp_loop_rounds 1 ?_
  rw [rounds_succ]
  go_wp2_with fail
  go_ret
  exact ⟨rfl, rfl⟩
/-- Small of any runs -/
theorem small_any (v : Value) (l : Runs) (w : World) (c : Bool) (hc : smallR l = c) (h : RRn w v l) (hN : NumsR l) (hn : l.length ≤ 100000) : Calls Tryd.prog 8 #[v] w fun e w' => e = .returned (.bool c) ∧ AnyLater w w' := by
  obtain ⟨A, cap, rfl, h2, h3⟩ := h
  rcases Nat.eq_zero_or_pos l.length with h0 | h0
  · obtain rfl := List.eq_nil_of_length_eq_zero h0
    obtain rfl : true = c := by rw [← hc]; rfl
    exact same_later (small_none A cap w)
  · obtain ⟨b, off, rfl, hb, hcc⟩ := h3 h0
    exact small_some b off _ cap l w c hc rfl hn hN hb hcc
end Go.Proofs.YtimplngemjdodaaDoor
