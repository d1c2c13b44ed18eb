/- band: changed of any bands, Tidy, Height, and append of bands, by contract. -/
import Derived.Test.YtcgbfdjdpjdncaaBandT
import Derived.Test.YtcgbfdjdpjdncaaBandD
import Derived.Lib.AppendZeros
import Derived.Deep.Upon
namespace Go.Proofs.Ytcgbfdjdpjdncaa
set_option linter.unusedSimpArgs false
set_option linter.unusedVariables false
set_option linter.unusedSectionVars false
open Go.RowKit

set_option maxRecDepth 100000 in
set_option maxHeartbeats 1600000 in
theorem changed_none (A : Option Addr) (cap gc : Nat) (cb : Array Value) (w : World) :
    Calls Try.prog 22 #[.slice A 0 cap, .func (.func gc) #[] cb] w (Merged w []) := by
  go_enter Try.func22, Try.ntmps22
  go_wp2_with fail
  refine wp_loop_rounds 1 ?_
  rw [rounds_succ]
  go_wp2_with fail
  refine (AnyF.slices_SortFunc_none sortLay none 0 _ w).mono ?_
  rintro e w' ⟨rfl, rfl⟩
  go_wp2_with fail
  refine (merged_nil _).mono ?_
  rintro e w' ⟨rfl, rfl⟩
  go_wp2_with fail
  go_ret
  exact ⟨_, [], rfl, AnyLater.refl _, ⟨rfl, .inl ⟨rfl, rfl⟩⟩, GoodL.nil, fun y => rfl⟩
theorem changed_any (v : Value) (gc : Nat) (cb : Array Value) (h : Int × Int → Int × Int) (l : Bands) (w : World) (hr : RB w v l) (hn : l.length ≤ 100000)
    (hin : ∀ b, -1073741824 ≤ (h (edgeB b)).1 ∧ (h (edgeB b)).2 ≤ 1073741824) (hcf : ∀ args w, (callFunc gc args).run Try.prog w = .ok (.enter gc args) w) (hdo : Makes w gc cb h) :
    Calls Try.prog 22 #[v, .func (.func gc) #[] cb] w (Merged w (pickB h l)) := by
  obtain ⟨A, cap, rfl, h2, h3⟩ := hr
  rcases Nat.eq_zero_or_pos l.length with h0 | h0
  · obtain rfl := List.eq_nil_of_length_eq_zero h0
    exact changed_none A cap gc cb w
  · obtain ⟨b, off, rfl, hb, hc⟩ := h3 h0
    exact changed_some b off _ cap gc cb h l w rfl h0 hn hb hc hin hcf hdo

/-! ### Tidy -/
theorem tidy_makes (w : World) : Makes w 23 #[] id := fun b1 b2 _ w' _ => same_clo b1 b2 w'
theorem tidy_any (v : Value) (l : Bands) (w : World) (hr : RB w v l) (hn : l.length ≤ 100000) : Calls Try.prog 13 #[v] w (Told w (inB l)) := by
  have hcf : ∀ args w, (callFunc 23 args).run Try.prog w = .ok (.enter 23 args) w := enters_of Try.func23 (by kernel_rfl) rfl
  have hin : ∀ b, -1073741824 ≤ (id (edgeB b)).1 ∧ (id (edgeB b)).2 ≤ 1073741824 := fun b => by have := edge_in b; exact ⟨this.1, this.2.2.2⟩
  have hq : ∀ y, inB (pickB id l) y = inB l y := fun y => by
    rw [pickB_rows hin]
    unfold inB
    congr 1
    funext b
    rw [decide_eq_decide]
    exact edge_rows b y
  have H := Lib.hid (changed_any v _ #[] id l w hr hn hin hcf (tidy_makes w))
  have HQ := Lib.hid hq
  clear hr hin hcf hq
  go_enter Try.func13, Try.ntmps13
  go_wp2_with fail
  refine H.out.mono ?_
  rintro e w1 ⟨v1, T, rfl, a_w1, o1, g1, r1⟩
  have HE := Lib.hid (And.intro o1.reads (And.intro g1 r1))
  clear o1 g1 r1
  go_wp2_with fail
  go_ret
  exact ⟨_, T, rfl, a_w1, HE.out.1, HE.out.2.1, fun y => (HE.out.2.2 y).trans (HQ.out y)⟩
theorem told_len {T l : Bands} (hg : GoodL T) (hr : ∀ y, inB T y = inB l y) (hn : l.length ≤ 5000) : T.length ≤ 5001 := by have := len_one hg hr; omega

/-! ### Height -/
set_option maxRecDepth 100000 in
set_option maxHeartbeats 1600000 in
theorem height_any (v : Value) (l T : Bands) (w : World) (hr : RB w v l) (hn : l.length ≤ 5000) (hT : GoodL T) (hy : ∀ y, inB T y = inB l y) :
    Calls Try.prog 21 #[v] w fun e w' => e = .returned (.int .i64 (heightL T)) ∧ AnyLater w w' := by
  have H := Lib.hid (tidy_any v l w hr (by omega))
  have HT := Lib.hid (And.intro hT (And.intro hy (told_len hT hy hn)))
  clear hr hn hT hy
  go_enter Try.func21, Try.ntmps21
  go_wp2_with fail
  refine H.out.mono ?_
  rintro e w1 ⟨v1, T1, rfl, a_w1, hr, hg, hy⟩
  obtain rfl : T1 = T := good_unique hg HT.out.1 (fun y => (hy y).trans (HT.out.2.1 y).symm)
  obtain ⟨A, cap, rfl, h2, h3⟩ := hr
  clear hy hg H h2
  rcases Nat.eq_zero_or_pos T1.length with h0 | h0
  · obtain rfl := List.eq_nil_of_length_eq_zero h0
    clear h3 h0
    simp only [List.length_nil]
    go_wp2_with fail
    refine wp_loop_rounds 1 ?_
    rw [rounds_succ]
    go_wp2_with fail
    go_ret
    exact ⟨rfl, a_w1⟩
  · obtain ⟨b, off, rfl, hb, hc⟩ := h3 h0
    have HC := Lib.hid hc
    obtain ⟨n, hn⟩ : ∃ n, T1.length = n := ⟨_, rfl⟩
    have HN := Lib.hid hn
    have kn : n ≤ 5001 := by rw [← hn]; exact HT.out.2.2
    rw [hn]
    clear hc h3 h0 hn
    go_wp2_with fail
    go_loopg [3, 9] n (fun k v i wr => ∃ j : Nat, k = n - j ∧ j ≤ n ∧ i = .int .i64 j ∧ v = .int .i64 (sumB (T1.take j)) ∧ AnyLater w1 wr)
    case atStart => exact ⟨0, by omega, by omega, rfl, rfl, AnyLater.refl _⟩
    case round =>
      obtain ⟨j, hk, hj, rfl, rfl, a_wr⟩ := hrel
      by_cases hlt : j < n
      · have lj : j < T1.length := by rw [HN.out]; exact hlt
        have c0 : wr.cell? ⟨b, off + j * 2, none⟩ = some (.int .i64 T1[j].1) := (a_wr.below.cell hb).trans (HC.out j lj).1
        have c1 : wr.cell? ⟨b, off + j * 2 + 1, none⟩ = some (.int .i64 T1[j].2) := (a_wr.below.cell hb).trans (HC.out j lj).2
        have hs := sumB_in HT.out.1 j (by omega)
        have hs2 := Lib.hid (sumB_take lj)
        have hb2 := HT.out.1.1 _ (List.getElem_mem lj)
        have HAW := Lib.hid (a_w1.trans a_wr)
        generalize T1[j] = x at *
        generalize sumB (T1.take j) = s at *
        obtain ⟨f, t⟩ := x
        simp only at c0 c1 hb2
        obtain ⟨b1, b2, b3⟩ := hb2
        obtain ⟨s1, s2⟩ := hs
        have s3 : s ≤ 20000000000000 := by omega
        clear s2
        go_wp2_with fail
        go_roundg (n - (j + 1))
        case measure => omega
        case rel => exact ⟨j + 1, rfl, hlt, by go_num, by rw [hs2.out], by repeat' (first | with_reducible assumption | with_reducible exact AnyLater.refl _ | with_reducible apply AnyLater.setCell | with_reducible apply AnyLater.later | with_reducible apply AnyLater.drewN | with_reducible apply AnyLater.drew | with_reducible apply AnyLater.alloc | ((try simp only [World.size_alloc, World.size_setCell, World.size_drew]); (try dsimp only); omega))⟩
      · obtain rfl : j = n := by omega
        have HE : Hid (sumB (T1.take j) = heightL T1) := Lib.hid (by rw [List.take_of_length_le (Nat.le_of_eq HN.out)]; rfl)
        go_wp2_with fail
        go_ret
        exact ⟨ret_int HE.out, a_w1.trans a_wr⟩

/-! ### append of bands -/
/-- append(x, y...) at bands, x a row of the call's own -/
theorem run_append_bands {w : World} {B : Nat} {v v2 : Value} {l l2 : Bands} (ty : TypeId) (hB : B ≤ w.heap.size) (ho : OB w B v l) (hr : RB w v2 l2) (hn : l.length + l2.length ≤ 200000) :
    ∃ v' w', (Builtin.append_ #[22, 22] ty #[v, v2]).run Try.prog w = .ok v' w' ∧ OB w' B v' (l ++ l2) ∧ ∀ W, AnyLater W w → W.heap.size ≤ B → AnyLater W w' := by
  obtain ⟨i0, hi0, hz0, hz1, hz2⟩ := info_parts info_band
  obtain ⟨A, cap, rfl, h2, h3⟩ := hr
  rcases Nat.eq_zero_or_pos l2.length with h0 | h0
  · obtain rfl := List.eq_nil_of_length_eq_zero h0
    cases A with
    | none =>
      have hs := Src.ofNil (P := Try.prog) w (size := i0.size) Try.underlying22 cap
      obtain ⟨a0, c0, hv, hle⟩ : ∃ a0 c0, v = .slice a0 l.length c0 ∧ l.length ≤ c0 := by
        rcases ho.2 with ⟨rfl, hk⟩ | ⟨g, c, cur, rfl, _, _, q, _⟩
        · exact ⟨none, 0, by rw [hk], by omega⟩
        · exact ⟨_, c, rfl, q⟩
      refine ⟨v, w, ?_, by rw [List.append_nil]; exact ho, fun W h _ => h⟩
      subst hv
      exact run_append_nothing (P := Try.prog) w 22 22 ty 38 i0 Try.underlying22 hi0 a0 _ c0 hle _ hs
    | some ad =>
      obtain ⟨v', w', k1, k2, k3, _⟩ := run_append_own (P := Try.prog) w B 22 ty 38 i0 (.agg #[.int .i64 0, .int .i64 0]) 2 16 Try.underlying22 hi0 hz0 hz1 hz2 rfl (by decide) v l.length (flatB l) ho ad 0 cap [] rfl (by simp) (by simp) (by unfold maxLen; simp at hn; omega) (by simp at hn; omega) hB
      exact ⟨v', w', k1, by unfold OB; rw [List.append_nil]; simpa using k2, fun W h hW => grown_later h k3 (fun k hk => Nat.le_trans hW (owns_base ho k hk))⟩
  · obtain ⟨b, off, rfl, hb, hc⟩ := h3 h0
    obtain ⟨v', w', k1, k2, k3, _⟩ := run_append_own (P := Try.prog) w B 22 ty 38 i0 (.agg #[.int .i64 0, .int .i64 0]) 2 16 Try.underlying22 hi0 hz0 hz1 hz2 rfl (by decide) v l.length (flatB l) ho ⟨b, off, none⟩ l2.length cap (flatB l2) (flatB_length l2) (RB.cells (AnyLater.refl w) (fun _ => hb) hc) (flatB_one l2) (by unfold maxLen; omega) (by omega) hB
    exact ⟨v', w', k1, by unfold OB; rw [List.length_append, flatB_append]; exact k2, fun W h hW => grown_later h k3 (fun k hk => Nat.le_trans hW (owns_base ho k hk))⟩
end Go.Proofs.Ytcgbfdjdpjdncaa
