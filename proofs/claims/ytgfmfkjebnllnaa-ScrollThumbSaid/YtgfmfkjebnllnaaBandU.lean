/- band: changed of any bands, Tidy, Height, and append of bands, by contract. -/
import Derived.Test.YtgfmfkjebnllnaaBandT
import Derived.Test.YtgfmfkjebnllnaaBandD
import Derived.Lib.AppendZeros
import Derived.Deep.Upon
namespace Go.Proofs.Ytgfmfkjebnllnaa
set_option linter.unusedSimpArgs false
set_option linter.unusedVariables false
set_option linter.unusedSectionVars false
open Go.RowKit

set_option maxRecDepth 100000 in
set_option maxHeartbeats 1600000 in
theorem changed_none (A : Option Addr) (cap gc : Nat) (cb : Array Value) (w : World) :
    Calls Try.prog 28 #[.slice A 0 cap, .func (.func gc) #[] cb] w (Merged w []) := by
  go_enter Try.func28, Try.ntmps28
  go_wp2_with fail
  refine wp_loop_rounds 1 ?_
  rw [rounds_succ]
  go_wp2_with fail
  refine (AnyF.slices_SortFunc_none sortLay none 0 _ w).mono ?_
  rintro e w' ⟨rfl, rfl⟩
  go_wp2_with fail
  refine (merged_nil _).mono ?_
  rintro e w' ⟨rfl, rfl⟩
  go_wp2_with fail
  go_ret
  exact ⟨_, [], rfl, AnyLater.refl _, ⟨rfl, .inl ⟨rfl, rfl⟩⟩, GoodL.nil, fun y => rfl⟩
theorem changed_any (v : Value) (gc : Nat) (cb : Array Value) (h : Int × Int → Int × Int) (l : Bands) (w : World) (hr : RB w v l) (hn : l.length ≤ 100000)
    (hin : ∀ b, -1073741824 ≤ (h (edgeB b)).1 ∧ (h (edgeB b)).2 ≤ 1073741824) (hcf : ∀ args w, (callFunc gc args).run Try.prog w = .ok (.enter gc args) w) (hdo : Makes w gc cb h) :
    Calls Try.prog 28 #[v, .func (.func gc) #[] cb] w (Merged w (pickB h l)) := by
  obtain ⟨A, cap, rfl, h2, h3⟩ := hr
  rcases Nat.eq_zero_or_pos l.length with h0 | h0
  · obtain rfl := List.eq_nil_of_length_eq_zero h0
    exact changed_none A cap gc cb w
  · obtain ⟨b, off, rfl, hb, hc⟩ := h3 h0
    exact changed_some b off _ cap gc cb h l w rfl h0 hn hb hc hin hcf hdo

/-! ### Tidy -/
theorem tidy_makes (w : World) : Makes w 37 #[] id := fun b1 b2 _ w' _ => same_clo b1 b2 w'
theorem tidy_any (v : Value) (l : Bands) (w : World) (hr : RB w v l) (hn : l.length ≤ 100000) : Calls Try.prog 31 #[v] w (Told w (inB l)) := by
  have hcf : ∀ args w, (callFunc 37 args).run Try.prog w = .ok (.enter 37 args) w := enters_of Try.func37 (by kernel_rfl) rfl
  have hin : ∀ b, -1073741824 ≤ (id (edgeB b)).1 ∧ (id (edgeB b)).2 ≤ 1073741824 := fun b => by have := edge_in b; exact ⟨this.1, this.2.2.2⟩
  have hq : ∀ y, inB (pickB id l) y = inB l y := fun y => by
    rw [pickB_rows hin]
    unfold inB
    congr 1
    funext b
    rw [decide_eq_decide]
    exact edge_rows b y
  have H := Lib.hid (changed_any v _ #[] id l w hr hn hin hcf (tidy_makes w))
  have HQ := Lib.hid hq
  clear hr hin hcf hq
  go_enter Try.func31, Try.ntmps31
  go_wp2_with fail
  refine H.out.mono ?_
  rintro e w1 ⟨v1, T, rfl, a_w1, o1, g1, r1⟩
  have HE := Lib.hid (And.intro o1.reads (And.intro g1 r1))
  clear o1 g1 r1
  go_wp2_with fail
  go_ret
  exact ⟨_, T, rfl, a_w1, HE.out.1, HE.out.2.1, fun y => (HE.out.2.2 y).trans (HQ.out y)⟩
theorem told_len {T l : Bands} (hg : GoodL T) (hr : ∀ y, inB T y = inB l y) (hn : l.length ≤ 5000) : T.length ≤ 5001 := by have := len_one hg hr; omega

/-! ### Height -/
/-! ### append of bands -/
/-- append(x, y...) at bands, x a row of the call's own -/
theorem run_append_bands {w : World} {B : Nat} {v v2 : Value} {l l2 : Bands} (ty : TypeId) (hB : B ≤ w.heap.size) (ho : OB w B v l) (hr : RB w v2 l2) (hn : l.length + l2.length ≤ 200000) :
    ∃ v' w', (Builtin.append_ #[31, 31] ty #[v, v2]).run Try.prog w = .ok v' w' ∧ OB w' B v' (l ++ l2) ∧ ∀ W, AnyLater W w → W.heap.size ≤ B → AnyLater W w' := by
  obtain ⟨i0, hi0, hz0, hz1, hz2⟩ := info_parts info_band
  obtain ⟨A, cap, rfl, h2, h3⟩ := hr
  rcases Nat.eq_zero_or_pos l2.length with h0 | h0
  · obtain rfl := List.eq_nil_of_length_eq_zero h0
    cases A with
    | none =>
      have hs := Src.ofNil (P := Try.prog) w (size := i0.size) Try.underlying31 cap
      obtain ⟨a0, c0, hv, hle⟩ : ∃ a0 c0, v = .slice a0 l.length c0 ∧ l.length ≤ c0 := by
        rcases ho.2 with ⟨rfl, hk⟩ | ⟨g, c, cur, rfl, _, _, q, _⟩
        · exact ⟨none, 0, by rw [hk], by omega⟩
        · exact ⟨_, c, rfl, q⟩
      refine ⟨v, w, ?_, by rw [List.append_nil]; exact ho, fun W h _ => h⟩
      subst hv
      exact run_append_nothing (P := Try.prog) w 31 31 ty 39 i0 Try.underlying31 hi0 a0 _ c0 hle _ hs
    | some ad =>
      obtain ⟨v', w', k1, k2, k3, _⟩ := run_append_own (P := Try.prog) w B 31 ty 39 i0 (.agg #[.int .i64 0, .int .i64 0]) 2 16 Try.underlying31 hi0 hz0 hz1 hz2 rfl (by decide) v l.length (flatB l) ho ad 0 cap [] rfl (by simp) (by simp) (by unfold maxLen; simp at hn; omega) (by simp at hn; omega) hB
      exact ⟨v', w', k1, by unfold OB; rw [List.append_nil]; simpa using k2, fun W h hW => grown_later h k3 (fun k hk => Nat.le_trans hW (owns_base ho k hk))⟩
  · obtain ⟨b, off, rfl, hb, hc⟩ := h3 h0
    obtain ⟨v', w', k1, k2, k3, _⟩ := run_append_own (P := Try.prog) w B 31 ty 39 i0 (.agg #[.int .i64 0, .int .i64 0]) 2 16 Try.underlying31 hi0 hz0 hz1 hz2 rfl (by decide) v l.length (flatB l) ho ⟨b, off, none⟩ l2.length cap (flatB l2) (flatB_length l2) (RB.cells (AnyLater.refl w) (fun _ => hb) hc) (flatB_one l2) (by unfold maxLen; omega) (by omega) hB
    exact ⟨v', w', k1, by unfold OB; rw [List.length_append, flatB_append]; exact k2, fun W h hW => grown_later h k3 (fun k hk => Nat.le_trans hW (owns_base ho k hk))⟩
end Go.Proofs.Ytgfmfkjebnllnaa
