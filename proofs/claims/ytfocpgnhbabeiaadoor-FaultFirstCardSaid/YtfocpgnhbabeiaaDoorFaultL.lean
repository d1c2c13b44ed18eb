/- fault: few, the first twenty places of any. -/
import Derived.Test.YtfocpgnhbabeiaaDoorFaultK
namespace Go.Proofs.YtfocpgnhbabeiaaDoor
set_option linter.unusedSimpArgs false
set_option linter.unusedVariables false
set_option linter.unusedSectionVars false
open Go.RowKit Go.Extern.Stop Go.Stop Go.Extern

/-- a slice that came in, of numbers, that lies below block B -/
def Ints (w : World) (B : Nat) (v : Value) (zs : List Int) : Prop :=
  (v = .slice none 0 0 ∧ zs = []) ∨ ∃ (a : Addr) (cap : Nat), v = .slice (some a) zs.length cap ∧ zs.length ≤ cap ∧ cap ≤ maxLen ∧ (0 < zs.length → a.block < B) ∧ ∀ i, i < zs.length → w.cell? (a.add i) = some (.int .i64 (zs.getD i 0))
def Row (W : World) (zs : List Int) (e : Ending) (w' : World) : Prop := ∃ v, e = .returned v ∧ AnyLater W w' ∧ w'.ownsRow W.heap.size 3 1 v zs.length (zs.map (Value.int .i64))

theorem own_empty (w : World) : (w.alloc (.cells #[] 3)).ownsRow w.heap.size 3 1 (.slice (some ⟨w.heap.size, 0, none⟩) 0 0) 0 [] :=
  ⟨rfl, .inr ⟨w.heap.size, 0, #[], rfl, Nat.le_refl _, heap_new rfl, Nat.le_refl _, Nat.zero_le _, rfl, rfl⟩⟩
theorem few_nil (w : World) :
    Calls Tryd.prog 6 #[.slice none 0 0] w (Row w []) := by
  have HL := Lib.hid (And.intro ((AnyLater.refl w).alloc (.cells #[] 3)) (own_empty w))
  go_enter Tryd.func6, Tryd.ntmps6
  go_wp2_with fail
  go_ret
  exact ⟨_, rfl, HL.out⟩
/-- what is known of the source of an append, in a later world -/
theorem src_cells {w w' : World} {a : Addr} {zs : List Int} (h : AnyLater w w') (hb : 0 < zs.length → a.block < w.heap.size) (hc : ∀ i, i < zs.length → w.cell? (a.add i) = some (.int .i64 (zs.getD i 0))) :
    ∀ (j : Nat) (u : Value), (zs.map (Value.int .i64))[j]? = some u → w'.cell? (a.add j) = some u := by
  intro j u hu
  have hj : j < zs.length := by
    rcases Nat.lt_or_ge j zs.length with h | h
    · exact h
    · rw [List.getElem?_eq_none (by simpa using h)] at hu; cases hu
  have e : (a.add j).block = a.block := by unfold Addr.add; split <;> rfl
  rw [h.below.cell (by rw [e]; exact hb (by omega)), hc j hj, ← hu]
  simp [hj]
theorem one_cells (zs : List Int) : ∀ u ∈ zs.map (Value.int .i64), u.oneCell' = true := by
  intro u hu
  obtain ⟨z, _, rfl⟩ := List.mem_map.1 hu
  rfl
theorem few_short (a : Addr) (zs : List Int) (n cap : Nat) (w : World) (hn : zs.length = n) (h1 : n ≤ 20) (hb : 0 < zs.length → a.block < w.heap.size) (hc : ∀ i, i < zs.length → w.cell? (a.add i) = some (.int .i64 (zs.getD i 0))) :
    Calls Tryd.prog 6 #[.slice (some a) n cap] w (Row w zs) := by
  obtain ⟨i0, hi0, hz0, hz1, hz2⟩ := info_parts info_int
  have HC := Lib.hid (src_cells ((AnyLater.refl w).alloc (.cells #[] 3)) hb hc)
  have HN := Lib.hid hn
  have k1 : decide ((20 : Int) < (n : Int)) = false := by simp; omega
  have HL := Lib.hid (And.intro ((AnyLater.refl w).alloc (.cells #[] 3)) (own_empty w))
  clear hc hn
  go_enter Tryd.func6, Tryd.ntmps6
  go_wp2_with (at_builtin; refine wpList_append_own _ rfl _ _ 22 rfl w.heap.size 3 i0 (.int .i64 0) 1 8 Tryd.underlying22 hi0 hz0 hz1 hz2 rfl (by decide) _ 0 [] rfl HL.out.2 a n cap (zs.map (Value.int .i64)) rfl (by rw [List.length_map, HN.out, Nat.mul_one]) HC.out (one_cells zs) (by unfold maxLen; omega) (by omega) (by simp) ?_; intro v' w1 hown1 hgrow hnil)
  have H : Hid (AnyLater w w1 ∧ w1.ownsRow w.heap.size 3 1 v' zs.length (zs.map (Value.int .i64))) := Lib.hid ⟨grown_later HL.out.1 hgrow (fun k hk => by cases hk; exact Nat.le_refl _), by rw [HN.out]; simpa using hown1⟩
  clear hown1 hgrow hnil
  go_wp2_with fail
  go_ret
  exact ⟨_, rfl, H.out⟩
theorem few_long (a : Addr) (zs : List Int) (n cap : Nat) (w : World) (hn : zs.length = n) (h1 : 20 < n) (h2 : n ≤ cap) (hb : 0 < zs.length → a.block < w.heap.size) (hc : ∀ i, i < zs.length → w.cell? (a.add i) = some (.int .i64 (zs.getD i 0))) :
    Calls Tryd.prog 6 #[.slice (some a) n cap] w (Row w (zs.take 20)) := by
  obtain ⟨i0, hi0, hz0, hz1, hz2⟩ := info_parts info_int
  have hl : (zs.take 20).length = 20 := by rw [List.length_take]; omega
  have HC := Lib.hid (src_cells (zs := zs.take 20) ((AnyLater.refl w).alloc (.cells #[] 3)) (fun _ => hb (by omega)) (fun i hi => by
    rw [hc i (by omega)]
    simp [List.getD_eq_getElem?_getD, List.getElem?_take, show i < 20 by omega]))
  have HN := Lib.hid hl
  have HL := Lib.hid (And.intro ((AnyLater.refl w).alloc (.cells #[] 3)) (own_empty w))
  have k1 : (20 : Int) < (n : Int) := by omega
  have k2 : (20 : Int) ≤ (cap : Int) := by omega
  clear hc hn hl
  go_enter Tryd.func6, Tryd.ntmps6
  go_wp2_with (at_builtin; refine wpList_append_own _ rfl _ _ 22 rfl w.heap.size 3 i0 (.int .i64 0) 1 8 Tryd.underlying22 hi0 hz0 hz1 hz2 rfl (by decide) _ 0 [] rfl HL.out.2 a 20 cap ((zs.take 20).map (Value.int .i64)) rfl (by rw [List.length_map, HN.out]) HC.out (one_cells _) (by unfold maxLen; omega) (by omega) (by simp) ?_; intro v' w1 hown1 hgrow hnil)
  have H : Hid (AnyLater w w1 ∧ w1.ownsRow w.heap.size 3 1 v' (zs.take 20).length ((zs.take 20).map (Value.int .i64))) := Lib.hid ⟨grown_later HL.out.1 hgrow (fun k hk => by cases hk; exact Nat.le_refl _), by rw [HN.out]; simpa using hown1⟩
  clear hown1 hgrow hnil
  go_wp2_with fail
  go_ret
  exact ⟨_, rfl, H.out⟩
/-- few of any slice -/
theorem few_any (v : Value) (zs : List Int) (w : World) (h : Ints w w.heap.size v zs) : Calls Tryd.prog 6 #[v] w (Row w (zs.take 20)) := by
  rcases h with ⟨rfl, rfl⟩ | ⟨a, cap, rfl, h2, h3, hb, hc⟩
  · exact few_nil w
  · rcases Nat.lt_or_ge 20 zs.length with h | h
    · exact few_long a zs _ cap w rfl h h2 hb hc
    · have := few_short a zs _ cap w rfl h hb hc
      rwa [List.take_of_length_le h]
end Go.Proofs.YtfocpgnhbabeiaaDoor
