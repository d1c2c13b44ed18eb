/- utf: the document's own Encode; Few; Ints: by contract. -/
import Derived.Test.YtimplngemjdodaaDoorUtfB
import Derived.BigQuiet
import Derived.Lib.AppendZeros
import Derived.Deep.OwnRows
namespace Go.Proofs.YtimplngemjdodaaDoor
set_option linter.unusedSimpArgs false
set_option linter.unusedVariables false
set_option linter.unusedSectionVars false
open Go.RowKit

theorem ON.made {k : IntKind} {t : TypeId} {w : World} {g B : Nat} {l : List Int} {cs : Array Value} (n : Nat) (hl : l.length = n) (hB : B ≤ g) (h : w.heap[g]? = some (.cells cs t)) (hc : cs.toList = l.map (Value.int k)) (hn : n ≤ 1000) : ON k t w B (.slice (some ⟨g, 0, none⟩) n n) l := by
  subst hl
  have hs : cs.size = l.length := by have := congrArg List.length hc; simpa using this
  exact ⟨by simp, .inr ⟨g, l.length, cs, rfl, hB, h, Nat.le_refl _, by unfold maxLen; omega, by omega, by rw [hc, List.take_of_length_le (by simp)]⟩⟩
theorem encU_bad {r : Int} (h : goodR r = false) : encU r = [239, 191, 189] := by
  unfold encU fixR
  rw [if_neg (by rw [h]; decide)]
  decide
theorem encU_good {r : Int} (h : 0 ≤ r ∧ r ≤ 1114111 ∧ ¬ (55296 ≤ r ∧ r ≤ 57343)) : encU r = encN r := encU_of (decide_eq_true h)
theorem goodR_no {r : Int} (h : ¬ (0 ≤ r ∧ r ≤ 1114111 ∧ ¬ (55296 ≤ r ∧ r ≤ 57343))) : goodR r = false := decide_eq_false h
set_option maxRecDepth 100000 in
set_option maxHeartbeats 3200000 in
theorem refEnc_any (r : Int) (w : World) (hr : -2147483648 ≤ r ∧ r ≤ 2147483647) :
    Calls Tryd.prog 43 #[.int .i32 r] w fun e w' => ∃ u, e = .returned u ∧ AnyLater w w' ∧ ON .u8 5 w' w.heap.size u (encU r) := by
  obtain ⟨h1, h2⟩ := hr
  by_cases q1 : r < 0
  · have HE : Hid (encU r = [239, 191, 189]) := Lib.hid (encU_bad (goodR_no (by omega)))
    go_enter Tryd.func43, Tryd.ntmps43
    go_wp2_with fail
    go_ret
    exact ⟨_, rfl, by repeat' (first | with_reducible assumption | with_reducible exact AnyLater.refl _ | with_reducible apply AnyLater.setCell | with_reducible apply AnyLater.later | with_reducible apply AnyLater.drewN | with_reducible apply AnyLater.drew | with_reducible apply AnyLater.alloc | ((try simp only [World.size_alloc, World.size_setCell, World.size_drew]); (try dsimp only); omega)), by rw [HE.out]; exact ON.made 3 rfl (Nat.le_refl _) (heap_new rfl) rfl (by decide)⟩
  by_cases q2 : r > 1114111
  · have HE : Hid (encU r = [239, 191, 189]) := Lib.hid (encU_bad (goodR_no (by omega)))
    go_enter Tryd.func43, Tryd.ntmps43
    go_wp2_with fail
    go_ret
    exact ⟨_, rfl, by repeat' (first | with_reducible assumption | with_reducible exact AnyLater.refl _ | with_reducible apply AnyLater.setCell | with_reducible apply AnyLater.later | with_reducible apply AnyLater.drewN | with_reducible apply AnyLater.drew | with_reducible apply AnyLater.alloc | ((try simp only [World.size_alloc, World.size_setCell, World.size_drew]); (try dsimp only); omega)), by rw [HE.out]; exact ON.made 3 rfl (Nat.le_refl _) (heap_new rfl) rfl (by decide)⟩
  by_cases q3 : 55296 ≤ r
  · by_cases q4 : r ≤ 57343
    · have HE : Hid (encU r = [239, 191, 189]) := Lib.hid (encU_bad (goodR_no (by omega)))
      go_enter Tryd.func43, Tryd.ntmps43
      go_wp2_with fail
      go_ret
      exact ⟨_, rfl, by repeat' (first | with_reducible assumption | with_reducible exact AnyLater.refl _ | with_reducible apply AnyLater.setCell | with_reducible apply AnyLater.later | with_reducible apply AnyLater.drewN | with_reducible apply AnyLater.drew | with_reducible apply AnyLater.alloc | ((try simp only [World.size_alloc, World.size_setCell, World.size_drew]); (try dsimp only); omega)), by rw [HE.out]; exact ON.made 3 rfl (Nat.le_refl _) (heap_new rfl) rfl (by decide)⟩
    by_cases q5 : r < 65536
    · have HE : Hid (encU r = [224 + r / 4096, 128 + r / 64 % 64, 128 + r % 64]) := Lib.hid (by rw [encU_good (by omega)]; unfold encN; rw [if_neg (by omega), if_neg (by omega), if_pos (by omega)])
      go_enter Tryd.func43, Tryd.ntmps43
      go_wp2_with fail
      go_ret
      exact ⟨_, rfl, by repeat' (first | with_reducible assumption | with_reducible exact AnyLater.refl _ | with_reducible apply AnyLater.setCell | with_reducible apply AnyLater.later | with_reducible apply AnyLater.drewN | with_reducible apply AnyLater.drew | with_reducible apply AnyLater.alloc | ((try simp only [World.size_alloc, World.size_setCell, World.size_drew]); (try dsimp only); omega)), by rw [HE.out]; exact ON.made 3 rfl (Nat.le_refl _) (heap_new rfl) rfl (by decide)⟩
    · have HE : Hid (encU r = [240 + r / 262144, 128 + r / 4096 % 64, 128 + r / 64 % 64, 128 + r % 64]) := Lib.hid (by rw [encU_good (by omega)]; unfold encN; rw [if_neg (by omega), if_neg (by omega), if_neg (by omega)])
      go_enter Tryd.func43, Tryd.ntmps43
      go_wp2_with fail
      go_ret
      exact ⟨_, rfl, by repeat' (first | with_reducible assumption | with_reducible exact AnyLater.refl _ | with_reducible apply AnyLater.setCell | with_reducible apply AnyLater.later | with_reducible apply AnyLater.drewN | with_reducible apply AnyLater.drew | with_reducible apply AnyLater.alloc | ((try simp only [World.size_alloc, World.size_setCell, World.size_drew]); (try dsimp only); omega)), by rw [HE.out]; exact ON.made 4 rfl (Nat.le_refl _) (heap_new rfl) rfl (by decide)⟩
  by_cases q6 : r < 128
  · have HE : Hid (encU r = [r]) := Lib.hid (by rw [encU_good (by omega)]; unfold encN; rw [if_pos (by omega)])
    go_enter Tryd.func43, Tryd.ntmps43
    go_wp2_with fail
    go_ret
    exact ⟨_, rfl, by repeat' (first | with_reducible assumption | with_reducible exact AnyLater.refl _ | with_reducible apply AnyLater.setCell | with_reducible apply AnyLater.later | with_reducible apply AnyLater.drewN | with_reducible apply AnyLater.drew | with_reducible apply AnyLater.alloc | ((try simp only [World.size_alloc, World.size_setCell, World.size_drew]); (try dsimp only); omega)), by rw [HE.out]; exact ON.made 1 rfl (Nat.le_refl _) (heap_new rfl) rfl (by decide)⟩
  by_cases q7 : r < 2048
  · have HE : Hid (encU r = [192 + r / 64, 128 + r % 64]) := Lib.hid (by rw [encU_good (by omega)]; unfold encN; rw [if_neg (by omega), if_pos (by omega)])
    go_enter Tryd.func43, Tryd.ntmps43
    go_wp2_with fail
    go_ret
    exact ⟨_, rfl, by repeat' (first | with_reducible assumption | with_reducible exact AnyLater.refl _ | with_reducible apply AnyLater.setCell | with_reducible apply AnyLater.later | with_reducible apply AnyLater.drewN | with_reducible apply AnyLater.drew | with_reducible apply AnyLater.alloc | ((try simp only [World.size_alloc, World.size_setCell, World.size_drew]); (try dsimp only); omega)), by rw [HE.out]; exact ON.made 2 rfl (Nat.le_refl _) (heap_new rfl) rfl (by decide)⟩
  · have HE : Hid (encU r = [224 + r / 4096, 128 + r / 64 % 64, 128 + r % 64]) := Lib.hid (by rw [encU_good (by omega)]; unfold encN; rw [if_neg (by omega), if_neg (by omega), if_pos (by omega)])
    go_enter Tryd.func43, Tryd.ntmps43
    go_wp2_with fail
    go_ret
    exact ⟨_, rfl, by repeat' (first | with_reducible assumption | with_reducible exact AnyLater.refl _ | with_reducible apply AnyLater.setCell | with_reducible apply AnyLater.later | with_reducible apply AnyLater.drewN | with_reducible apply AnyLater.drew | with_reducible apply AnyLater.alloc | ((try simp only [World.size_alloc, World.size_setCell, World.size_drew]); (try dsimp only); omega)), by rw [HE.out]; exact ON.made 3 rfl (Nat.le_refl _) (heap_new rfl) rfl (by decide)⟩

/-! ### Few -/
set_option maxRecDepth 100000 in
set_option maxHeartbeats 3200000 in
theorem few8_any (v : Value) (l : List Int) (m : Nat) (w : World) (hv : RU8 w v l) (hm : m ≤ 1000) :
    Calls Tryd.prog 6 #[v, .int .i64 (m : Int)] w fun e w' => ∃ u, e = .returned u ∧ AnyLater w w' ∧ ON .u8 5 w' w.heap.size u (l.take m) := by
  obtain ⟨A, cap, rfl, hc⟩ := hv.form
  have HV := Lib.hid hv
  obtain ⟨n, hn⟩ : ∃ n, l.length = n := ⟨_, rfl⟩
  have HNN := Lib.hid hn
  rw [hn] at HV hc ⊢
  clear hv
  have HX : Hid (∀ (w1 : World), AnyLater w w1 → ∀ a2 c2, RU8 w1 (.slice a2 (l.take m).length c2) (l.take m) → ∃ u w2, (Builtin.append_ #[22, 22] 22 #[.slice (some ⟨w1.heap.size, 0, none⟩) 0 0, .slice a2 (l.take m).length c2]).run Tryd.prog (w1.alloc (.cells #[] 5)) = .ok u w2 ∧ AnyLater w w2 ∧ ON .u8 5 w2 w.heap.size u (l.take m)) := Lib.hid (fun w1 h1 a2 c2 h2 => by
    obtain ⟨u, w2, k1, k2, k3⟩ := copy8 h2 (by rw [List.length_take]; omega)
    exact ⟨u, w2, k1, h1.trans k2, k3.wide h1.below.size⟩)
  by_cases q : m < n
  · have hl : (l.take m).length = m := by rw [List.length_take]; omega
    have hr : RU8 w (.slice A (l.take m).length cap) (l.take m) := by
      rw [hl]
      have h := HV.out
      rw [← HNN.out] at h
      exact RN.take h m (by omega)
    obtain ⟨u, w2, k1, k2, k3⟩ := HX.out w (AnyLater.refl w) A cap hr
    rw [hl] at k1
    have K1 := Lib.hid k1
    have KK := Lib.hid (And.intro k2 k3)
    clear k1 k2 k3 hr hl hn
    go_enter Tryd.func6, Tryd.ntmps6
    go_wp2_with (at_builtin; refine Lib.wpList_append_run _ rfl _ _ _ _ rfl _ _ rfl rfl _ _ K1.out ?_)
    go_ret
    exact ⟨_, rfl, KK.out.1, KK.out.2⟩
  · have hl : l.take m = l := List.take_of_length_le (by omega)
    have hr : RU8 w (.slice A (l.take m).length cap) (l.take m) := by
      rw [hl, HNN.out]; exact HV.out
    obtain ⟨u, w2, k1, k2, k3⟩ := HX.out w (AnyLater.refl w) A cap hr
    rw [hl, HNN.out] at k1
    have K1 := Lib.hid k1
    have KK := Lib.hid (And.intro k2 k3)
    clear k1 k2 k3 hr hl hn
    go_enter Tryd.func6, Tryd.ntmps6
    go_wp2_with (at_builtin; refine Lib.wpList_append_run _ rfl _ _ _ _ rfl _ _ rfl rfl _ _ K1.out ?_)
    go_ret
    exact ⟨_, rfl, KK.out.1, KK.out.2⟩
end Go.Proofs.YtimplngemjdodaaDoor
