/- runs: RunsGreat, walked. -/
import Derived.Test.YtbegglgekkbcoaaRunF
namespace Go.Proofs.Ytbegglgekkbcoaa
set_option linter.unusedSimpArgs false
set_option linter.unusedVariables false
set_option linter.unusedSectionVars false
open Go.RowKit

theorem ofR_replicate (s : Int) : ∀ n : Nat, ofR (List.replicate (n + 1) s) = [((n : Int) + 1, s)]
  | 0 => rfl
  | n + 1 => by
    rw [List.replicate_succ]
    show consR s (ofR (List.replicate (n + 1) s)) = _
    rw [ofR_replicate s n, consR_cons, if_pos rfl, Int.natCast_succ]
theorem ORn.two {w : World} {g B : Nat} {r q : Int × Int} (hB : B ≤ g) (h : w.heap[g]? = some (.cells #[.int .i64 r.1, .int .i64 r.2, .int .i64 q.1, .int .i64 q.2] 45)) : ORn w B (.slice (some ⟨g, 0, none⟩) 2 2) [r, q] := ⟨rfl, .inr ⟨g, 2, _, rfl, hB, h, Nat.le_refl _, by unfold maxLen; omega, rfl, rfl⟩⟩
def greatR (n : Int) : Runs := [(16777216, 1), (n, 2)]
theorem great_styles (n : Int) : stylesR (greatR n) = List.replicate 16777216 1 ++ oneR (n, 2) := by
  unfold greatR
  rw [stylesR_cons, stylesR_cons, stylesR_nil, List.append_nil]
  have h : oneR (16777216, 1) = List.replicate 16777216 1 := by
    have hf : fairR (16777216, 1) = true := by decide
    have e : ((16777216 : Int), (1 : Int)).1.toNat = 16777216 := by decide
    unfold oneR
    rw [if_pos hf, e]
  rw [h]
theorem great_over {n : Int} (h1 : 1 ≤ n) (h2 : n ≤ 16777216) : sR (greatR n) = [] := by
  unfold sR
  rw [great_styles, if_neg]
  have h : ((oneR (n, 2)).length : Int) = n := by
    rw [oneR_length]
    have : fairR (n, 2) = true := by unfold fairR; rw [Bool.and_eq_true, decide_eq_true_eq]; exact ⟨⟨h1, h2⟩, rfl⟩
    rw [this, if_pos rfl]
  rw [List.length_append, List.length_replicate]
  omega
theorem great_under {n : Int} (h : ¬ (1 ≤ n ∧ n ≤ 16777216)) : sR (greatR n) = List.replicate 16777216 1 := by
  have h0 : oneR (n, 2) = [] := by
    unfold oneR
    rw [if_neg]
    unfold fairR
    rw [Bool.and_eq_true, decide_eq_true_eq]
    exact fun q => h q.1
  unfold sR
  rw [great_styles, h0, List.append_nil, if_pos]
  rw [List.length_replicate]
  exact Nat.le_refl _
set_option maxRecDepth 100000 in
set_option maxHeartbeats 1600000 in
theorem runsGreat_any (T : RSays) (W : World) (n k : Int) (hn : I64s n) (hk : I64s k) : Calls Try.prog 7 #[.int .i64 n, .int .i64 k] W fun e w' => e = .returned (.bool true) ∧ AnyLater W w' := by
  have HLv := Lib.hid (fun w => rlives_any T w)
  have hNum : NumsR (greatR n) := fun r hr => by
    unfold greatR at hr
    rcases List.mem_cons.1 hr with rfl | hr
    · exact ⟨by constructor <;> omega, by constructor <;> omega⟩
    · cases List.mem_singleton.1 hr
      exact ⟨hn, by constructor <;> omega⟩
  have hA : ∀ {w : World} {u : Value}, RRt w u (greatR n) → Asks w u (greatR n) := fun h => ⟨h, hNum, by unfold greatR; simp⟩
  have HR : Hid (∀ w' : World, AnyLater (W.alloc (.cells #[.int .i64 16777216, .int .i64 1, .int .i64 n, .int .i64 2] 45)) w' → RRt w' (.slice (some ⟨W.heap.size, 0, none⟩) 2 2) (greatR n)) := Lib.hid (fun w' h => (ORn.two (B := 0) (r := (16777216, 1)) (q := (n, 2)) (Nat.zero_le _) (heap_new rfl)).typed.later h)
  have HA0 : Hid (AnyLater W (W.alloc (.cells #[.int .i64 16777216, .int .i64 1, .int .i64 n, .int .i64 2] 45))) := Lib.hid ((AnyLater.refl W).alloc _)
  by_cases hin : 1 ≤ n ∧ n ≤ 16777216
  · have hs := great_over hin.1 hin.2
    have ht : tidyR (greatR n) = [] := by unfold tidyR; rw [hs]; rfl
    have HT := Lib.hid (fun (w : World) u (h : RRt w u (greatR n)) => T.tidy (w := w) (v := u) _ _ ht (hA h))
    have HL := Lib.hid (fun (w : World) u (h : RRt w u (greatR n)) => T.len (w := w) (v := u) _ 0 (by rw [hs]; rfl) (hA h))
    have HG := Lib.hid (fun (w : World) u (h : RRt w u (greatR n)) => T.good (w := w) (v := u) _ false (by rw [ht]; exact decide_eq_false (by unfold greatR; simp)) (hA h))
    obtain ⟨n1, n2⟩ := hin
    obtain ⟨G, hG⟩ : ∃ G, greatR n = G := ⟨_, rfl⟩
    rw [hG] at HR HT HL HG
    clear T hA hs ht hNum hG
    go_enter Try.func7, Try.ntmps7
    go_wp2_with fail
    refine (HT.out _ _ (HR.out _ (AnyLater.refl _))).mono ?_
    rintro e w1 ⟨u, rfl, b1, r1⟩
    have HB1 := Lib.hid b1
    obtain ⟨A, cap, rfl, _⟩ := r1.1
    simp only [List.length_nil] at *
    clear b1
    go_wp2_with fail
    refine (HL.out _ _ (HR.out _ HB1.out)).mono ?_
    rintro e w2 ⟨rfl, b2⟩
    have HB2 := Lib.hid (HB1.out.trans b2)
    clear b2
    go_wp2_with fail
    refine (HG.out _ _ (HR.out _ HB2.out)).mono ?_
    rintro e w3 ⟨rfl, b3⟩
    have HB3 := Lib.hid (HB2.out.trans b3)
    clear b3
    go_wp2_with fail
    refine (HLv.out _).mono ?_
    rintro e w4 ⟨rfl, b4⟩
    have HB4 := Lib.hid (HA0.out.trans (HB3.out.trans b4))
    clear b4
    go_wp2_with fail
    go_ret
    exact ⟨rfl, HB4.out⟩
  · have hs := great_under hin
    have ht : tidyR (greatR n) = [(16777216, 1)] := by
      unfold tidyR
      rw [hs]
      exact ofR_replicate 1 16777215
    have hlen : ((sR (greatR n)).length : Int) = 16777216 := by rw [hs, List.length_replicate]; rfl
    have HT := Lib.hid (fun (w : World) u (h : RRt w u (greatR n)) => T.tidy (w := w) (v := u) _ _ ht (hA h))
    obtain ⟨M, c, hM, hMc⟩ : ∃ M c, insR (greatR n) 5 k = (M, c) ∧ ((k < 0 ∧ c = 1 ∧ M = []) ∨ (k = 0 ∧ c = 0) ∨ (0 < k ∧ c = 2 ∧ M = [])) := by
      unfold insR
      by_cases h1 : k < 0
      · exact ⟨[], 1, by rw [if_pos (.inr (.inr h1))], .inl ⟨h1, rfl, rfl⟩⟩
      · rw [if_neg (by rw [hlen]; omega), hlen]
        by_cases h2 : k = 0
        · exact ⟨_, 0, by rw [if_neg (by omega)], .inr (.inl ⟨h2, rfl⟩)⟩
        · exact ⟨[], 2, by rw [if_pos (by omega)], .inr (.inr ⟨by omega, rfl, rfl⟩)⟩
    have HI := Lib.hid (fun (w : World) u (h : RRt w u (greatR n)) => T.ins (w := w) (v := u) _ M 5 k c hM (hA h) (by constructor <;> omega) hk)
    have hcase : n < 1 ∨ (1 ≤ n ∧ 16777216 < n) := by omega
    obtain ⟨G, hG⟩ : ∃ G, greatR n = G := ⟨_, rfl⟩
    rw [hG] at HR HT HI
    clear T hA hs ht hNum hG hlen hM
    obtain ⟨k1, k2⟩ := hk
    rcases hMc with ⟨hk, rfl, rfl⟩ | ⟨rfl, rfl⟩ | ⟨hk, rfl, rfl⟩
    all_goals rcases hcase with h | ⟨h1, h2⟩
    all_goals (try have d1 : decide (1 ≤ n) = false := decide_eq_false (by omega))
    all_goals (try have d2 : decide (n ≤ 16777216) = false := decide_eq_false (by omega))
    all_goals
      go_enter Try.func7, Try.ntmps7
      go_wp2_with fail
      refine (HT.out _ _ (HR.out _ (AnyLater.refl _))).mono ?_
      rintro e w1 ⟨u, rfl, b1, r1⟩
      have HB1 := Lib.hid b1
      obtain ⟨A, cap, rfl, _⟩ := r1.1
      simp only [List.length_nil, List.length_cons, Nat.zero_add] at *
      clear b1
      go_wp2_with fail
      refine (HI.out _ _ (HR.out _ HB1.out)).mono ?_
      rintro e w2 ⟨u2, rfl, b2, r2⟩
      have HB2 := Lib.hid (HB1.out.trans b2)
      obtain ⟨A2, cap2, rfl, _⟩ := r2.1
      (try simp only [List.length_nil] at *)
      clear b2
      go_wp2_with fail
      refine (HLv.out _).mono ?_
      rintro e w4 ⟨rfl, b4⟩
      have HB4 := Lib.hid (HA0.out.trans (HB2.out.trans b4))
      clear b4
      go_wp2_with fail
      go_ret
      exact ⟨rfl, HB4.out⟩
end Go.Proofs.Ytbegglgekkbcoaa
