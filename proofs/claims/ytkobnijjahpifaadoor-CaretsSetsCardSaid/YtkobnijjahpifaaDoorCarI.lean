/- carets, the library's stable sort of up to 39 carets by contract. -/
import Derived.Test.YtkobnijjahpifaaDoorCarH
namespace Go.Proofs.YtkobnijjahpifaaDoor
set_option linter.unusedSimpArgs false
set_option linter.unusedVariables false
set_option linter.unusedSectionVars false
open Go.RowKit

theorem sortC_congr {a b : Qs} (h : Filt a b) : sortC a = sortC b := sortC_eq (sortC_sorted a) ((sortC_filt a).trans h)
theorem sortC_two (A B : Qs) : sortC (sortC A ++ sortC B) = sortC (A ++ B) := sortC_congr ((sortC_filt A).append (sortC_filt B))
set_option maxRecDepth 100000 in
set_option maxHeartbeats 3200000 in
theorem stable_any (g cap n : Nat) (L : Qs) (W w : World) (hW : AnyLater W w) (hWg : W.heap.size ≤ g) (hr : RowC w g cap L) (hn : L.length = n) (hn9 : n ≤ 39) (hNc : n ≤ cap) :
    Calls Tryd.prog 48 #[.slice (some ⟨g, 0, none⟩) n cap, .int .i64 n, .func (.func 36) #[] #[]] w (Wrote W g cap (sortC L)) := by
  have HN := Lib.hid hn
  have HR := Lib.hid (And.intro hW hr)
  have d40 : decide ((40 : Int) ≤ (n : Int)) = false := decide_eq_false (by omega)
  have d40' : decide ((40 : Int) < (n : Int)) = false := decide_eq_false (by omega)
  by_cases h20 : 20 ≤ n
  · have i20 : (20 : Int) ≤ (n : Int) := by omega
    have HC1 := Lib.hid (insert_any g cap n [] (L.take 20) (L.drop 20) L (sortC (L.take 20) ++ L.drop 20) W w 0 20 hW hWg hr (by rw [List.nil_append, List.take_append_drop]) rfl hn rfl (by rw [List.length_take]; simp; omega) (by omega) hNc)
    have HC2 : Hid (∀ (x : World), AnyLater W x → RowC x g cap (sortC (L.take 20) ++ L.drop 20) → Calls Tryd.prog 64 #[.slice (some ⟨g, 0, none⟩) n cap, .int .i64 20, .int .i64 (n : Int), .func (.func 36) #[] #[]] x (Wrote W g cap (sortC (L.take 20) ++ sortC (L.drop 20)))) := Lib.hid (fun x hx hrow =>
      insert_any g cap n (sortC (L.take 20)) (L.drop 20) [] _ _ W x 20 n hx hWg hrow (by rw [List.append_nil]) (by rw [List.append_nil]) (by rw [List.length_append, sortC_len, ← List.length_append, List.take_append_drop]; exact hn) (by rw [sortC_len, List.length_take]; omega) (by rw [sortC_len, List.length_take, List.length_drop]; omega) (by omega) hNc)
    by_cases h21 : 20 < n
    · have i21 : (20 : Int) < (n : Int) := by omega
      have HC3 : Hid (∀ (x : World), AnyLater W x → RowC x g cap (sortC (L.take 20) ++ sortC (L.drop 20)) → Calls Tryd.prog 65 #[.slice (some ⟨g, 0, none⟩) n cap, .int .i64 0, .int .i64 20, .int .i64 (n : Int), .func (.func 36) #[] #[]] x (Wrote W g cap (sortC L))) := Lib.hid (fun x hx hrow =>
        symM_ok _ g cap n [] (sortC (L.take 20)) (sortC (L.drop 20)) [] _ _ W x 0 20 n (Nat.le_refl _) hx hWg hrow (by simp) (by rw [List.nil_append, List.append_nil, sortC_two, List.take_append_drop]) (sortC_sorted _) (sortC_sorted _) (by rw [sortC_len, List.length_take]; omega) (by rw [sortC_len, List.length_drop]; omega) (by rw [List.length_append, sortC_len, sortC_len, ← List.length_append, List.take_append_drop]; exact hn) rfl (by rw [sortC_len, List.length_take]; simp; omega) (by rw [sortC_len, List.length_take, sortC_len, List.length_drop]; simp; omega) (by omega) hNc)
      clear hW hr hn
      go_enter Tryd.func48, Tryd.ntmps48
      go_wp2_with fail
      refine wp_loop_rounds 2 ?_
      rw [rounds_succ]
      go_wp2_with fail
      refine HC1.out.mono ?_
      rintro e w1 ⟨rfl, a_w1, r_w1⟩
      have HX1 := Lib.hid (HC2.out _ a_w1 r_w1)
      clear a_w1 r_w1
      go_wp2_with fail
      rw [rounds_succ]
      go_wp2_with fail
      refine HX1.out.mono ?_
      rintro e w2 ⟨rfl, a_w2, r_w2⟩
      have HX2 := Lib.hid (HC3.out _ a_w2 r_w2)
      clear a_w2 r_w2
      go_wp2_with fail
      refine wp_loop_rounds 2 ?_
      rw [rounds_succ]
      go_wp2_with fail
      refine wp_loop_rounds 1 ?_
      rw [rounds_succ]
      go_wp2_with fail
      refine HX2.out.mono ?_
      rintro e w3 ⟨rfl, a_w3, r_w3⟩
      have HX3 := Lib.hid (And.intro a_w3 r_w3)
      clear a_w3 r_w3
      go_wp2_with fail
      rw [rounds_succ]
      go_wp2_with fail
      refine bodyPost_ret (v := .tuple #[]) (by simp [results, Tryd.results48, go_sem]) rfl ?_
      exact ⟨rfl, HX3.out⟩
    · have d21 : decide ((20 : Int) < (n : Int)) = false := decide_eq_false (by omega)
      have d21' : decide (20 < n) = false := decide_eq_false (by omega)
      have HE : Hid (sortC (L.take 20) ++ sortC (L.drop 20) = sortC L) := Lib.hid (by
        have e0 : L.drop 20 = [] := List.drop_of_length_le (by omega)
        have e1 : L.take 20 = L := List.take_of_length_le (by omega)
        rw [e0, e1]; exact List.append_nil _)
      clear hW hr hn
      go_enter Tryd.func48, Tryd.ntmps48
      go_wp2_with fail
      refine wp_loop_rounds 2 ?_
      rw [rounds_succ]
      go_wp2_with fail
      refine HC1.out.mono ?_
      rintro e w1 ⟨rfl, a_w1, r_w1⟩
      have HX1 := Lib.hid (HC2.out _ a_w1 r_w1)
      clear a_w1 r_w1
      go_wp2_with fail
      rw [rounds_succ]
      go_wp2_with fail
      refine HX1.out.mono ?_
      rintro e w2 ⟨rfl, a_w2, r_w2⟩
      have HX2 : Hid (AnyLater W w2 ∧ RowC w2 g cap (sortC L)) := Lib.hid ⟨a_w2, by rw [← HE.out]; exact r_w2⟩
      clear a_w2 r_w2
      go_wp2_with fail
      refine wp_loop_rounds 1 ?_
      rw [rounds_succ]
      go_wp2_with fail
      refine bodyPost_ret (v := .tuple #[]) (by simp [results, Tryd.results48, go_sem]) rfl ?_
      exact ⟨rfl, HX2.out⟩
  · have d20 : decide ((20 : Int) ≤ (n : Int)) = false := decide_eq_false (by omega)
    have d20' : decide (20 ≤ n) = false := decide_eq_false (by omega)
    have d21 : decide ((20 : Int) < (n : Int)) = false := decide_eq_false (by omega)
    have d21' : decide (20 < n) = false := decide_eq_false (by omega)
    have HC1 := Lib.hid (insert_any g cap n [] L [] L (sortC L) W w 0 n hW hWg hr (by rw [List.append_nil]; rfl) (by rw [List.append_nil]; rfl) hn rfl (by simp; omega) (by omega) hNc)
    clear hW hr hn
    go_enter Tryd.func48, Tryd.ntmps48
    go_wp2_with fail
    refine wp_loop_rounds 1 ?_
    rw [rounds_succ]
    go_wp2_with fail
    refine HC1.out.mono ?_
    rintro e w1 ⟨rfl, a_w1, r_w1⟩
    have HX1 := Lib.hid (And.intro a_w1 r_w1)
    clear a_w1 r_w1
    go_wp2_with fail
    refine wp_loop_rounds 1 ?_
    rw [rounds_succ]
    go_wp2_with fail
    refine bodyPost_ret (v := .tuple #[]) (by simp [results, Tryd.results48, go_sem]) rfl ?_
    exact ⟨rfl, HX1.out⟩
/-- the sort of none -/
theorem insert_none (A : Option Addr) (cap : Nat) (v : Value) (w : World) : Calls Tryd.prog 64 #[.slice A 0 cap, .int .i64 0, .int .i64 0, v] w fun e w' => e = .returned (.tuple #[]) ∧ w = w' := by
  go_enter Tryd.func64, Tryd.ntmps64
  go_wp2_with fail
  refine wp_loop_rounds 1 ?_
  rw [rounds_succ]
  go_wp2_with fail
  go_end0
  exact ⟨rfl, rfl⟩
theorem stable_none (A : Option Addr) (cap : Nat) (v : Value) (w : World) : Calls Tryd.prog 48 #[.slice A 0 cap, .int .i64 0, v] w fun e w' => e = .returned (.tuple #[]) ∧ w = w' := by
  go_enter Tryd.func48, Tryd.ntmps48
  go_wp2_with fail
  refine wp_loop_rounds 1 ?_
  rw [rounds_succ]
  go_wp2_with fail
  refine (insert_none _ _ _ _).mono ?_
  rintro e w1 ⟨rfl, rfl⟩
  go_wp2_with fail
  refine wp_loop_rounds 1 ?_
  rw [rounds_succ]
  go_wp2_with fail
  go_end0
  exact ⟨rfl, rfl⟩
/-- the stable sort of carets of the call's own -/
theorem sortS_any (v : Value) (L : Qs) (B : Nat) (W w : World) (hW : AnyLater W w) (hWB : W.heap.size ≤ B) (ho : OQ 45 w B v L) (hn : L.length ≤ 39) :
    Calls Tryd.prog 35 #[v, .func (.func 36) #[] #[]] w fun e w' => e = .returned (.tuple #[]) ∧ AnyLater W w' ∧ OQ 45 w' B v (sortC L) := by
  rcases RowC.of_own ho with ⟨rfl, rfl⟩ | ⟨g, cap, rfl, hBg, hm, hrow⟩
  · have HO := Lib.hid (And.intro hW ho)
    clear hW ho
    go_enter Tryd.func35, Tryd.ntmps35
    go_wp2_with fail
    refine (stable_none _ _ _ _).mono ?_
    rintro e w1 ⟨rfl, rfl⟩
    go_wp2_with fail
    go_end0
    exact ⟨rfl, HO.out⟩
  · have hlc : L.length ≤ cap := by obtain ⟨_, _, h, _⟩ := hrow; exact h
    have HC := Lib.hid (stable_any g cap L.length L W w hW (Nat.le_trans hWB hBg) hrow rfl hn hlc)
    have HL : Hid (∀ x, RowC x g cap (sortC L) → OQ 45 x B (.slice (some ⟨g, 0, none⟩) L.length cap) (sortC L)) := Lib.hid (fun x h => by
      have := h.own hBg hm
      rwa [sortC_len] at this)
    clear hW ho hrow hm hn
    generalize L.length = n at *
    go_enter Tryd.func35, Tryd.ntmps35
    go_wp2_with fail
    refine HC.out.mono ?_
    rintro e w1 ⟨rfl, a_w1, r_w1⟩
    have HX := Lib.hid (And.intro a_w1 (HL.out _ r_w1))
    clear a_w1 r_w1
    go_wp2_with fail
    go_end0
    exact ⟨rfl, HX.out⟩
end Go.Proofs.YtkobnijjahpifaaDoor
