/- carets, the library's stable sort: swapRange and rotate by contract. -/
import Derived.Test.YtkobnijjahpifaaDoorCarC
namespace Go.Proofs.YtkobnijjahpifaaDoor
set_option linter.unusedSimpArgs false
set_option linter.unusedVariables false
set_option linter.unusedSectionVars false
open Go.RowKit

/-- what a call leaves that writes the row at g alone -/
def Wrote (W : World) (g cap : Nat) (L : Qs) (e : Ending) (w' : World) : Prop := e = .returned (.tuple #[]) ∧ AnyLater W w' ∧ RowC w' g cap L
set_option maxRecDepth 100000 in
set_option maxHeartbeats 3200000 in
theorem swapR_run (g cap a b n N : Nat) (v : Value) (St : Nat → Qs) (W w : World) (hW : AnyLater W w) (hWg : W.heap.size ≤ g) (hr : RowC w g cap (St 0)) (hN : ∀ j, j ≤ n → (St j).length = N) (hs : ∀ j, j < n → ∃ x y, (St j)[a + j]? = some x ∧ (St j)[b + j]? = some y ∧ St (j + 1) = ((St j).set (a + j) y).set (b + j) x) (ha : a + n ≤ b) (hb : b + n ≤ N) (hNN : N ≤ 100000) (hNc : N ≤ cap) :
    Calls Tryd.prog 79 #[.slice (some ⟨g, 0, none⟩) N cap, .int .i64 a, .int .i64 b, .int .i64 n, v] w (Wrote W g cap (St n)) := by
  have HS := Lib.hid hs
  have HN := Lib.hid hN
  have HR := Lib.hid (And.intro hW hr)
  clear hs hN hW hr
  go_enter Tryd.func79, Tryd.ntmps79
  go_wp2_with fail
  go_loopg [10] n (fun kk iv wr => ∃ j : Nat, kk = n - j ∧ j ≤ n ∧ iv = .int .i64 (j : Int) ∧ AnyLater W wr ∧ RowC wr g cap (St j))
  case atStart => exact ⟨0, rfl, by omega, rfl, HR.out.1, HR.out.2⟩
  case round =>
    obtain ⟨j, hk, hj, rfl, aW, hr⟩ := hrel
    have HR := Lib.hid hr
    have HA := Lib.hid aW
    by_cases hlt : j < n
    · have i0 : (j : Int) < (n : Int) := by omega
      obtain ⟨x, y, hx, hy, hst⟩ := HS.out j hlt
      have HP := Lib.hid (fun (w2 : World) (h : RowC w2 g cap (St j)) => h.swap (i := a + j) (j := b + j) x y (by rw [HN.out j (by omega)]; omega) (by rw [HN.out j (by omega)]; omega))
      rw [← hst] at HP
      obtain ⟨c0, c1⟩ := hr.cells hx
      obtain ⟨d0, d1⟩ := hr.cells hy
      have f0 := hr.free
      have l0 := hr.lt
      have n0 : (b + j) * 2 ≠ (a + j) * 2 := by omega
      have n1 : (b + j) * 2 ≠ (a + j) * 2 + 1 := by omega
      have n2 : (b + j) * 2 + 1 ≠ (a + j) * 2 := by omega
      have n3 : (b + j) * 2 + 1 ≠ (a + j) * 2 + 1 := by omega
      have i1 : (a : Int) + (j : Int) < (N : Int) := by omega
      have i2 : (b : Int) + (j : Int) < (N : Int) := by omega
      clear hr hx hy hst aW
      obtain ⟨x1, x2⟩ := x
      obtain ⟨y1, y2⟩ := y
      simp only at c0 c1 d0 d1 HP
      go_wp2_with fail
      go_big_region
      go_wp2_with fail
      go_roundg (n - (j + 1))
      case measure => omega
      case rel => exact ⟨j + 1, rfl, hlt, by go_num, ((HA.out.put hWg _ _ _ _).put hWg _ _ _ _).drew, RowC.later (AnyLater.refl _).drew (HP.out _ HR.out)⟩
    · obtain rfl : j = n := by omega
      go_wp2_with fail
      refine bodyPost_ret (v := .tuple #[]) (by simp [results, Tryd.results79, go_sem]) rfl ⟨rfl, HA.out, HR.out⟩

/-! ### lists -/
theorem swap_mid (U V T : Qs) (x y : Ca) (i j : Nat) (hi : U.length = i) (hj : U.length + 1 + V.length = j) :
    (U ++ x :: (V ++ y :: T))[i]? = some x ∧ (U ++ x :: (V ++ y :: T))[j]? = some y ∧ ((U ++ x :: (V ++ y :: T)).set i y).set j x = U ++ y :: (V ++ x :: T) := by
  subst hi hj
  refine ⟨by simp, ?_, ?_⟩
  · rw [List.getElem?_append_right (by omega), show U.length + 1 + V.length - U.length = V.length + 1 by omega, List.getElem?_cons_succ, List.getElem?_append_right (Nat.le_refl _)]
    simp
  · rw [List.set_append_right _ _ (Nat.le_refl _), Nat.sub_self, List.set_cons_zero, List.set_append_right _ _ (by omega), show U.length + 1 + V.length - U.length = V.length + 1 by omega, List.set_cons_succ, List.set_append_right _ _ (Nat.le_refl _), Nat.sub_self, List.set_cons_zero]
def midS (P X M Y S : Qs) (j : Nat) : Qs := P ++ (Y.take j ++ (X.drop j ++ (M ++ (X.take j ++ (Y.drop j ++ S)))))
theorem midS_len {P X M Y S : Qs} (h : X.length = Y.length) (j : Nat) (hj : j ≤ X.length) : (midS P X M Y S j).length = P.length + (X.length + (M.length + (Y.length + S.length))) := by
  unfold midS
  simp only [List.length_append, List.length_take, List.length_drop]
  omega
theorem midS_step {P X M Y S : Qs} {a b : Nat} (ha : P.length = a) (hb : a + X.length + M.length = b) (h : X.length = Y.length) (j : Nat) (hj : j < X.length) :
    ∃ x y, (midS P X M Y S j)[a + j]? = some x ∧ (midS P X M Y S j)[b + j]? = some y ∧ midS P X M Y S (j + 1) = ((midS P X M Y S j).set (a + j) y).set (b + j) x := by
  have hj2 : j < Y.length := by omega
  have e : midS P X M Y S j = (P ++ Y.take j) ++ X[j] :: ((X.drop (j + 1) ++ (M ++ X.take j)) ++ Y[j] :: (Y.drop (j + 1) ++ S)) := by
    unfold midS
    rw [List.drop_eq_getElem_cons hj, List.drop_eq_getElem_cons hj2]
    simp only [List.append_assoc, List.cons_append]
  have e2 : midS P X M Y S (j + 1) = (P ++ Y.take j) ++ Y[j] :: ((X.drop (j + 1) ++ (M ++ X.take j)) ++ X[j] :: (Y.drop (j + 1) ++ S)) := by
    unfold midS
    rw [List.take_succ_eq_append_getElem hj, List.take_succ_eq_append_getElem hj2]
    simp only [List.append_assoc, List.cons_append, List.nil_append]
  obtain ⟨q1, q2, q3⟩ := swap_mid (P ++ Y.take j) (X.drop (j + 1) ++ (M ++ X.take j)) (Y.drop (j + 1) ++ S) X[j] Y[j] (a + j) (b + j)
    (by simp only [List.length_append, List.length_take]; omega) (by simp only [List.length_append, List.length_take, List.length_drop]; omega)
  exact ⟨X[j], Y[j], by rw [e]; exact q1, by rw [e]; exact q2, by rw [e, e2]; exact q3.symm⟩
theorem swapR_any (g cap N : Nat) (v : Value) (P X M Y S L L' : Qs) (W w : World) (az bz nz : Int) (hW : AnyLater W w) (hWg : W.heap.size ≤ g) (hr : RowC w g cap L) (hL : L = P ++ (X ++ (M ++ (Y ++ S)))) (hL' : L' = P ++ (Y ++ (M ++ (X ++ S)))) (hN : L.length = N) (h : X.length = Y.length) (ha : az = (P.length : Int)) (hb : bz = (P.length : Int) + X.length + M.length) (hn : nz = (X.length : Int)) (hNN : N ≤ 100000) (hNc : N ≤ cap) :
    Calls Tryd.prog 79 #[.slice (some ⟨g, 0, none⟩) N cap, .int .i64 az, .int .i64 bz, .int .i64 nz, v] w (Wrote W g cap L') := by
  subst hL hL' ha hn
  have hl : N = P.length + (X.length + (M.length + (Y.length + S.length))) := by rw [← hN]; simp only [List.length_append]
  obtain rfl : bz = ((P.length + X.length + M.length : Nat) : Int) := by omega
  have e0 : midS P X M Y S 0 = P ++ (X ++ (M ++ (Y ++ S))) := by unfold midS; simp
  have e1 : midS P X M Y S X.length = P ++ (Y ++ (M ++ (X ++ S))) := by
    unfold midS
    rw [List.take_of_length_le (by omega), List.drop_length, List.take_length, List.drop_of_length_le (by omega)]
    simp
  rw [← e1]
  exact swapR_run g cap P.length (P.length + X.length + M.length) X.length N v (midS P X M Y S) W w hW hWg (by rw [e0]; exact hr) (fun j hj => by rw [midS_len h j hj]; omega) (fun j hj => midS_step rfl rfl h j hj) (by omega) (by omega) hNN hNc

/-! ### rotate -/
set_option maxRecDepth 100000 in
set_option maxHeartbeats 3200000 in
theorem rotate_any (g cap N : Nat) (v : Value) (P X Y S L L' : Qs) (W w : World) (az mz bz : Int) (hW : AnyLater W w) (hWg : W.heap.size ≤ g) (hr : RowC w g cap L) (hL : L = P ++ (X ++ (Y ++ S))) (hL' : L' = P ++ (Y ++ (X ++ S))) (hN : L.length = N) (hX : 0 < X.length) (hY : 0 < Y.length) (ha : az = (P.length : Int)) (hm : mz = (P.length : Int) + X.length) (hb : bz = (P.length : Int) + X.length + Y.length) (hNN : N ≤ 100000) (hNc : N ≤ cap) :
    Calls Tryd.prog 73 #[.slice (some ⟨g, 0, none⟩) N cap, .int .i64 az, .int .i64 mz, .int .i64 bz, v] w (Wrote W g cap L') := by
  subst hL
  have hS := Lib.hid (And.intro hW (And.intro hr (And.intro hN hL')))
  obtain ⟨p, hp⟩ : ∃ p, P.length = p := ⟨_, rfl⟩
  obtain ⟨x, hx⟩ : ∃ x, X.length = x := ⟨_, rfl⟩
  obtain ⟨y, hy⟩ : ∃ y, Y.length = y := ⟨_, rfl⟩
  have hl : p + (x + (y + S.length)) = N := by rw [← hN, List.length_append, List.length_append, List.length_append, hp, hx, hy]
  have HI := Lib.hid (And.intro hp (And.intro hx hy))
  rw [hp] at ha hm hb
  rw [hx] at hX hm hb
  rw [hy] at hY hb
  subst ha hm hb
  have hl2 : p + x + y ≤ N := by omega
  clear hW hr hN hp hx hy hL' hl
  have e1 : (p : Int) + (x : Int) - (p : Int) = (x : Int) := by omega
  have e2 : (p : Int) + (x : Int) + (y : Int) - ((p : Int) + (x : Int)) = (y : Int) := by omega
  go_enter Tryd.func73, Tryd.ntmps73
  go_wp2_with fail
  go_loopg [10, 11] (x + y) (fun kk iv jv wr => ∃ (i j : Nat) (P' X' Y' S' : Qs), kk = i + j ∧ 0 < i ∧ 0 < j ∧ i + j ≤ x + y ∧ i ≤ x ∧ j ≤ y ∧ iv = .int .i64 (i : Int) ∧ jv = .int .i64 (j : Int) ∧ X'.length = i ∧ Y'.length = j ∧ P'.length + i = p + x ∧ L' = P' ++ (Y' ++ (X' ++ S')) ∧ (P' ++ (X' ++ (Y' ++ S'))).length = N ∧ AnyLater W wr ∧ RowC wr g cap (P' ++ (X' ++ (Y' ++ S'))))
  case atStart => exact ⟨x, y, P, X, Y, S, rfl, hX, hY, Nat.le_refl _, Nat.le_refl _, Nat.le_refl _, by go_num, by go_num, HI.out.2.1, HI.out.2.2, by rw [HI.out.1], hS.out.2.2.2, hS.out.2.2.1, hS.out.1, hS.out.2.1⟩
  case round =>
    obtain ⟨i, j, P', X', Y', S', hk, hi, hj, hij, hix, hjy, rfl, rfl, hX', hY', hP', hL', hN', aW, hr⟩ := hrel
    have HR := Lib.hid (And.intro aW (And.intro hr (And.intro hN' hL')))
    have HLn := Lib.hid (And.intro hX' (And.intro hY' hP'))
    clear aW hr hN' hL'
    rcases Nat.lt_trichotomy i j with hlt | heq | hgt
    · -- the second part is the longer one
      have d0 : ((i : Int) != (j : Int)) = true := by simp; omega
      have d1 : decide ((j : Int) < (i : Int)) = false := decide_eq_false (by omega)
      have HC : Hid (∀ (az bz nz : Int) (w2 : World), w2 = wr → az = (p : Int) + x - i → bz = (p : Int) + x + j - i → nz = (i : Int) → Calls Tryd.prog 79 #[.slice (some ⟨g, 0, none⟩) N cap, .int .i64 az, .int .i64 bz, .int .i64 nz, v] w2 (Wrote W g cap (P' ++ (Y'.drop (j - i) ++ (Y'.take (j - i) ++ (X' ++ S')))))) := Lib.hid (fun az bz nz w2 e0 q1 q2 q3 => by
        subst e0
        have hd : (Y'.drop (j - i)).length = i := by rw [List.length_drop, HLn.out.2.1]; omega
        have ht : (Y'.take (j - i)).length = j - i := by rw [List.length_take, HLn.out.2.1]; omega
        exact swapR_any g cap N v P' X' (Y'.take (j - i)) (Y'.drop (j - i)) S' _ _ W w2 az bz nz HR.out.1 hWg HR.out.2.1 (by simp [← List.append_assoc]) rfl HR.out.2.2.1 (by rw [hd]; exact HLn.out.1) (by rw [q1]; have := HLn.out.2.2; omega) (by rw [q2, HLn.out.1, ht]; have := HLn.out.2.2; omega) (by rw [q3, HLn.out.1]) hNN hNc)
      clear hX' hY'
      go_wp2_with fail
      refine (HC.out _ _ _ _ rfl (by omega) (by omega) (by omega)).mono ?_
      rintro e w1 ⟨rfl, a_w1, r_w1⟩
      have HR1 := Lib.hid (And.intro a_w1 r_w1)
      clear a_w1 r_w1
      go_wp2_with fail
      go_roundg (i + (j - i))
      case measure => omega
      case rel =>
        refine ⟨i, j - i, P', Y'.drop (j - i), Y'.take (j - i), X' ++ S', rfl, hi, by omega, by omega, hix, by omega, rfl, by go_num, by rw [List.length_drop, HLn.out.2.1]; omega, by rw [List.length_take, HLn.out.2.1]; omega, hP', ?_, ?_, HR1.out.1, HR1.out.2⟩
        · rw [HR.out.2.2.2]; simp [← List.append_assoc]
        · rw [← HR.out.2.2.1]
          simp only [List.length_append, List.length_take, List.length_drop]
          have := HLn.out.2.1
          omega
    · subst heq
      have d0 : ((i : Int) != (i : Int)) = false := by simp
      have HC : Hid (∀ (az bz nz : Int) (w2 : World), w2 = wr → az = (p : Int) + x - i → bz = (p : Int) + x → nz = (i : Int) → Calls Tryd.prog 79 #[.slice (some ⟨g, 0, none⟩) N cap, .int .i64 az, .int .i64 bz, .int .i64 nz, v] w2 (Wrote W g cap L')) := Lib.hid (fun az bz nz w2 e0 q1 q2 q3 => by
        subst e0
        exact swapR_any g cap N v P' X' [] Y' S' _ _ W w2 az bz nz HR.out.1 hWg HR.out.2.1 rfl HR.out.2.2.2 HR.out.2.2.1 (by rw [HLn.out.1, HLn.out.2.1]) (by rw [q1]; have := HLn.out.2.2; omega) (by rw [q2, HLn.out.1]; have := HLn.out.2.2; simp only [List.length_nil]; omega) (by rw [q3, HLn.out.1]) hNN hNc)
      clear hX' hY'
      go_wp2_with fail
      refine (HC.out _ _ _ _ rfl (by omega) (by omega) (by omega)).mono ?_
      rintro e w1 ⟨rfl, a_w1, r_w1⟩
      have HR1 := Lib.hid (And.intro a_w1 r_w1)
      clear a_w1 r_w1
      go_wp2_with fail
      refine bodyPost_ret (v := .tuple #[]) (by simp [results, Tryd.results73, go_sem]) rfl ⟨rfl, HR1.out.1, HR1.out.2⟩
    · have d0 : ((i : Int) != (j : Int)) = true := by simp; omega
      have d1 : (j : Int) < (i : Int) := by omega
      have HC : Hid (∀ (az bz nz : Int) (w2 : World), w2 = wr → az = (p : Int) + x - i → bz = (p : Int) + x → nz = (j : Int) → Calls Tryd.prog 79 #[.slice (some ⟨g, 0, none⟩) N cap, .int .i64 az, .int .i64 bz, .int .i64 nz, v] w2 (Wrote W g cap (P' ++ (Y' ++ (X'.drop j ++ (X'.take j ++ S')))))) := Lib.hid (fun az bz nz w2 e0 q1 q2 q3 => by
        subst e0
        have hd : (X'.drop j).length = i - j := by rw [List.length_drop, HLn.out.1]
        have ht : (X'.take j).length = j := by rw [List.length_take, HLn.out.1]; omega
        exact swapR_any g cap N v P' (X'.take j) (X'.drop j) Y' S' _ _ W w2 az bz nz HR.out.1 hWg HR.out.2.1 (by simp [← List.append_assoc]) rfl HR.out.2.2.1 (by rw [ht]; exact HLn.out.2.1.symm) (by rw [q1]; have := HLn.out.2.2; omega) (by rw [q2, hd, ht]; have := HLn.out.2.2; omega) (by rw [q3, ht]) hNN hNc)
      clear hX' hY'
      go_wp2_with fail
      refine (HC.out _ _ _ _ rfl (by omega) (by omega) (by omega)).mono ?_
      rintro e w1 ⟨rfl, a_w1, r_w1⟩
      have HR1 := Lib.hid (And.intro a_w1 r_w1)
      clear a_w1 r_w1
      go_wp2_with fail
      go_roundg (i - j + j)
      case measure => omega
      case rel =>
        refine ⟨i - j, j, P' ++ Y', X'.drop j, X'.take j, S', rfl, by omega, hj, by omega, by omega, hjy, by go_num, rfl, by rw [List.length_drop, HLn.out.1], by rw [List.length_take, HLn.out.1]; omega, by rw [List.length_append, HLn.out.2.1]; omega, ?_, ?_, HR1.out.1, by rw [List.append_assoc]; exact HR1.out.2⟩
        · rw [HR.out.2.2.2]; simp [← List.append_assoc]
        · rw [← HR.out.2.2.1]
          simp only [List.length_append, List.length_take, List.length_drop]
          have := HLn.out.1
          omega
end Go.Proofs.YtkobnijjahpifaaDoor
