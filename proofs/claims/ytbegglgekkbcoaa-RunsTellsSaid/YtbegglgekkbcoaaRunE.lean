/- runs: the document's Insert by contract; what the program's functions are to tell. -/
import Derived.Test.YtbegglgekkbcoaaRunD
namespace Go.Proofs.Ytbegglgekkbcoaa
set_option linter.unusedSimpArgs false
set_option linter.unusedVariables false
set_option linter.unusedSectionVars false
open Go.RowKit

set_option maxRecDepth 100000 in
set_option maxHeartbeats 3200000 in
theorem ins_none (A : Option Addr) (cap n : Nat) (w : World) (hn : n ≤ 4000) (hv : RI w (.slice A 0 cap) []) : Calls Try.prog 22 #[.slice A 0 cap, .int .i64 0, .int .i64 n] w (RowI w (insL [] 0 n)) := by
  obtain ⟨l, hl⟩ : ∃ l : List Int, l = [] := ⟨_, rfl⟩
  obtain ⟨a, haz⟩ : ∃ a : Nat, a = 0 := ⟨_, rfl⟩
  have ha : a ≤ l.length := by omega
  have hl4 : l.length ≤ 4000 := by rw [hl]; simp
  have hv : RI w (.slice A 0 cap) l := by rw [hl]; exact hv
  have e0 : insL [] 0 (n : Int) = insL l (a : Int) (n : Int) := by rw [hl, haz]; rfl
  rw [e0]
  clear e0
  obtain ⟨x, hx⟩ : ∃ x, aheadL l (a : Int) = x := ⟨_, rfl⟩
  have HZ : Hid (l.take a ++ List.replicate n x ++ l.drop a = insL l (a : Int) (n : Int)) := Lib.hid (by unfold insL; rw [hx, Int.toNat_natCast, Int.toNat_natCast])
  obtain ⟨u, hu, hcut⟩ := hv.cutI a ha
  obtain ⟨A1, c1, hu1, hup⟩ := hv.uptoI a ha
  obtain ⟨u2, w2, k1, k2, k3⟩ := copyI hu1 (by rw [List.length_take]; omega)
  have K1 := Lib.hid k1
  have HB := Lib.hid (And.intro k2 k3)
  have HCut := Lib.hid hu
  clear k1 k2 k3 hu hu1
  have hx0 : x = 0 := by rw [← hx, hl]; rfl
  subst hx0
  subst haz
  have hcut : ∀ w', (Instr.sliceAt 26 (.slice A 0 cap) (some (.int .i64 0)) none none).run Try.prog w' = .ok u w' := fun w' => hcut w'
  have hup : ∀ w', (Instr.sliceAt 26 (.slice A 0 cap) none (some (.int .i64 0)) none).run Try.prog w' = .ok (.slice A1 0 c1) w' := fun w' => hup w'
  clear hx hl
  go_enter Try.func22, Try.ntmps22
  go_wp2_with (at_builtin; refine Lib.wpList_append_run _ rfl _ _ _ _ rfl _ _ rfl rfl _ _ K1.out ?_)
  go_loopg [8, 9] n (fun k v ii wr => ∃ j : Nat, k = n - j ∧ j ≤ n ∧ ii = .int .i64 j ∧ AnyLater w wr ∧ OI wr w.heap.size v (l.take 0 ++ List.replicate j (0 : Int)))
  case atStart => exact ⟨0, by omega, by omega, rfl, HB.out.1, by simpa using HB.out.2⟩
  case round =>
    obtain ⟨j, hk, hj, rfl, ha, ho⟩ := hrel
    have HA := Lib.hid (And.intro ha ho)
    have hlen : (l.take 0 ++ List.replicate j (0 : Int)).length ≤ 90000 := by rw [List.length_append, List.length_replicate, List.length_take]; omega
    by_cases hlt : j < n
    · have h4 : (j : Int) < 4000 := by omega
      obtain ⟨u3, w3, k1, k2, k3⟩ := appI 0 ho ha.below.size hlen
      have K3 := Lib.hid k1
      have HE : Hid (l.take 0 ++ List.replicate j (0 : Int) ++ [(0 : Int)] = l.take 0 ++ List.replicate (j + 1) (0 : Int)) := Lib.hid (by rw [List.append_assoc, List.replicate_succ'])
      have HB3 := Lib.hid (And.intro (k3 w (Nat.le_refl _) ha) k2)
      clear k1 k2 k3 hlen ha ho
      go_wp2_with (at_builtin; refine Lib.wpList_append_run _ rfl _ _ _ _ rfl _ _ rfl rfl _ _ K3.out ?_)
      go_roundg (n - (j + 1))
      case measure => omega
      case rel => exact ⟨j + 1, rfl, by omega, by go_num, HB3.out.1, by rw [← HE.out]; exact HB3.out.2⟩
    · obtain rfl : j = n := by omega
      obtain ⟨u3, w3, k1, k2, k3⟩ := appN (s := 26) Try.underlying26 info_i64 (by decide) ho (HCut.out.later ha) ha.below.size (by rw [List.length_drop]; omega)
      have K3 := Lib.hid k1
      have HB3 := Lib.hid (And.intro (ON.grown ho (Nat.le_refl _) ha k3) k2)
      clear k1 k2 k3 hlen ha ho
      go_wp2_with (at_builtin; refine Lib.wpList_append_run _ rfl _ _ _ _ rfl _ _ rfl rfl _ _ K3.out ?_)
      go_ret
      exact ⟨_, rfl, HB3.out.1, by rw [← HZ.out]; exact HB3.out.2⟩
set_option maxRecDepth 100000 in
set_option maxHeartbeats 3200000 in
theorem ins_zero (b off m cap n : Nat) (l : List Int) (w : World) (hl : l.length = m) (hm : 0 < m) (hl4 : m ≤ 4000) (hn : n ≤ 4000) (hv : RI w (.slice (some ⟨b, off, none⟩) m cap) l) (hb : b < w.heap.size) (hc : ∀ (j : Nat) (h : j < l.length), w.cell? ⟨b, off + j, none⟩ = some (.int .i64 l[j])) : Calls Try.prog 22 #[.slice (some ⟨b, off, none⟩) m cap, .int .i64 0, .int .i64 n] w (RowI w (insL l 0 n)) := by
  obtain ⟨a, haz⟩ : ∃ a : Nat, a = 0 := ⟨_, rfl⟩
  have ha : a ≤ l.length := by omega
  have c0 : w.cell? ⟨b, off, none⟩ = some (.int .i64 (aheadL l (a : Int))) := by
    have := hc 0 (by omega)
    rw [Nat.add_zero] at this
    have e : aheadL l ((0 : Nat) : Int) = l[0] := by
      unfold aheadL
      have e : (((0 : Nat) : Int) - 1).toNat = 0 := by omega
      rw [e, List.getD_eq_getElem?_getD, List.getElem?_eq_getElem (by omega)]; rfl
    rw [this, haz, e]
  have e0 : insL l 0 (n : Int) = insL l (a : Int) (n : Int) := by rw [haz]; rfl
  rw [e0]
  clear e0
  obtain ⟨x, hx⟩ : ∃ x, aheadL l (a : Int) = x := ⟨_, rfl⟩
  have HZ : Hid (l.take a ++ List.replicate n x ++ l.drop a = insL l (a : Int) (n : Int)) := Lib.hid (by unfold insL; rw [hx, Int.toNat_natCast, Int.toNat_natCast])
  obtain ⟨u, hu, hcut⟩ := hv.cutI a ha
  obtain ⟨A1, c1, hu1, hup⟩ := hv.uptoI a ha
  obtain ⟨u2, w2, k1, k2, k3⟩ := copyI hu1 (by rw [List.length_take]; omega)
  have K1 := Lib.hid k1
  have HB := Lib.hid (And.intro k2 k3)
  have HCut := Lib.hid hu
  clear k1 k2 k3 hu hu1
  rw [hx] at c0
  have HLL := Lib.hid hl
  subst haz
  have hcut : ∀ w', (Instr.sliceAt 26 (.slice (some ⟨b, off, none⟩) m cap) (some (.int .i64 0)) none none).run Try.prog w' = .ok u w' := fun w' => hcut w'
  have hup : ∀ w', (Instr.sliceAt 26 (.slice (some ⟨b, off, none⟩) m cap) none (some (.int .i64 0)) none).run Try.prog w' = .ok (.slice A1 0 c1) w' := fun w' => hup w'
  clear hx hc hv
  go_enter Try.func22, Try.ntmps22
  go_wp2_with (at_builtin; refine Lib.wpList_append_run _ rfl _ _ _ _ rfl _ _ rfl rfl _ _ K1.out ?_)
  go_loopg [8, 9] n (fun k v ii wr => ∃ j : Nat, k = n - j ∧ j ≤ n ∧ ii = .int .i64 j ∧ AnyLater w wr ∧ OI wr w.heap.size v (l.take 0 ++ List.replicate j x))
  case atStart => exact ⟨0, by omega, by omega, rfl, HB.out.1, by simpa using HB.out.2⟩
  case round =>
    obtain ⟨j, hk, hj, rfl, ha, ho⟩ := hrel
    have HA := Lib.hid (And.intro ha ho)
    have hlen : (l.take 0 ++ List.replicate j x).length ≤ 90000 := by rw [List.length_append, List.length_replicate, List.length_take]; omega
    by_cases hlt : j < n
    · have h4 : (j : Int) < 4000 := by omega
      obtain ⟨u3, w3, k1, k2, k3⟩ := appI x ho ha.below.size hlen
      have K3 := Lib.hid k1
      have HE : Hid (l.take 0 ++ List.replicate j x ++ [x] = l.take 0 ++ List.replicate (j + 1) x) := Lib.hid (by rw [List.append_assoc, List.replicate_succ'])
      have HB3 := Lib.hid (And.intro (k3 w (Nat.le_refl _) ha) k2)
      clear k1 k2 k3 hlen ha ho
      go_wp2_with (at_builtin; refine Lib.wpList_append_run _ rfl _ _ _ _ rfl _ _ rfl rfl _ _ K3.out ?_)
      go_roundg (n - (j + 1))
      case measure => omega
      case rel => exact ⟨j + 1, rfl, by omega, by go_num, HB3.out.1, by rw [← HE.out]; exact HB3.out.2⟩
    · obtain rfl : j = n := by omega
      obtain ⟨u3, w3, k1, k2, k3⟩ := appN (s := 26) Try.underlying26 info_i64 (by decide) ho (HCut.out.later ha) ha.below.size (by rw [List.length_drop]; omega)
      have K3 := Lib.hid k1
      have HB3 := Lib.hid (And.intro (ON.grown ho (Nat.le_refl _) ha k3) k2)
      clear k1 k2 k3 hlen ha ho
      go_wp2_with (at_builtin; refine Lib.wpList_append_run _ rfl _ _ _ _ rfl _ _ rfl rfl _ _ K3.out ?_)
      go_ret
      exact ⟨_, rfl, HB3.out.1, by rw [← HZ.out]; exact HB3.out.2⟩
set_option maxRecDepth 100000 in
set_option maxHeartbeats 3200000 in
theorem ins_more (b off m cap n i : Nat) (l : List Int) (w : World) (hl : l.length = m) (hi : i + 1 ≤ m) (hl4 : m ≤ 4000) (hn : n ≤ 4000) (hv : RI w (.slice (some ⟨b, off, none⟩) m cap) l) (hb : b < w.heap.size) (hc : ∀ (j : Nat) (h : j < l.length), w.cell? ⟨b, off + j, none⟩ = some (.int .i64 l[j])) : Calls Try.prog 22 #[.slice (some ⟨b, off, none⟩) m cap, .int .i64 ((i : Int) + 1), .int .i64 n] w (RowI w (insL l ((i : Int) + 1) n)) := by
  have c0 := hc 0 (by omega)
  rw [Nat.add_zero] at c0
  have c1 : w.cell? ⟨b, off + i, none⟩ = some (.int .i64 (aheadL l ((i + 1 : Nat) : Int))) := by
    have e : aheadL l ((i + 1 : Nat) : Int) = l[i] := by
      unfold aheadL
      have e : (((i + 1 : Nat) : Int) - 1).toNat = i := by omega
      rw [e, List.getD_eq_getElem?_getD, List.getElem?_eq_getElem (by omega)]; rfl
    rw [hc i (by omega), e]
  have e0 : insL l ((i : Int) + 1) (n : Int) = insL l ((i + 1 : Nat) : Int) (n : Int) := rfl
  rw [e0]
  clear e0
  have ha : i + 1 ≤ l.length := by omega
  obtain ⟨x, hx⟩ : ∃ x, aheadL l ((i + 1 : Nat) : Int) = x := ⟨_, rfl⟩
  have HZ : Hid (l.take (i + 1) ++ List.replicate n x ++ l.drop (i + 1) = insL l ((i + 1 : Nat) : Int) (n : Int)) := Lib.hid (by unfold insL; rw [hx, Int.toNat_natCast, Int.toNat_natCast])
  obtain ⟨u, hu, hcut⟩ := hv.cutI (i + 1) ha
  obtain ⟨A1, cq, hu1, hup⟩ := hv.uptoI (i + 1) ha
  obtain ⟨u2, w2, k1, k2, k3⟩ := copyI hu1 (by rw [List.length_take]; omega)
  have K1 := Lib.hid k1
  have HB := Lib.hid (And.intro k2 k3)
  have HCut := Lib.hid hu
  clear k1 k2 k3 hu hu1
  rw [hx] at c1
  have HLL := Lib.hid hl
  have hcut : ∀ w', (Instr.sliceAt 26 (.slice (some ⟨b, off, none⟩) m cap) (some (.int .i64 ((i : Int) + 1))) none none).run Try.prog w' = .ok u w' := fun w' => hcut w'
  have hup : ∀ w', (Instr.sliceAt 26 (.slice (some ⟨b, off, none⟩) m cap) none (some (.int .i64 ((i : Int) + 1))) none).run Try.prog w' = .ok (.slice A1 (i + 1) cq) w' := fun w' => hup w'
  clear hx hc hv
  go_enter Try.func22, Try.ntmps22
  go_wp2_with (at_builtin; refine Lib.wpList_append_run _ rfl _ _ _ _ rfl _ _ rfl rfl _ _ K1.out ?_)
  go_loopg [8, 9] n (fun k v ii wr => ∃ j : Nat, k = n - j ∧ j ≤ n ∧ ii = .int .i64 j ∧ AnyLater w wr ∧ OI wr w.heap.size v (l.take (i + 1) ++ List.replicate j x))
  case atStart => exact ⟨0, by omega, by omega, rfl, HB.out.1, by simpa using HB.out.2⟩
  case round =>
    obtain ⟨j, hk, hj, rfl, ha, ho⟩ := hrel
    have HA := Lib.hid (And.intro ha ho)
    have hlen : (l.take (i + 1) ++ List.replicate j x).length ≤ 90000 := by rw [List.length_append, List.length_replicate, List.length_take]; omega
    by_cases hlt : j < n
    · have h4 : (j : Int) < 4000 := by omega
      obtain ⟨u3, w3, k1, k2, k3⟩ := appI x ho ha.below.size hlen
      have K3 := Lib.hid k1
      have HE : Hid (l.take (i + 1) ++ List.replicate j x ++ [x] = l.take (i + 1) ++ List.replicate (j + 1) x) := Lib.hid (by rw [List.append_assoc, List.replicate_succ'])
      have HB3 := Lib.hid (And.intro (k3 w (Nat.le_refl _) ha) k2)
      clear k1 k2 k3 hlen ha ho
      go_wp2_with (at_builtin; refine Lib.wpList_append_run _ rfl _ _ _ _ rfl _ _ rfl rfl _ _ K3.out ?_)
      go_roundg (n - (j + 1))
      case measure => omega
      case rel => exact ⟨j + 1, rfl, by omega, by go_num, HB3.out.1, by rw [← HE.out]; exact HB3.out.2⟩
    · obtain rfl : j = n := by omega
      obtain ⟨u3, w3, k1, k2, k3⟩ := appN (s := 26) Try.underlying26 info_i64 (by decide) ho (HCut.out.later ha) ha.below.size (by rw [List.length_drop]; omega)
      have K3 := Lib.hid k1
      have HB3 := Lib.hid (And.intro (ON.grown ho (Nat.le_refl _) ha k3) k2)
      clear k1 k2 k3 hlen ha ho
      go_wp2_with (at_builtin; refine Lib.wpList_append_run _ rfl _ _ _ _ rfl _ _ rfl rfl _ _ K3.out ?_)
      go_ret
      exact ⟨_, rfl, HB3.out.1, by rw [← HZ.out]; exact HB3.out.2⟩
/-- the document's Insert -/
theorem refIns_any (v : Value) (l : List Int) (a n : Nat) (w : World) (hv : RI w v l) (ha : a ≤ l.length) (hl : l.length ≤ 4000) (hn : n ≤ 4000) : Calls Try.prog 22 #[v, .int .i64 a, .int .i64 n] w (RowI w (insL l a n)) := by
  obtain ⟨A, cap, rfl, h2, h3⟩ := hv
  rcases Nat.eq_zero_or_pos l.length with h0 | h0
  · obtain rfl := List.eq_nil_of_length_eq_zero h0
    have : a = 0 := by omega
    subst this
    exact ins_none A cap n w hn ⟨A, cap, rfl, h2, h3⟩
  · obtain ⟨b, off, rfl, hb, hc⟩ := h3 h0
    cases a with
    | zero => exact ins_zero b off _ cap n l w rfl h0 hl hn ⟨_, cap, rfl, h2, h3⟩ hb hc
    | succ i => exact ins_more b off _ cap n i l w rfl ha hl hn ⟨_, cap, rfl, h2, h3⟩ hb hc
end Go.Proofs.Ytbegglgekkbcoaa
