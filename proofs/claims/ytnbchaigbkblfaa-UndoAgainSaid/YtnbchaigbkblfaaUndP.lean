/- undo: the library's Delete of numbers, the program's turn, New, Past, Future, Clear: by contract. -/
import Derived.Test.YtnbchaigbkblfaaUndA
import Derived.Test.YtnbchaigbkblfaaActs
import Derived.LoopN
import Derived.BigRegion
namespace Go.Proofs.Ytnbchaigbkblfaa
set_option linter.unusedSimpArgs false
set_option linter.unusedVariables false
set_option linter.unusedSectionVars false
open Go.RowKit

theorem zero_int : ∀ w, (zeroValue 3).run Try.prog w = .ok (.int .i64 0) w := fun w => by simp [go_sem]
set_option maxRecDepth 100000 in
set_option maxHeartbeats 1600000 in
/-- slices.Delete(v, i, j), v a row that the call owns -/
theorem ndelete_any (B : Nat) (v : Value) (l : List Int) (i j : Nat) (w : World) (ho : ON .i64 3 w B v l) (hij : i ≤ j) (hj : j ≤ l.length) (hl : l.length ≤ 90000) :
    Calls Try.prog 19 #[v, .int .i64 (i : Int), .int .i64 (j : Int)] w fun e w' => ∃ u, e = .returned u ∧ ON .i64 3 w' B u (l.take i ++ l.drop j) ∧ w.grownBy w' v.ownBlock ∧ u.ownBlock = v.ownBlock := by
  by_cases heq : i = j
  · subst heq
    have HZ : Hid (ON .i64 3 w B v l ∧ w.grownBy w v.ownBlock) := Lib.hid ⟨ho, ⟨rfl, rfl, rfl, Nat.le_refl _, fun _ _ _ => rfl⟩⟩
    obtain ⟨A, cap, rfl, hc⟩ := ho.form
    obtain ⟨n, hn⟩ : ∃ n, l.length = n := ⟨_, rfl⟩
    rw [hn] at HZ hc hj ⊢
    clear ho hn hl
    go_enter Try.func19, Try.ntmps19
    go_wp2_with fail
    all_goals
      go_ret
      first
      | exact ⟨_, rfl, HZ.out.1, HZ.out.2, rfl⟩
      | (have e : n = i := by omega
         rw [e] at HZ
         exact ⟨_, rfl, HZ.out.1, HZ.out.2, rfl⟩)
  · obtain ⟨g, cap, cur, rfl, hB, hg, hc, hm, hs, hcell⟩ := ho.at (by omega)
    obtain ⟨n, hn⟩ : ∃ n, l.length = n := ⟨_, rfl⟩
    have hlt : i < j := by omega
    obtain ⟨i0, hi0, hz0, hz1, hz2⟩ := info_parts info_i64
    rw [hn] at hc hj hl ⊢
    have hs1 := upto_same (some ⟨g, 0, none⟩) n cap i (by omega)
    have hs2 := from_same g 0 n cap j (by omega) hc
    have hs3 := part_same g 0 (i + (n - j)) cap (i + (n - j)) n (by omega) hc
    rw [if_neg (by omega), Nat.zero_add] at hs3
    -- ahead of the append
    have HOwn : Hid (ON .i64 3 w B (.slice (some ⟨g, 0, none⟩) i cap) (l.take i)) := Lib.hid (by
      have := ON.of (l := l.take i) (cap := cap) hB hg (by rw [List.length_take]; omega) hm hs (fun k hk => by rw [List.length_take] at hk; rw [List.getElem_take]; exact hcell k (by omega))
      rwa [show (l.take i).length = i by rw [List.length_take]; omega] at this)
    obtain ⟨w1, K1, o1, g1⟩ : ∃ w1, (Builtin.append_ #[29, 29] 29 #[.slice (some ⟨g, 0, none⟩) i cap, .slice (some ⟨g, if cap = j then 0 else 0 + j, none⟩) (n - j) (cap - j)]).run Try.prog w.drew = .ok (.slice (some ⟨g, 0, none⟩) (i + (n - j)) cap) w1 ∧ ON .i64 3 w1 B (.slice (some ⟨g, 0, none⟩) (i + (n - j)) cap) (l.take i ++ l.drop j) ∧ w.grownBy w1 (some g) := by
      have li : (l.take i).length = i := by rw [List.length_take]; omega
      have ld : (l.drop j).length = n - j := by rw [List.length_drop]; omega
      have od : ON .i64 3 w.drew B (.slice (some ⟨g, 0, none⟩) i cap) (l.take i) := HOwn.out.later (AnyLater.refl w).drew
      unfold ON at od
      rw [li] at od
      obtain ⟨w1, k1, k2, k3⟩ := run_append_own_spare (P := Try.prog) w.drew B 29 29 3 i0 1 Try.underlying29 hi0 hz1 g i cap ((l.take i).map (Value.int .i64)) od ⟨g, if cap = j then 0 else 0 + j, none⟩ (n - j) (cap - j) ((l.drop j).map (Value.int .i64)) (by simp; omega) (fun k x hx => by
        have hk : k < (l.drop j).length := by
          rcases Nat.lt_or_ge k (l.drop j).length with h | h
          · exact h
          · rw [List.getElem?_eq_none (by simpa using h)] at hx; cases hx
        rw [if_neg (by omega), addr_add, Nat.zero_add]
        show w.cell? _ = _
        rw [own_row hg, hcell (j + k) (by omega), ← hx, List.getElem?_map, List.getElem?_drop, List.getElem?_eq_getElem (by omega)]
        rfl) (by intro x hx; obtain ⟨z, _, rfl⟩ := List.mem_map.1 hx; rfl) (by omega)
      refine ⟨w1, k1, ?_, World.grownBy.later (AnyLater.refl w).drew k3⟩
      show w1.ownsRow B 3 1 _ (l.take i ++ l.drop j).length ((l.take i ++ l.drop j).map (Value.int .i64))
      rw [List.length_append, li, ld, List.map_append]
      exact k2
    -- behind it the rest is cleared
    have HL : Hid ((l.take i ++ l.drop j).length = i + (n - j)) := Lib.hid (by rw [List.length_append, List.length_take, List.length_drop]; omega)
    obtain ⟨cur1, hg1, hc1, hm1, hs1', hcell1⟩ : ∃ cur1, w1.heap[g]? = some (.cells cur1 3) ∧ (l.take i ++ l.drop j).length ≤ cap ∧ cap ≤ maxLen ∧ cur1.size = cap ∧ ∀ (k : Nat) (hk : k < (l.take i ++ l.drop j).length), cur1[k]? = some (.int .i64 (l.take i ++ l.drop j)[k]) := by
      rcases o1.2 with ⟨e, _⟩ | ⟨g', cap', cur1, e, h1, h2, h3, h4, h5, h6⟩
      · cases e
      · injection e with e1 e2 e3
        cases e1
        cases e3
        refine ⟨cur1, h2, h3, h4, by omega, fun k hk => ?_⟩
        have : (cur1.toList.take ((l.take i ++ l.drop j).length * 1))[k]? = ((l.take i ++ l.drop j).map (Value.int .i64))[k]? := by rw [h6]
        rw [List.getElem?_take_of_lt (by omega), Array.getElem?_toList] at this
        rw [this, List.getElem?_map, List.getElem?_eq_getElem hk]
        rfl
    have hcl := fun ty => Lib.run_clear_slice (P := Try.prog) w1 29 3 ty (.int .i64 0) Try.underlying29 zero_int rfl rfl g (i + (n - j)) (n - (i + (n - j))) (cap - (i + (n - j))) (by omega) (fun k hk => by rw [own_row hg1, Array.getElem?_eq_getElem (by omega)]; rfl) (fun k hk => own_free hg1 _)
    obtain ⟨cur2, hg2, hs2', hcell2⟩ := heap_setCells (List.replicate (n - (i + (n - j))) (.int .i64 0)) (i + (n - j)) w1 cur1 hg1
    have HZ : Hid (ON .i64 3 (w1.setCells g (i + (n - j)) (List.replicate (n - (i + (n - j))) (.int .i64 0))) B (.slice (some ⟨g, 0, none⟩) (i + (n - j)) cap) (l.take i ++ l.drop j) ∧ w.grownBy (w1.setCells g (i + (n - j)) (List.replicate (n - (i + (n - j))) (.int .i64 0))) (some g)) := Lib.hid ⟨by
      have := ON.of (l := l.take i ++ l.drop j) (cap := cap) hB hg2 hc1 hm (by omega) (fun k hk => by rw [hcell2 k (by rw [HL.out] at hk; exact hk)]; exact hcell1 k hk)
      rwa [HL.out] at this, by
      have h1 := stays_setCells (S := fun k => k = g) rfl (List.replicate (n - (i + (n - j))) (.int .i64 0)) (i + (n - j)) w1 (Stays.grown (S := fun k => k = g) g1 (fun k e => by cases e; rfl))
      exact ⟨h1.os, h1.tape, h1.output, h1.size, fun k hk hne => h1.block k hk (fun e => hne (by rw [e]))⟩⟩
    have K1 := Lib.hid K1
    clear ho hg hcell HOwn o1 g1 hg1 hc1 hm1 hs1' hcell1 hg2 hs2' hcell2 hi0 hz0 hz1 hz2
    have hij' : ((i : Int) == (j : Int)) = false := by simp; omega
    generalize hq : i + (n - j) = q at *
    have hqn : q < n := by omega
    obtain ⟨o2, ho2⟩ : ∃ o2, (if cap = j then 0 else 0 + j) = o2 := ⟨_, rfl⟩
    rw [ho2] at hs2 K1
    clear ho2
    obtain ⟨d1, hd1⟩ : ∃ d1, n - j = d1 := ⟨_, rfl⟩
    obtain ⟨d2, hd2⟩ : ∃ d2, cap - j = d2 := ⟨_, rfl⟩
    rw [hd1, hd2] at hs2 K1
    have HD := Lib.hid (And.intro hd1 (And.intro hd2 hq))
    clear hd1 hd2 hq
    go_enter Try.func19, Try.ntmps19
    go_wp2_with fail
    apply wp_region_acts 7 [(6, .slice (some ⟨g, 0, none⟩) q cap)] (fun _ => True) (stL [fun w' => w' = w.drew, fun w' => w' = w1]) (by kernel_rfl) (by kernel_rfl) (by kernel_rfl) trivial rfl
    case hlex =>
      intro U hU
      simp only [actFrom, actOp, List.lookup, Nat.reduceBEq, Nat.reduceLeDiff, Nat.reduceAdd, if_false, if_true]
      repeat (go_big_quiet_step (fail))
      exact wpQuiet_nil rfl
    case hact =>
      intro jj hjj o ho
      obtain rfl : jj = 0 := by simp at hjj; omega
      cases ho
      refine ⟨rfl, fun w' hC hS => ?_⟩
      obtain rfl : w' = w.drew := hS
      exact act_append _ _ _ _ rfl _ _ rfl rfl K1.out ⟨trivial, rfl⟩
    case htail =>
      intro w' hC hS
      obtain rfl : w' = w1 := hS
      simp only [List.drop_succ_cons, List.drop_zero, List.drop_nil]
      go_wp2_with fail
      go_ret
      exact ⟨_, rfl, HZ.out.1, HZ.out.2, rfl⟩
end Go.Proofs.Ytnbchaigbkblfaa
