/- rope: the document's own text: bytes taken away, a part of it, where its line feeds are: by contract. -/
import Derived.Test.YtiicaldnegcdiaaRopP
import Derived.Test.YtiicaldnegcdiaaRopO
namespace Go.Proofs.Ytiicaldnegcdiaa
set_option linter.unusedSimpArgs false
set_option linter.unusedVariables false
set_option linter.unusedSectionVars false
open Go.RowKit

set_option maxRecDepth 100000 in
theorem xdel_bad (g : Nat) (most x n : Int) (bs : List Int) (w : World) (h : IsX w g most bs) (hx : ¬ In3 x n bs.length) (hbs : bs.length ≤ 60000) :
    Calls Try.prog 72 #[.pointer (some ⟨g, 0, none⟩), .int .i64 x, .int .i64 n] w fun e w' => ∃ A, e = .returned (.tuple #[.slice A 0 0, .int .i64 1]) ∧ AnyLater w w' := by
  obtain ⟨bv, hg, hb⟩ := h
  obtain ⟨A, cap, rfl, -⟩ := hb.form
  have r0 := own_row hg
  have l0 := own_lt hg
  clear hg hb
  generalize bs.length = N at *
  by_cases h1 : x < 0
  · clear hx
    go_enter Try.func72, Try.ntmps72
    go_wp2_with fail
    refine bodyPost_ret (v := .tuple #[.slice (some ⟨w.heap.size, 0, none⟩) 0 0, .int .i64 1]) (by simp [results, Try.results72, go_sem]) rfl ⟨_, rfl, ?_⟩
    repeat' (first | with_reducible assumption | with_reducible exact AnyLater.refl _ | with_reducible apply AnyLater.setCell | with_reducible apply AnyLater.later | with_reducible apply AnyLater.drewN | with_reducible apply AnyLater.drew | with_reducible apply AnyLater.alloc | ((try simp only [World.size_alloc, World.size_setCell, World.size_drew]); (try dsimp only); omega))
  · have d1 : decide (x < 0) = false := decide_eq_false h1
    by_cases h2 : (N : Int) < x
    · clear hx h1
      go_enter Try.func72, Try.ntmps72
      go_wp2_with fail
      refine bodyPost_ret (v := .tuple #[.slice (some ⟨w.heap.size, 0, none⟩) 0 0, .int .i64 1]) (by simp [results, Try.results72, go_sem]) rfl ⟨_, rfl, ?_⟩
      repeat' (first | with_reducible assumption | with_reducible exact AnyLater.refl _ | with_reducible apply AnyLater.setCell | with_reducible apply AnyLater.later | with_reducible apply AnyLater.drewN | with_reducible apply AnyLater.drew | with_reducible apply AnyLater.alloc | ((try simp only [World.size_alloc, World.size_setCell, World.size_drew]); (try dsimp only); omega))
    · have d2 : decide ((N : Int) < x) = false := decide_eq_false h2
      by_cases h3 : n < 0
      · clear hx h1 h2
        go_enter Try.func72, Try.ntmps72
        go_wp2_with fail
        refine bodyPost_ret (v := .tuple #[.slice (some ⟨w.heap.size, 0, none⟩) 0 0, .int .i64 1]) (by simp [results, Try.results72, go_sem]) rfl ⟨_, rfl, ?_⟩
        repeat' (first | with_reducible assumption | with_reducible exact AnyLater.refl _ | with_reducible apply AnyLater.setCell | with_reducible apply AnyLater.later | with_reducible apply AnyLater.drewN | with_reducible apply AnyLater.drew | with_reducible apply AnyLater.alloc | ((try simp only [World.size_alloc, World.size_setCell, World.size_drew]); (try dsimp only); omega))
      · have d3 : decide (n < 0) = false := decide_eq_false h3
        have h4 : (N : Int) - x < n := by
          rcases Int.lt_or_le ((N : Int) - x) n with h4 | h4
          · exact h4
          · exact absurd ⟨by omega, by omega, by omega, h4⟩ hx
        have h5 : 0 ≤ x := by omega
        have h6 : x ≤ (N : Int) := by omega
        clear hx h1 h2 h3
        go_enter Try.func72, Try.ntmps72
        go_wp2_with fail
        refine bodyPost_ret (v := .tuple #[.slice (some ⟨w.heap.size, 0, none⟩) 0 0, .int .i64 1]) (by simp [results, Try.results72, go_sem]) rfl ⟨_, rfl, ?_⟩
        repeat' (first | with_reducible assumption | with_reducible exact AnyLater.refl _ | with_reducible apply AnyLater.setCell | with_reducible apply AnyLater.later | with_reducible apply AnyLater.drewN | with_reducible apply AnyLater.drew | with_reducible apply AnyLater.alloc | ((try simp only [World.size_alloc, World.size_setCell, World.size_drew]); (try dsimp only); omega))
set_option maxRecDepth 100000 in
/-- v[lo:hi], also of none -/
theorem RN.part {w : World} {v : Value} {l : List Int} (h : RN .u8 w v l) (lo hi : Nat) (h1 : lo ≤ hi) (h2 : hi ≤ l.length) : ∃ A cap, RN .u8 w (.slice A (hi - lo) cap) ((l.drop lo).take (hi - lo)) ∧
    ∀ w', (Instr.sliceAt 38 v (some (.int .i64 (lo : Int))) (some (.int .i64 (hi : Int))) none).run Try.prog w' = .ok (.slice A (hi - lo) cap) w' := by
  rcases Nat.lt_or_ge lo hi with hlt | hge
  · exact h.mid lo hi hlt h2
  · obtain rfl : lo = hi := by omega
    obtain ⟨A, cap, rfl, h3, _⟩ := h
    refine ⟨(if cap = lo then A else A.map (fun x => x.add lo)), cap - lo, ⟨(if cap = lo then A else A.map (fun x => x.add lo)), cap - lo, by simp, by simp, fun h => by simp at h⟩, fun w' => ?_⟩
    · rw [run_sliceAt_slice w' _ _ _ _ _ Try.underlying38, run_slice_lh w' _ A l.length cap Try.underlying38 .i64 .i64 (lo : Int) (lo : Int) (by omega) (by omega) (by omega)]
      have hz : ∀ w, (Go.sizeOf (Try.prog.elem 38)).run Try.prog w = .ok 1 w := fun w => by simp [go_sem]
      rw [hz]
      simp only [Result.andThen, sliced, Int.toNat_natCast, Nat.mul_one, Nat.sub_self]
set_option maxRecDepth 100000 in
set_option maxHeartbeats 1600000 in
theorem xdel_yes (g : Nat) (most : Int) (i m : Nat) (bs : List Int) (w : World) (h : IsX w g most bs) (hi : i + m ≤ bs.length) (hbs : bs.length ≤ 60000) :
    Calls Try.prog 72 #[.pointer (some ⟨g, 0, none⟩), .int .i64 (i : Int), .int .i64 (m : Int)] w fun e w' => ∃ u, e = .returned (.tuple #[u, .int .i64 0]) ∧ But g w w' ∧ IsX w' g most (bs.take i ++ bs.drop (i + m)) ∧ RT .u8 5 w' u ((bs.drop i).take m) := by
  obtain ⟨bv, hg, hb⟩ := h
  have HB := Lib.hid hb
  have HG := Lib.hid hg
  obtain ⟨A, cap, rfl, -⟩ := hb.form
  obtain ⟨A1, cap1, r1, hup⟩ := RN.upto hb.rn i (by omega)
  obtain ⟨u2, r2, hcut0⟩ := RN.cut hb.rn (i + m) hi
  obtain ⟨A3, cap3, r3, hmid0⟩ := RN.part hb.rn i (i + m) (by omega) hi
  rw [Nat.add_sub_cancel_left] at r3 hmid0
  have hcut : ∀ w', (Instr.sliceAt 38 (.slice A bs.length cap) (some (.int .i64 ((i : Int) + (m : Int)))) none none).run Try.prog w' = .ok u2 w' := fun w' => by have := hcut0 w'; rwa [Int.natCast_add] at this
  have hmid : ∀ w', (Instr.sliceAt 38 (.slice A bs.length cap) (some (.int .i64 (i : Int))) (some (.int .i64 ((i : Int) + (m : Int)))) none).run Try.prog w' = .ok (.slice A3 m cap3) w' := fun w' => by have := hmid0 w'; rwa [Int.natCast_add] at this
  have R12 := Lib.hid (And.intro r1 (And.intro r2 r3))
  have HLen : Hid (bs.length ≤ 60000 ∧ i + m ≤ bs.length) := Lib.hid ⟨hbs, hi⟩
  have r0 := own_row hg
  have l0 := own_lt hg
  have d1 : decide ((i : Int) < 0) = false := decide_eq_false (by omega)
  have d2 : decide ((bs.length : Int) < (i : Int)) = false := decide_eq_false (by omega)
  have d3 : decide (bs.length < i) = false := decide_eq_false (by omega)
  have d4 : decide ((m : Int) < 0) = false := decide_eq_false (by omega)
  have d5 : decide ((bs.length : Int) - (i : Int) < (m : Int)) = false := decide_eq_false (by omega)
  have n9 : bs.length ≤ 60000 := by omega
  have i9 : i ≤ 60000 := by omega
  have m9 : m ≤ 60000 := by omega
  have im : i ≤ bs.length := by omega
  obtain ⟨u5, w5, c1, c2, c3⟩ := copy8 (w := w) r3 (by rw [List.length_take, List.length_drop]; omega)
  have C1 := Lib.hid c1
  have C2 := Lib.hid (And.intro c2 c3.rt)
  obtain ⟨A5, cap5, rfl, -⟩ := c3.form
  clear hg hb hi r1 r2 r3 hcut0 hmid0 hbs c1 c2 c3
  generalize hne : bs.length = n at *
  have HNM := Lib.hid hne
  clear hne
  generalize ((bs.drop i).take m).length = m5 at *
  go_enter Try.func72, Try.ntmps72
  go_wp2_with (at_builtin; refine Lib.wpList_append_run _ rfl _ _ _ _ rfl _ _ rfl rfl _ _ C1.out ?_)
  have s0 : w5.heap[g]? = some (.cells #[.slice A n cap, .int .i64 most] 41) := any_own C2.out.1 HG.out
  have HA0 := Lib.hid C2.out.1
  generalize w5 = w1 at *
  obtain ⟨u8, w8, k1, k2, k3⟩ := copy8 (w := w1.drew) (R12.out.1.later HA0.out.drew) (by rw [List.length_take]; have := HLen.out; have := HNM.out; omega)
  obtain ⟨u9, w9, q1, q2, q3⟩ := app8 k3 (R12.out.2.1.later (HA0.out.drew.trans k2)) k2.below.size (by rw [List.length_take, List.length_drop]; have := HLen.out; have := HNM.out; omega)
  have hw9 : AnyLater w1.drew w9 := ON.grown k3 (Nat.le_refl _) k2 q3
  have K1 := Lib.hid k1
  have K2 := Lib.hid q1
  have HW8 := Lib.hid ((AnyLater.refl w1).drew.trans k2)
  have HW9 := Lib.hid ((AnyLater.refl w1).drew.trans hw9)
  have HO := Lib.hid q2
  obtain ⟨A9, cap9, rfl, -⟩ := q2.form
  have HS0 := Lib.hid s0
  clear k1 k2 k3 q1 q2 q3 hw9 s0 r0
  generalize (bs.take i ++ bs.drop (i + m)).length = n9' at *
  apply wp_region_chain 20 [(1, .slice (some ⟨w1.heap.size, 0, none⟩) 0 0), (8, u8), (17, .slice A9 n9' cap9)] [] (AnyLater w1) (st4 w1.drew (w1.drew.alloc (.cells #[] 5)) w8 w9 w9) (by kernel_rfl) (by kernel_rfl) (by kernel_rfl) (by simp) (by kernel_rfl) (AnyLater.refl w1).drew (fun _ => rfl)
  case hlex =>
    intro U hU
    have r0 := own_row (any_own hU HS0.out)
    simp only [actFrom, actOp, List.lookup, Nat.reduceBEq, Nat.reduceLeDiff, Nat.reduceAdd, if_false, if_true]
    repeat (go_big_quiet_step (fail))
    exact wpQuiet_nil rfl
  case hact =>
    intro i hi o ho
    have hj3 : i = 0 ∨ i = 1 ∨ i = 2 := by simp at hi; omega
    rcases hj3 with rfl | rfl | rfl
    · cases ho
      refine ⟨rfl, fun g x hC hS => ?_⟩
      obtain rfl : x = w1.drew := hS
      exact chain_value (w' := w1.drew.alloc (.cells #[] 5)) (by simp [go_sem, execOp]) ⟨hC.alloc _, .inr rfl, rfl⟩
    · cases ho
      refine ⟨rfl, fun g x hC hS => ?_⟩
      obtain rfl : x = w1.drew.alloc (.cells #[] 5) := hS
      simp only [fillAll, Act.put, List.setIfInBounds_toArray, List.set_cons_zero, List.set_cons_succ]
      exact chain_app _ _ _ _ rfl _ _ rfl rfl K1.out ⟨HW8.out, .inr rfl, rfl⟩
    · cases ho
      refine ⟨rfl, fun g x hC hS => ?_⟩
      obtain rfl : x = w8 := hS
      simp only [fillAll, Act.put, List.setIfInBounds_toArray, List.set_cons_zero, List.set_cons_succ]
      exact chain_app _ _ _ _ rfl _ _ rfl rfl K2.out ⟨HW9.out, .inr rfl, rfl⟩
  case htail =>
    intro gz wz hC hS
    obtain rfl : wz = w9 := hS
    clear hC
    simp only [fillAll, Act.put, List.setIfInBounds_toArray, List.set_cons_zero, List.set_cons_succ, List.drop_succ_cons, List.drop_zero, List.drop_nil]
    clear hup hcut hmid
    have s1 := any_own HW9.out HS0.out
    have r1 := own_row s1
    have f1 := own_free s1
    go_wp2_with fail
    refine bodyPost_ret (v := .tuple #[.slice A5 m5 cap5, .int .i64 0]) (by simp [results, Try.results72, go_sem]) rfl ?_
    exact ⟨_, rfl, (But.of (HA0.out.trans HW9.out)).setCell 0 _, ⟨_, heap_at s1 rfl, RT.far (g := g) (i := 0) (x := .slice A9 n9' cap9) (ON.rt HO.out) s1 (by decide)⟩, RT.far (RT.later C2.out.2 HW9.out) s1 (by decide)⟩
end Go.Proofs.Ytiicaldnegcdiaa
