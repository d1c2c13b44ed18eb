/- rope: an act done to both, the program's text and the document's. -/
import Derived.Test.YtiiojgneljgakaaRopT
namespace Go.Proofs.Ytiiojgneljgakaa
set_option linter.unusedSimpArgs false
set_option linter.unusedVariables false
set_option linter.unusedSectionVars false
open Go.RowKit

theorem IsX.but {w w' : World} {g xg : Nat} {most : Int} {bs : List Int} {cs : Array Value} (h : IsX w xg most bs) (hb : But g w w') (hg : w.heap[g]? = some (.cells cs 54)) : IsX w' xg most bs := by
  obtain ⟨bv, h1, h2⟩ := h
  refine ⟨bv, hb.own h1 (fun e => ?_), h2.but hb hg (by decide)⟩
  rw [e, hg] at h1
  cases h1
theorem IsR.but {w w' : World} {g xg : Nat} {most : Int} {t : Tr} {cs : Array Value} (h : IsR w g most t) (hb : But xg w w') (hx : w.heap[xg]? = some (.cells cs 31)) : IsR w' g most t := by
  obtain ⟨rv, h1, h2⟩ := h
  refine ⟨rv, hb.own h1 (fun e => ?_), IsT.but hb hx (by decide) (by decide) (by decide) h2⟩
  rw [e, hx] at h1
  cases h1
/-- the program's text at g and the document's at xg are the same -/
def Both (w : World) (g xg : Nat) (L : List Int) : Prop := ∃ t, IsR w g 3000 t ∧ t.Ok ∧ t.bs = L ∧ IsX w xg 3000 L ∧ Bytes L ∧ L.length ≤ 3000
theorem Both.later {w w' : World} {g xg : Nat} {L : List Int} (h : Both w g xg L) (a : AnyLater w w') : Both w' g xg L := by
  obtain ⟨t, h1, h2, h3, h4, h5⟩ := h
  exact ⟨t, h1.later a, h2, h3, h4.later a, h5⟩
set_option maxRecDepth 100000 in
set_option maxHeartbeats 1600000 in
theorem does_del (W w : World) (g xg : Nat) (L b : List Int) (a n : Int) (bv : Value) (h : Both w g xg L) (hW : AnyLater W w) (hg : W.heap.size ≤ g) (hx : W.heap.size ≤ xg) (hb : RN .u8 w bv b) :
    Calls Try.prog 7 #[.pointer (some ⟨g, 0, none⟩), .pointer (some ⟨xg, 0, none⟩), .agg #[.int .i64 1, .int .i64 a, .int .i64 n, bv]] w fun e w' => e = .returned (.bool true) ∧ AnyLater W w' ∧ ∃ L', Both w' g xg L' := by
  obtain ⟨t, hr, ok, hbs, hX, hby, hlen⟩ := h
  have htl : t.len = L.length := by rw [← Tr.len_bs, hbs]
  have HF := Lib.hid (fun (w' : World) (e : AnyLater w w') => few_any8 bv b _ 40 rfl w' (hb.later e) (by omega))
  have HD : Hid (∀ w', IsR w' g 3000 t → Calls Try.prog 17 #[.pointer (some ⟨g, 0, none⟩), .int .i64 a, .int .i64 n] w' fun e w'' => ∃ u, e = .returned (.tuple #[u, .int .i64 (delC L.length a n)]) ∧ But g w' w'' ∧ IsR w'' g 3000 (delTT t a n) ∧ isB (delG L a n) u w'') := Lib.hid (fun w' h => by
    have := rdel_all g 3000 a n t w' h ok
    rwa [htl, hbs] at this)
  have HX : Hid (∀ w', IsX w' xg 3000 L → Calls Try.prog 22 #[.pointer (some ⟨xg, 0, none⟩), .int .i64 a, .int .i64 n] w' fun e w'' => ∃ u, e = .returned (.tuple #[u, .int .i64 (delC L.length a n)]) ∧ But xg w' w'' ∧ IsX w'' xg 3000 (delL L a n) ∧ isB (delG L a n) u w'') := Lib.hid (fun w' h => xdel_all xg 3000 a n L w' h (by omega))
  have HE : Hid (∀ w', IsR w' g 3000 (delTT t a n) → IsX w' xg 3000 (delL L a n) → Both w' g xg (delL L a n)) := Lib.hid (fun w' h1 h2 => ⟨_, h1, delTT_ok ok, by rw [delTT_bs, hbs], h2, delL_bytes hby, Nat.le_trans (delL_len L a n) hlen⟩)
  obtain ⟨A, cap, rfl, -⟩ := hb.form
  have HS := Lib.hid (And.intro hr hX)
  have HWg := Lib.hid (And.intro hW (And.intro hg hx))
  have hlt : g < w.heap.size ∧ xg < w.heap.size := by
    obtain ⟨rv, q1, _⟩ := hr
    obtain ⟨bv, q2, _⟩ := hX
    exact ⟨own_lt q1, own_lt q2⟩
  have HLt := Lib.hid hlt
  generalize delC L.length a n = c at *
  obtain ⟨G, hG⟩ : ∃ G, delG L a n = G := ⟨_, rfl⟩
  rw [hG] at HD HX
  clear hr hX ok hbs hby hlen htl hb hW hg hx hG hlt
  generalize b.length = m at *
  go_enter Try.func7, Try.ntmps7
  go_wp2_with fail
  first | refine settle_wp (fun wS => AnyLater w wS ∧ wS.heap[w.heap.size]? = some (.cells #[.int .i64 1, .int .i64 a, .int .i64 n, .slice A m cap] 34)) ?_ ?_ | refine settle_calls (fun wS => AnyLater w wS ∧ wS.heap[w.heap.size]? = some (.cells #[.int .i64 1, .int .i64 a, .int .i64 n, .slice A m cap] 34)) ?_ ?_
  · refine ⟨?_, ?_⟩
    · repeat' (first | with_reducible assumption | with_reducible exact AnyLater.refl _ | with_reducible apply AnyLater.setCell | with_reducible apply AnyLater.later | with_reducible apply AnyLater.drewN | with_reducible apply AnyLater.drew | with_reducible apply AnyLater.alloc | ((try simp only [World.size_alloc, World.size_setCell, World.size_drew]); (try dsimp only); omega))
    · ((repeat (first | with_reducible assumption | ((with_reducible apply heap_new); (try simp only [World.size_alloc, World.size_setCell, World.size_drew, World.heap_drewN]); done) | ((with_reducible apply heap_new); (try simp only [World.size_alloc, World.size_setCell, World.size_drew, World.heap_drewN]); omega) | (with_reducible refine heap_old (by (try simp only [World.size_alloc, World.size_setCell, World.size_drew, World.heap_drewN]); omega) ?_) | (with_reducible refine heap_drew ?_) | (with_reducible refine heap_far (by omega) ?_) | (with_reducible apply heap_at))); all_goals rfl)
  rintro w1 ⟨b_w1, s0_w1⟩
  have a_w1 := b_w1
  have r0_w1 := own_row s0_w1
  have f0_w1 := own_free s0_w1
  have l0_w1 := own_lt s0_w1
  have z_w1 := b_w1.below.size
  refine (HF.out _ a_w1).mono ?_
  rintro e w2 ⟨fv, rfl, b_w2, -⟩
  have z_w2 := b_w2.below.size
  have a_w2 := a_w1.trans b_w2
  have s0_w2 := any_own b_w2 s0_w1
  have r0_w2 := own_row s0_w2
  have f0_w2 := own_free s0_w2
  have l0_w2 := own_lt s0_w2
  (try clear r0_w1); (try clear f0_w1)
  go_wp2_with fail
  have S2 := Lib.hid (And.intro (HS.out.1.later a_w2) (HS.out.2.later a_w2))
  have W2 := Lib.hid (HWg.out.1.trans a_w2)
  refine (HD.out _ S2.out.1).mono ?_
  rintro e w3 ⟨u, rfl, bb3, r3, hu⟩
  obtain ⟨rv2, g2, _⟩ := id S2.out.1
  have s0_w3 := bb3.own s0_w2 (by have := HLt.out; omega)
  have X3 := Lib.hid (S2.out.2.but bb3 g2)
  have W3 := Lib.hid (But.any W2.out HWg.out.2.1 bb3)
  have R3 := Lib.hid (And.intro r3 hu)
  obtain ⟨A3, cap3, rfl, -⟩ := isB.form hu
  have r0_w3 := own_row s0_w3
  clear r0_w2 f0_w2 bb3 r3 hu g2 b_w2 a_w2 l0_w2 z_w2
  go_wp2_with fail
  refine (HX.out _ X3.out).mono ?_
  rintro e w4 ⟨u4, rfl, bb4, x4, hu4⟩
  obtain ⟨xv, x2, _⟩ := id X3.out
  have R4 := Lib.hid (And.intro (R3.out.1.but bb4 x2) (And.intro x4 (But.any W3.out HWg.out.2.2 bb4)))
  have hs3 := RN.str (RT.rn (RT.but R3.out.2 bb4 x2 (by decide)))
  have hs4 := RN.str (RT.rn hu4)
  obtain ⟨A4, cap4, rfl, -⟩ := isB.form hu4
  generalize strOfNums G = S at *
  generalize G.length = k at *
  clear bb4 x4 hu4 x2 r0_w3 s0_w3
  go_wp2_with fail
  go_ret
  exact ⟨by simp, R4.out.2.2, _, HE.out _ R4.out.1 R4.out.2.1⟩
def stI (w0 w1 w2 : World) (P3 P4 : World → Prop) (j : Nat) (_ : Nat → Value) (x : World) : Prop := match j with
  | 0 => x = w0
  | 1 => x = w1
  | 2 => x = w2
  | 3 => P3 x
  | 4 => P4 x
  | _ => True
set_option maxRecDepth 100000 in
set_option maxHeartbeats 3200000 in
theorem does_ins (W w : World) (g xg : Nat) (L b : List Int) (k a n : Int) (bv : Value) (h : Both w g xg L) (hW : AnyLater W w) (hg : W.heap.size ≤ g) (hx : W.heap.size ≤ xg) (hb : RN .u8 w bv b) (hby0 : Bytes b) (hk : k ≠ 1) :
    Calls Try.prog 7 #[.pointer (some ⟨g, 0, none⟩), .pointer (some ⟨xg, 0, none⟩), .agg #[.int .i64 k, .int .i64 a, .int .i64 n, bv]] w fun e w' => e = .returned (.bool true) ∧ AnyLater W w' ∧ ∃ L', Both w' g xg L' := by
  obtain ⟨t, hr, ok, hbs, hX, hby, hlen⟩ := h
  have htl : t.len = L.length := by rw [← Tr.len_bs, hbs]
  obtain ⟨B, hB⟩ : ∃ B, b.take 40 = B := ⟨_, rfl⟩
  have hB40 : B.length ≤ 40 := by rw [← hB, List.length_take]; omega
  have hBy : Bytes B := by rw [← hB]; exact fun c hc => hby0 c (List.mem_of_mem_take hc)
  have HF := Lib.hid (fun (w' : World) (e : AnyLater w w') => few_any8 bv b B 40 hB w' (hb.later e) (by omega))
  have HI : Hid (∀ (w' : World) (u : Value), IsR w' g 3000 t → RN .u8 w' u B → Calls Try.prog 16 #[.pointer (some ⟨g, 0, none⟩), .int .i64 a, u] w' fun e w'' => e = .returned (.int .i64 (insC L.length 3000 a B.length)) ∧ But g w' w'' ∧ IsR w'' g 3000 (insTT t 3000 a B)) := Lib.hid (fun w' u h hu => by
    have := rins_all g 3000 a t u B w' h ok hu hBy (by omega)
    rwa [htl] at this)
  have HX : Hid (∀ (w' : World) (u : Value), IsX w' xg 3000 L → RN .u8 w' u B → Calls Try.prog 23 #[.pointer (some ⟨xg, 0, none⟩), .int .i64 a, u] w' fun e w'' => e = .returned (.int .i64 (insC L.length 3000 a B.length)) ∧ But xg w' w'' ∧ IsX w'' xg 3000 (insO L 3000 a B)) := Lib.hid (fun w' u h hu => xins_all xg 3000 a L u B w' h hu (by omega))
  have HE : Hid (∀ w', IsR w' g 3000 (insTT t 3000 a B) → IsX w' xg 3000 (insO L 3000 a B) → Both w' g xg (insO L 3000 a B)) := Lib.hid (fun w' h1 h2 => ⟨_, h1, insTT_ok ok hBy (by decide), by rw [insTT_bs, hbs], h2, insO_bytes hby hBy, by have := insO_len (L := L) (most := 3000) (x := a) (b := B) (by omega); omega⟩)
  obtain ⟨A, cap, rfl, -⟩ := hb.form
  have HS := Lib.hid (And.intro hr hX)
  have HWg := Lib.hid (And.intro hW (And.intro hg hx))
  have hlt : g < w.heap.size ∧ xg < w.heap.size := by
    obtain ⟨rv, q1, _⟩ := hr
    obtain ⟨bv, q2, _⟩ := hX
    exact ⟨own_lt q1, own_lt q2⟩
  have HLt := Lib.hid hlt
  have k1 : (k == 1) = false := by simpa using hk
  generalize insC L.length 3000 a B.length = c at *
  generalize insTT t 3000 a B = t2 at *
  generalize insO L 3000 a B = L2 at *
  have HB40 := Lib.hid hB40
  clear hr hX ok hbs hby hlen htl hb hW hg hx hlt hB hB40 hBy hby0 hk
  generalize b.length = m at *
  go_enter Try.func7, Try.ntmps7
  go_wp2_with fail
  first | refine settle_wp (fun wS => AnyLater w wS ∧ wS.heap[w.heap.size]? = some (.cells #[.int .i64 k, .int .i64 a, .int .i64 n, .slice A m cap] 34)) ?_ ?_ | refine settle_calls (fun wS => AnyLater w wS ∧ wS.heap[w.heap.size]? = some (.cells #[.int .i64 k, .int .i64 a, .int .i64 n, .slice A m cap] 34)) ?_ ?_
  · refine ⟨?_, ?_⟩
    · repeat' (first | with_reducible assumption | with_reducible exact AnyLater.refl _ | with_reducible apply AnyLater.setCell | with_reducible apply AnyLater.later | with_reducible apply AnyLater.drewN | with_reducible apply AnyLater.drew | with_reducible apply AnyLater.alloc | ((try simp only [World.size_alloc, World.size_setCell, World.size_drew]); (try dsimp only); omega))
    · ((repeat (first | with_reducible assumption | ((with_reducible apply heap_new); (try simp only [World.size_alloc, World.size_setCell, World.size_drew, World.heap_drewN]); done) | ((with_reducible apply heap_new); (try simp only [World.size_alloc, World.size_setCell, World.size_drew, World.heap_drewN]); omega) | (with_reducible refine heap_old (by (try simp only [World.size_alloc, World.size_setCell, World.size_drew, World.heap_drewN]); omega) ?_) | (with_reducible refine heap_drew ?_) | (with_reducible refine heap_far (by omega) ?_) | (with_reducible apply heap_at))); all_goals rfl)
  rintro w1 ⟨b_w1, s0_w1⟩
  have a_w1 := b_w1
  have r0_w1 := own_row s0_w1
  have f0_w1 := own_free s0_w1
  have l0_w1 := own_lt s0_w1
  have z_w1 := b_w1.below.size
  refine (HF.out _ a_w1).mono ?_
  rintro e w2 ⟨fv, rfl, b_w2, hfv⟩
  have z_w2 := b_w2.below.size
  have a_w2 := a_w1.trans b_w2
  have s0_w2 := any_own b_w2 s0_w1
  have r0_w2 := own_row s0_w2
  have f0_w2 := own_free s0_w2
  have l0_w2 := own_lt s0_w2
  (try clear r0_w1); (try clear f0_w1)
  go_wp2_with fail
  have HFV := Lib.hid hfv.rt
  obtain ⟨Af, capf, rfl, -⟩ := hfv.form
  obtain ⟨u8, w8, c1, c2, c3⟩ := copy8 (w := w2.drew) (hfv.rn.later (AnyLater.refl w2).drew) (by have := HB40.out; omega)
  have C1 := Lib.hid c1
  have C2 := Lib.hid (And.intro ((AnyLater.refl w2).drew.trans c2) c3.rn)
  have HS0 := Lib.hid s0_w2
  have HA2 := Lib.hid a_w2
  clear c1 c2 c3 hfv s0_w2 r0_w2 f0_w2 b_w2 a_w2 l0_w2 z_w2
  generalize B.length = mb at *
  apply wp_region_chain 13 [(3, .slice (some ⟨w2.heap.size, 0, none⟩) 0 0), (5, u8), (6, .int .i64 c), (11, .int .i64 c)] [] (fun x => x.heap[w.heap.size]? = some (.cells #[.int .i64 k, .int .i64 a, .int .i64 n, .slice A m cap] 34))
    (stI w2.drew (w2.drew.alloc (.cells #[] 5)) w8 (fun x => IsR x g 3000 t2 ∧ IsX x xg 3000 L ∧ AnyLater W x ∧ RN .u8 x (.slice Af mb capf) B) (fun x => IsR x g 3000 t2 ∧ IsX x xg 3000 L2 ∧ AnyLater W x)) (by kernel_rfl) (by kernel_rfl) (by kernel_rfl) (by simp) (by kernel_rfl) (heap_drew HS0.out) (fun _ => rfl)
  case hlex =>
    intro U hU
    have r0 := own_row hU
    simp only [actFrom, actOp, List.lookup, Nat.reduceBEq, Nat.reduceLeDiff, Nat.reduceAdd, if_false, if_true]
    repeat (go_big_quiet_step (fail))
    exact wpQuiet_nil rfl
  case hact =>
    intro i hi o ho
    have hj3 : i = 0 ∨ i = 1 ∨ i = 2 ∨ i = 3 := by simp at hi; omega
    rcases hj3 with rfl | rfl | rfl | rfl
    · cases ho
      refine ⟨rfl, fun gv x hC hS => ?_⟩
      obtain rfl : x = w2.drew := hS
      exact chain_value (w' := w2.drew.alloc (.cells #[] 5)) (by simp [go_sem, execOp]) ⟨heap_old (own_lt hC) hC, .inr rfl, rfl⟩
    · cases ho
      refine ⟨rfl, fun gv x hC hS => ?_⟩
      obtain rfl : x = w2.drew.alloc (.cells #[] 5) := hS
      simp only [fillAll, Act.put, List.setIfInBounds_toArray, List.set_cons_zero, List.set_cons_succ]
      exact chain_app _ _ _ _ rfl _ _ rfl rfl C1.out ⟨any_own C2.out.1 HS0.out, .inr rfl, rfl⟩
    · cases ho
      refine ⟨rfl, fun gv x hC hS => ?_⟩
      obtain rfl : x = w8 := hS
      simp only [fillAll, Act.put, List.setIfInBounds_toArray, List.set_cons_zero, List.set_cons_succ]
      have hR := HS.out.1.later (HA2.out.trans C2.out.1)
      have hXx := HS.out.2.later (HA2.out.trans C2.out.1)
      refine chain_go ?_ ((HI.out x _ hR C2.out.2).mono fun e w'' ⟨h1, h2, h3⟩ => ⟨_, h1, h2.own hC (by have := HLt.out; omega), .inr rfl, h3, ?_, ?_, ?_⟩)
      · simp [go_sem, execOp]
      · obtain ⟨rv, q1, _⟩ := hR
        exact hXx.but h2 q1
      · exact But.any (HWg.out.1.trans (HA2.out.trans C2.out.1)) HWg.out.2.1 h2
      · obtain ⟨rv, q1, _⟩ := hR
        exact RT.rn (RT.but (RT.later HFV.out C2.out.1) h2 q1 (by decide))
    · cases ho
      refine ⟨rfl, fun gv x hC hS => ?_⟩
      obtain ⟨hR, hXx, hWx, hfx⟩ : IsR x g 3000 t2 ∧ IsX x xg 3000 L ∧ AnyLater W x ∧ RN .u8 x (.slice Af mb capf) B := hS
      simp only [fillAll, Act.put, List.setIfInBounds_toArray, List.set_cons_zero, List.set_cons_succ]
      refine chain_go ?_ ((HX.out x _ hXx hfx).mono fun e w'' ⟨h1, h2, h3⟩ => ⟨_, h1, h2.own hC (by have := HLt.out; omega), .inr rfl, ?_, h3, ?_⟩)
      · simp [go_sem, execOp]
      · obtain ⟨xv, q1, _⟩ := hXx
        exact hR.but h2 q1
      · exact But.any hWx HWg.out.2.2 h2
  case htail =>
    intro gz wz hC hS
    obtain ⟨hR, hXx, hWx⟩ : IsR wz g 3000 t2 ∧ IsX wz xg 3000 L2 ∧ AnyLater W wz := hS
    have HZ := Lib.hid (And.intro hWx (HE.out wz hR hXx))
    clear hC hR hXx hWx
    simp only [fillAll, Act.put, List.setIfInBounds_toArray, List.set_cons_zero, List.set_cons_succ, List.drop_succ_cons, List.drop_zero, List.drop_nil]
    go_wp2_with fail
    go_ret
    exact ⟨by simp, HZ.out.1, _, HZ.out.2⟩
end Go.Proofs.Ytiiojgneljgakaa
