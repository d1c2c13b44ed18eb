/- rope: how many line feeds there are, bytes copied, a piece made of bytes: by contract. -/
import Derived.Test.YtiicaldnegcdiaaGreatRopF
import Derived.Test.YtiicaldnegcdiaaGreatUtfB
import Derived.Shelf.Bytes.SlCountOne
import Derived.Lib.JoinLaws
import Derived.Lib.AppendZeros
import Derived.Deep.LoopGhost
namespace Go.Proofs.YtiicaldnegcdiaaGreat
set_option linter.unusedSimpArgs false
set_option linter.unusedVariables false
set_option linter.unusedSectionVars false
open Go.RowKit

theorem u8_ten {x : Int} (h : 0 ≤ x ∧ x ≤ 255) : UInt8.ofNat x.toNat = 10 ↔ x = 10 := by
  constructor
  · intro e
    have := congrArg UInt8.toNat e
    simp only [UInt8.toNat_ofNat'] at this
    have h2 : (10 : UInt8).toNat = 10 := rfl
    rw [h2] at this
    omega
  · rintro rfl; rfl
theorem feN_count : ∀ (l : List Int) (i : Int), Bytes l → (feN i l).length = Lib.countByte (Lib.bytesOf l) 10
  | [], i, _ => rfl
  | x :: l, i, h => by
    have ih := feN_count l (i + 1) (fun c hc => h c (by simp [hc]))
    have hx := u8_ten (h x (by simp))
    unfold Lib.countByte Lib.bytesOf at *
    rw [List.map_cons, List.count_cons, feN]
    by_cases e : x = 10
    · rw [if_pos e, List.length_cons, ih, if_pos (by simpa using hx.2 e)]
    · rw [if_neg e, ih, if_neg (by simpa using fun q => e (hx.1 q))]; rfl
theorem run_count (v : Value) (l : List Int) (w : World) (hv : RN .u8 w v l) (hb : Bytes l) (c : Nat) (hc : (feN 0 l).length = c) : (callFunc 97 #[v, .int .u8 10]).run Tryz.prog w = .ok (.value (.int .i64 (c : Int))) w := by
  rw [run_callFunc_extern Tryz.func97 (by kernel_rfl) (by kernel_rfl) (by kernel_rfl) (e := Extern.BytealgCount.count) (by kernel_rfl)]
  obtain ⟨A, cap, rfl, h2, h3⟩ := hv
  rw [feN_count l 0 hb] at hc
  cases A with
  | none =>
    have h0 : l = [] := by
      cases l with
      | nil => rfl
      | cons x t => obtain ⟨b, off, e, _⟩ := h3 (by simp); cases e
    subst h0
    subst hc
    rw [Lib.run_countNil]
    rfl
  | some a =>
    rw [Lib.run_countAt w a l.length cap l rfl (fun i hi => by
      obtain ⟨b, off, e, _, hcc⟩ := h3 (by omega)
      cases e
      rw [addr_add, hcc i hi]
      simp [List.getD_eq_getElem?_getD, hi]) 10]
    show Result.ok (Next.value (.int .i64 (Lib.countByte (Lib.bytesOf l) 10))) w = _
    rw [hc]
set_option maxRecDepth 100000 in
theorem count_any (v : Value) (l : List Int) (b2 : Nat) (w : World) (hv : RN .u8 w v l) (hb : Bytes l) (c : Nat) (hc : (feN 0 l).length = c) (h2 : w.cell? ⟨b2, 0, none⟩ = some (.int .u8 10)) :
    Calls Tryz.prog 83 #[v, .slice (some ⟨b2, 0, none⟩) 1 1] w fun e w' => e = .returned (.int .i64 (c : Int)) ∧ w = w' := by
  have hr := run_count v l w hv hb c hc
  clear hv hb hc
  go_enter Tryz.func83, Tryz.ntmps83
  go_wp2_with fail
  go_ret
  exact ⟨rfl, rfl⟩
set_option maxRecDepth 100000 in
/-- how many line feeds are in a slice -/
theorem countFeeds_any (v : Value) (l : List Int) (w : World) (hv : RN .u8 w v l) (hb : Bytes l) (c : Nat) (hc : (feN 0 l).length = c) :
    Calls Tryz.prog 75 #[v] w fun e w' => e = .returned (.int .i64 (c : Int)) ∧ AnyLater w w' := by
  have HC := Lib.hid (fun (w' : World) (b2 : Nat) (a : AnyLater w w') (h : w'.cell? ⟨b2, 0, none⟩ = some (.int .u8 10)) => count_any v l b2 w' (hv.later a) hb c hc h)
  clear hv hb hc
  go_enter Tryz.func75, Tryz.ntmps75
  go_wp2_with fail
  refine (HC.out _ _ (by repeat' (first | with_reducible assumption | with_reducible exact AnyLater.refl _ | with_reducible apply AnyLater.setCell | with_reducible apply AnyLater.later | with_reducible apply AnyLater.drewN | with_reducible apply AnyLater.drew | with_reducible apply AnyLater.alloc | ((try simp only [World.size_alloc, World.size_setCell, World.size_drew]); (try dsimp only); omega))) ?_).mono ?_
  · rw [own_row (heap_new rfl)]; rfl
  rintro e w2 ⟨rfl, rfl⟩
  go_wp2_with fail
  go_ret
  exact ⟨rfl, by repeat' (first | with_reducible assumption | with_reducible exact AnyLater.refl _ | with_reducible apply AnyLater.setCell | with_reducible apply AnyLater.later | with_reducible apply AnyLater.drewN | with_reducible apply AnyLater.drew | with_reducible apply AnyLater.alloc | ((try simp only [World.size_alloc, World.size_setCell, World.size_drew]); (try dsimp only); omega))⟩

/-! ### copied -/
set_option maxRecDepth 100000 in
theorem bclone_any (v : Value) (l : List Int) (w : World) (hv : RN .u8 w v l) (h0 : 0 < l.length) (hl : l.length ≤ 90000) :
    Calls Tryz.prog 74 #[v] w fun e w' => ∃ u, e = .returned u ∧ AnyLater w w' ∧ ON .u8 5 w' w.heap.size u l := by
  obtain ⟨u, w2, k1, k2, k3⟩ := copy8 hv hl
  obtain ⟨A, cap, rfl, h2, h3⟩ := hv
  obtain ⟨b, off, rfl, -⟩ := h3 h0
  have hq := fun (w : World) (n : Nat) => Lib.run_eql_slice_nil (P := Tryz.prog) w 22 5 (some ⟨b, off, none⟩) n cap 0 0 Tryz.underlying22
  have HK := Lib.hid (And.intro k2 k3)
  have K1 := Lib.hid k1
  clear k1 k2 k3 h3
  generalize l.length = n at *
  go_enter Tryz.func74, Tryz.ntmps74
  go_wp2_with (at_builtin; refine Lib.wpList_append_run _ rfl _ _ _ _ rfl _ _ rfl rfl _ _ K1.out ?_)
  go_ret
  exact ⟨_, rfl, HK.out.1, HK.out.2⟩

/-! ### a piece made of bytes -/
theorem info_i32 : (Tryz.prog.info? 21).map (fun i => (i.zero, i.size, i.bytes)) = some (some (.int .i32 0), 1, 4) := by kernel_rfl
/-- append(v, x), v a row of places of the call's own; what else stands stays -/
theorem appF {w : World} {B : Nat} {v : Value} {l : List Int} (x : Int) (ho : ON .i32 21 w B v l) (hB : B ≤ w.heap.size) (hl : l.length ≤ 90000) :
    ∃ u w2, (Builtin.append_ #[92, 92] 92 #[v, .slice (some ⟨w.heap.size, 0, none⟩) 1 1]).run Tryz.prog (w.alloc (.cells #[.int .i32 x] 21)) = .ok u w2 ∧ ON .i32 21 w2 B u (l ++ [x]) ∧ (∀ W, W.heap.size ≤ B → AnyLater W w → AnyLater W w2) ∧ (∀ (k : Nat) (o : Obj), w.heap[k]? = some o → v.ownBlock ≠ some k → w2.heap[k]? = some o) := by
  have a1 : AnyLater w (w.alloc (.cells #[.int .i32 x] 21)) := (AnyLater.refl w).alloc _
  have hm : RN .i32 (w.alloc (.cells #[.int .i32 x] 21)) (.slice (some ⟨w.heap.size, 0, none⟩) 1 1) [x] := (ON.one (B := 0) (Nat.zero_le _) (heap_new rfl)).rn
  have ho2 := ho.later a1
  obtain ⟨u, w2, k1, k2, k3⟩ := appN (s := 92) Tryz.underlying92 info_i32 (by decide) ho2 hm (Nat.le_trans hB a1.below.size) (by simp; omega)
  exact ⟨u, w2, k1, k2, fun W h1 h2 => ON.grown ho2 h1 (h2.trans a1) k3, fun k o hk hne => grown_block k3 (any_own a1 hk) hne⟩
theorem feN_snoc (l : List Int) (i : Nat) (h : i < l.length) : feN 0 (l.take (i + 1)) = feN 0 (l.take i) ++ (if l[i] = 10 then [(i : Int)] else []) := by
  have hl : (l.take i).length = i := by rw [List.length_take]; omega
  rw [List.take_succ_eq_append_getElem h, feN_append, hl]
  congr 1
  simp [feN]
theorem cut_whole (l : List Int) : Pc.cut ⟨l, 0⟩ 0 l.length = ⟨l, 0⟩ := by
  unfold Pc.cut
  simp
set_option maxRecDepth 100000 in
set_option maxHeartbeats 3200000 in
theorem pieceOf_any (v : Value) (l : List Int) (w : World) (hv : RN .u8 w v l) (hb : Bytes l) (h0 : 0 < l.length) (hl : l.length ≤ 80000) :
    Calls Tryz.prog 59 #[v] w (Ans (isPc ⟨l, 0⟩) w) := by
  obtain ⟨C, hC⟩ : ∃ c, (feN 0 l).length = c := ⟨_, rfl⟩
  have hC2 : C ≤ 80000 := by have := feN_le l 0; omega
  have fp : Pc.Fair ⟨l, 0⟩ := ⟨h0, Int.le_refl _, by simp only; omega, hb⟩
  have hv0 := hv
  obtain ⟨A, cap, rfl, h2, h3⟩ := hv
  obtain ⟨b, off, rfl, hbb, hcc⟩ := h3 h0
  obtain ⟨n, hn⟩ : ∃ n, l.length = n := ⟨_, rfl⟩
  have HCl : Hid (∀ w', AnyLater w w' → Calls Tryz.prog 74 #[.slice (some ⟨b, off, none⟩) n cap] w' fun e w'' => ∃ A2 cap2, e = .returned (.slice A2 n cap2) ∧ AnyLater w' w'' ∧ ON .u8 5 w'' w'.heap.size (.slice A2 n cap2) l) := Lib.hid (fun w' a => by
    subst hn
    refine (bclone_any _ l w' (hv0.later a) h0 (by omega)).mono ?_
    rintro e w'' ⟨u, rfl, h1, h2⟩
    obtain ⟨A2, cap2, rfl, -⟩ := h2.form
    exact ⟨A2, cap2, rfl, h1, h2⟩)
  have HCo : Hid (∀ w', AnyLater w w' → Calls Tryz.prog 75 #[.slice (some ⟨b, off, none⟩) n cap] w' fun e w'' => e = .returned (.int .i64 (C : Int)) ∧ AnyLater w' w'') := Lib.hid (fun w' a => by
    subst hn
    exact countFeeds_any _ l w' (hv0.later a) hb C hC)
  have HCut : Hid (∀ (w' : World) (bv fv : Value), RT .u8 5 w' bv l → RT .i32 21 w' fv (feN 0 l) → Calls Tryz.prog 70 #[.agg #[bv, fv, .int .i64 0], .int .i64 0, .int .i64 (n : Int)] w' (Ans (isPc ⟨l, 0⟩) w')) := Lib.hid (fun w' bv fv h1 h2 => by
    subst hn
    have := cut_any ⟨l, 0⟩ bv fv w' 0 (l.length : Int) 0 l.length rfl rfl (Nat.zero_le _) (Nat.le_refl _) ⟨h1, h2⟩ fp
    rw [cut_whole] at this
    exact this)
  have hm0 := run_make_room (P := Tryz.prog) 92 21 (.int .i32 0) 4 Tryz.underlying92 info_i32 rfl .i64 .i64 C (by omega) (by omega)
  have HCC : Hid (∀ (i : Nat), i < n → w.cell? ⟨b, off + i, none⟩ = some (.int .u8 (l.getD i 0))) := Lib.hid (fun i hi => by subst hn; rw [hcc i hi]; simp [List.getD_eq_getElem?_getD, hi])
  have HSn : Hid (∀ i, i < n → feN 0 (l.take (i + 1)) = feN 0 (l.take i) ++ (if l.getD i 0 = 10 then [(i : Int)] else [])) := Lib.hid (fun i hi => by subst hn; rw [feN_snoc l i hi]; simp [List.getD_eq_getElem?_getD, hi])
  have HFl : Hid (∀ i, (feN 0 (l.take i)).length ≤ 80000) := Lib.hid (fun i => by have := feN_le (l.take i) 0; rw [List.length_take] at this; omega)
  have HEnd : Hid (l.take n = l) := Lib.hid (by subst hn; exact List.take_length)
  have hn80 : n ≤ 80000 := by omega
  rw [hn]
  clear hC h3 hcc hb fp hv0 h0 hl hn h2
  go_enter Tryz.func59, Tryz.ntmps59
  go_wp2_with fail
  first | refine settle_wp (fun wS => AnyLater w wS ∧ wS.heap[w.heap.size]? = some (.cells #[.slice none 0 0, .slice none 0 0, .int .i64 0] 94)) ?_ ?_ | refine settle_calls (fun wS => AnyLater w wS ∧ wS.heap[w.heap.size]? = some (.cells #[.slice none 0 0, .slice none 0 0, .int .i64 0] 94)) ?_ ?_
  · refine ⟨?_, ?_⟩
    · repeat' (first | with_reducible assumption | with_reducible exact AnyLater.refl _ | with_reducible apply AnyLater.setCell | with_reducible apply AnyLater.later | with_reducible apply AnyLater.drewN | with_reducible apply AnyLater.drew | with_reducible apply AnyLater.alloc | ((try simp only [World.size_alloc, World.size_setCell, World.size_drew]); (try dsimp only); omega))
    · ((repeat (first | with_reducible assumption | ((with_reducible apply heap_new); (try simp only [World.size_alloc, World.size_setCell, World.size_drew, World.heap_drewN]); done) | ((with_reducible apply heap_new); (try simp only [World.size_alloc, World.size_setCell, World.size_drew, World.heap_drewN]); omega) | (with_reducible refine heap_old (by (try simp only [World.size_alloc, World.size_setCell, World.size_drew, World.heap_drewN]); omega) ?_) | (with_reducible refine heap_drew ?_) | (with_reducible refine heap_far (by omega) ?_) | (with_reducible apply heap_at))); all_goals rfl)
  rintro w1 ⟨b_w1, s0_w1⟩
  have a_w1 := b_w1
  have r0_w1 := own_row s0_w1
  have f0_w1 := own_free s0_w1
  have l0_w1 := own_lt s0_w1
  have z_w1 := b_w1.below.size
  refine (HCl.out _ a_w1).mono ?_
  rintro e w2 ⟨A2, cap2, rfl, b_w2, o2⟩
  have z_w2 := b_w2.below.size
  have a_w2 := a_w1.trans b_w2
  have s0_w2 := any_own b_w2 s0_w1
  have r0_w2 := own_row s0_w2
  have f0_w2 := own_free s0_w2
  have l0_w2 := own_lt s0_w2
  (try clear r0_w1); (try clear f0_w1)
  have HO2 := Lib.hid o2
  clear o2
  go_wp2_with fail
  refine (HCo.out _ a_w2).mono ?_
  rintro e w3 ⟨rfl, b_w3⟩
  have z_w3 := b_w3.below.size
  have a_w3 := a_w2.trans b_w3
  have s0_w3 := any_own b_w3 s0_w2
  have r0_w3 := own_row s0_w3
  have f0_w3 := own_free s0_w3
  have l0_w3 := own_lt s0_w3
  (try clear r0_w2); (try clear f0_w2)
  go_wp2_with fail
  clear r0_w3
  go_loopg [14] n (fun kk iv wr => ∃ (i : Nat) (fv : Value), kk = n - i ∧ i ≤ n ∧ iv = .int .i64 (i : Int) ∧ AnyLater w3 wr ∧ wr.heap[w3.heap.size + 1]? = some (.cells #[.slice A2 n cap2, fv, .int .i64 0] 94) ∧ ON .i32 21 wr w3.heap.size fv (feN 0 (l.take i)) ∧ fv.ownBlock ≠ some (w3.heap.size + 1))
  case atStart =>
    refine ⟨0, _, by omega, by omega, rfl, by repeat' (first | with_reducible assumption | with_reducible exact AnyLater.refl _ | with_reducible apply AnyLater.setCell | with_reducible apply AnyLater.later | with_reducible apply AnyLater.drewN | with_reducible apply AnyLater.drew | with_reducible apply AnyLater.alloc | ((try simp only [World.size_alloc, World.size_setCell, World.size_drew]); (try dsimp only); omega)), heap_new (by simp), ⟨rfl, .inr ⟨w3.heap.size, C, madeCells #[.int .i32 0] C, rfl, Nat.le_refl _, heap_old (by simp) (heap_new rfl), Nat.zero_le _, by unfold maxLen; omega, by rw [size_madeCells, Nat.mul_one], rfl⟩⟩, by simp [Value.ownBlock]⟩
  case round =>
    obtain ⟨i, fv, hk, hi, rfl, a_wr, sP, ho, hne⟩ := hrel
    have HO := Lib.hid ho
    have HA := Lib.hid a_wr
    have HS := Lib.hid sP
    have rP := own_row sP
    have fP := own_free sP
    have zP := a_wr.below.size
    have lP := own_lt sP
    clear sP
    by_cases hlt : i < n
    · have d0 : (i : Int) < (n : Int) := by omega
      have c0 : wr.cell? ⟨b, off + i, none⟩ = some (.int .u8 (l.getD i 0)) := ((a_w3.trans a_wr).below.cell hbb).trans (HCC.out i hlt)
      have hsn := HSn.out i hlt
      generalize l.getD i 0 = c at *
      by_cases h10 : c = 10
      · subst h10
        rw [if_pos rfl] at hsn
        obtain ⟨u, wx, k1, k2, k3, k4⟩ := appF (i : Int) ho zP (by have := HFl.out i; omega)
        have K1 := Lib.hid k1
        have K2 : Hid (ON .i32 21 wx w3.heap.size u (feN 0 (l.take (i + 1)))) := Lib.hid (by rw [hsn]; exact k2)
        have K3 := Lib.hid (And.intro (k3 w3 (Nat.le_refl _) a_wr) (k4 _ _ HS.out hne))
        obtain ⟨A4, cap4, e4, -⟩ := ho.form
        subst e4
        obtain ⟨A5, cap5, e5, -⟩ := k2.form
        subst e5
        clear k1 k2 k3 k4 ho hsn a_wr hne
        generalize (feN 0 (l.take i)).length = m at *
        generalize (feN 0 (l.take i) ++ [(i : Int)]).length = m5 at *
        have rx := own_row K3.out.2
        have fx := own_free K3.out.2
        go_wp2_with (at_builtin; refine Lib.wpList_append_run _ rfl _ _ _ _ rfl _ _ rfl rfl _ _ K1.out ?_)
        go_roundg (n - (i + 1))
        case measure => omega
        case rel =>
          refine ⟨i + 1, _, rfl, hlt, by go_num, K3.out.1.setCell (Nat.le_succ _) _, heap_at K3.out.2 rfl, ?_, owns_ne K2.out K3.out.2 (by decide)⟩
          exact owns_set K3.out.2 (by decide) _ _ K2.out
      · have hc2 : (c == 10) = false := by simpa using h10
        rw [if_neg h10, List.append_nil] at hsn
        have K2 : Hid (ON .i32 21 wr w3.heap.size fv (feN 0 (l.take (i + 1))) ∧ fv.ownBlock ≠ some (w3.heap.size + 1)) := Lib.hid (by rw [hsn]; exact ⟨ho, hne⟩)
        clear ho hne h10 hsn a_wr
        go_wp2_with fail
        go_roundg (n - (i + 1))
        case measure => omega
        case rel => exact ⟨i + 1, fv, rfl, hlt, by go_num, HA.out, HS.out, K2.out.1, K2.out.2⟩
    · obtain rfl : i = n := by omega
      rw [HEnd.out] at HO
      have HR8 := Lib.hid ((HO2.out.later (b_w3.trans a_wr)).rt)
      have HR3 := Lib.hid (HO.out.rt)
      obtain ⟨A4, cap4, e4, -⟩ := ho.form
      subst e4
      have s0 := any_own a_wr s0_w3
      clear ho hne a_wr hlt hk
      go_wp2_with fail
      refine (HCut.out _ _ _ HR8.out HR3.out).mono ?_
      rintro e w4 ⟨_, rfl, b4, bv5, fv5, rfl, h5⟩
      have H5 := Lib.hid (And.intro h5 (a_w3.trans (HA.out.trans b4)))
      obtain ⟨A5, cap5, rfl, -⟩ := h5.1.form
      obtain ⟨A6, cap6, rfl, -⟩ := h5.2.form
      have s1 := any_own b4 s0
      have r1 := own_row s1
      have f1 := own_free s1
      clear h5 s0 s0_w3
      generalize (Pc.mk l 0).b.length = n5 at *
      generalize (Pc.mk l 0).fs.length = n6 at *
      have HI : Hid (∀ w', AnyLater w4 w' → isPc ⟨l, 0⟩ (.agg #[.slice A5 n5 cap5, .slice A6 n6 cap6, .int .i64 0]) w') := Lib.hid (fun w' b => ⟨_, _, rfl, H5.out.1.later b⟩)
      have e5 : pcV (.slice A5 n5 cap5) (.slice A6 n6 cap6) ⟨l, 0⟩ = .agg #[.slice A5 n5 cap5, .slice A6 n6 cap6, .int .i64 0] := rfl
      rw [e5]
      clear e5
      go_wp2_with fail
      have HA2 : AnyLater w (((w4.setCell ⟨w.heap.size, 0, none⟩ (.slice A5 n5 cap5)).setCell ⟨w.heap.size, 1, none⟩ (.slice A6 n6 cap6)).setCell ⟨w.heap.size, 2, none⟩ (.int .i64 0)) := by
        have a4 := H5.out.2
        repeat' (first | with_reducible assumption | with_reducible exact AnyLater.refl _ | with_reducible apply AnyLater.setCell | with_reducible apply AnyLater.later | with_reducible apply AnyLater.drewN | with_reducible apply AnyLater.drew | with_reducible apply AnyLater.alloc | ((try simp only [World.size_alloc, World.size_setCell, World.size_drew]); (try dsimp only); omega))
      refine bodyPost_ret (v := .agg #[.slice A5 n5 cap5, .slice A6 n6 cap6, .int .i64 0]) (by simp [results, Tryz.results59, go_sem, *]) rfl ?_
      exact ⟨_, rfl, HA2, _, _, rfl, RIsP.far3 s1 (by decide) (by decide) H5.out.1⟩
end Go.Proofs.YtiicaldnegcdiaaGreat
