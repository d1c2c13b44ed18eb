/- what the proof stands on: RopI RopK ScnA RopL -/
import Derived.Shelf.Bytes.SlCountOne
import Derived.Lib.JoinLaws
import Derived.Lib.AppendZeros
import Derived.Deep.LoopGhost
import Derived.Test.YtamhnffokoejjaaGreatDoorKnan
import Derived.Test.YtamhnffokoejjaaGreatDoorKnaj
import Derived.LoopN
import Derived.Test.YtamhnffokoejjaaGreatDoorChecked
import Derived.Test.YtamhnffokoejjaaGreatDoorKnaf
import Derived.Test.YtamhnffokoejjaaGreatDoorKnad
namespace Go.Proofs.YtamhnffokoejjaaGreatDoor
set_option linter.unusedSimpArgs false
set_option linter.unusedVariables false
set_option linter.unusedSectionVars false
open Go.RowKit
theorem u8_ten {x : Int} (h : 0 ≤ x ∧ x ≤ 255) : UInt8.ofNat x.toNat = 10 ↔ x = 10 := by
  constructor
  · intro e
    have := congrArg UInt8.toNat e
    simp only [UInt8.toNat_ofNat'] at this
    have h2 : (10 : UInt8).toNat = 10 := rfl
    rw [h2] at this
    omega
  · rintro rfl; rfl
theorem feN_count : ∀ (l : List Int) (i : Int), Bytes l → (feN i l).length = Lib.countByte (Lib.bytesOf l) 10
  | [], i, _ => rfl
  | x :: l, i, h => by
    have ih := feN_count l (i + 1) (fun c hc => h c (by simp [hc]))
    have hx := u8_ten (h x (by simp))
    unfold Lib.countByte Lib.bytesOf at *
    rw [List.map_cons, List.count_cons, feN]
    by_cases e : x = 10
    · rw [if_pos e, List.length_cons, ih, if_pos (by simpa using hx.2 e)]
    · rw [if_neg e, ih, if_neg (by simpa using fun q => e (hx.1 q))]; rfl
theorem run_count (v : Value) (l : List Int) (w : World) (hv : RN .u8 w v l) (hb : Bytes l) (c : Nat) (hc : (feN 0 l).length = c) : (callFunc 269 #[v, .int .u8 10]).run Tryz.prog w = .ok (.value (.int .i64 (c : Int))) w := by
  rw [run_callFunc_extern Tryz.func269 (by kernel_rfl) (by kernel_rfl) (by kernel_rfl) (e := Extern.BytealgCount.count) (by kernel_rfl)]
  obtain ⟨A, cap, rfl, h2, h3⟩ := hv
  rw [feN_count l 0 hb] at hc
  cases A with
  | none =>
    have h0 : l = [] := by
      cases l with
      | nil => rfl
      | cons x t => obtain ⟨b, off, e, _⟩ := h3 (by simp); cases e
    subst h0
    subst hc
    rw [Lib.run_countNil]
    rfl
  | some a =>
    rw [Lib.run_countAt w a l.length cap l rfl (fun i hi => by
      obtain ⟨b, off, e, _, hcc⟩ := h3 (by omega)
      cases e
      rw [addr_add, hcc i hi]
      simp [List.getD_eq_getElem?_getD, hi]) 10]
    show Result.ok (Next.value (.int .i64 (Lib.countByte (Lib.bytesOf l) 10))) w = _
    rw [hc]
set_option maxRecDepth 100000 in
theorem count_any (v : Value) (l : List Int) (b2 : Nat) (w : World) (hv : RN .u8 w v l) (hb : Bytes l) (c : Nat) (hc : (feN 0 l).length = c) (h2 : w.cell? ⟨b2, 0, none⟩ = some (.int .u8 10)) :
    Calls Tryz.prog 250 #[v, .slice (some ⟨b2, 0, none⟩) 1 1] w fun e w' => e = .returned (.int .i64 (c : Int)) ∧ w = w' := by
  have hr := run_count v l w hv hb c hc
  clear hv hb hc
  go_enter Tryz.func250, Tryz.ntmps250
  go_wp2_with fail
  go_ret
  exact ⟨rfl, rfl⟩
set_option maxRecDepth 100000 in
theorem countFeeds_any (v : Value) (l : List Int) (w : World) (hv : RN .u8 w v l) (hb : Bytes l) (c : Nat) (hc : (feN 0 l).length = c) :
    Calls Tryz.prog 217 #[v] w fun e w' => e = .returned (.int .i64 (c : Int)) ∧ AnyLater w w' := by
  have HC := Lib.hid (fun (w' : World) (b2 : Nat) (a : AnyLater w w') (h : w'.cell? ⟨b2, 0, none⟩ = some (.int .u8 10)) => count_any v l b2 w' (hv.later a) hb c hc h)
  clear hv hb hc
  go_enter Tryz.func217, Tryz.ntmps217
  go_wp2_with fail
  refine (HC.out _ _ (by repeat' (first | with_reducible assumption | with_reducible exact AnyLater.refl _ | with_reducible apply AnyLater.setCell | with_reducible apply AnyLater.later | with_reducible apply AnyLater.drewN | with_reducible apply AnyLater.drew | with_reducible apply AnyLater.alloc | ((try simp only [World.size_alloc, World.size_setCell, World.size_drew]); (try dsimp only); omega))) ?_).mono ?_
  · rw [own_row (heap_new rfl)]; rfl
  rintro e w2 ⟨rfl, rfl⟩
  go_wp2_with fail
  go_ret
  exact ⟨rfl, by repeat' (first | with_reducible assumption | with_reducible exact AnyLater.refl _ | with_reducible apply AnyLater.setCell | with_reducible apply AnyLater.later | with_reducible apply AnyLater.drewN | with_reducible apply AnyLater.drew | with_reducible apply AnyLater.alloc | ((try simp only [World.size_alloc, World.size_setCell, World.size_drew]); (try dsimp only); omega))⟩
set_option maxRecDepth 100000 in
theorem bclone_any (v : Value) (l : List Int) (w : World) (hv : RN .u8 w v l) (h0 : 0 < l.length) (hl : l.length ≤ 90000) :
    Calls Tryz.prog 216 #[v] w fun e w' => ∃ u, e = .returned u ∧ AnyLater w w' ∧ ON .u8 5 w' w.heap.size u l := by
  obtain ⟨u, w2, k1, k2, k3⟩ := copy8 hv hl
  obtain ⟨A, cap, rfl, h2, h3⟩ := hv
  obtain ⟨b, off, rfl, -⟩ := h3 h0
  have hq := fun (w : World) (n : Nat) => Lib.run_eql_slice_nil (P := Tryz.prog) w 22 5 (some ⟨b, off, none⟩) n cap 0 0 Tryz.underlying22
  have HK := Lib.hid (And.intro k2 k3)
  have K1 := Lib.hid k1
  clear k1 k2 k3 h3
  generalize l.length = n at *
  go_enter Tryz.func216, Tryz.ntmps216
  go_wp2_with (at_builtin; refine Lib.wpList_append_run _ rfl _ _ _ _ rfl _ _ rfl rfl _ _ K1.out ?_)
  go_ret
  exact ⟨_, rfl, HK.out.1, HK.out.2⟩
theorem info_i32 : (Tryz.prog.info? 21).map (fun i => (i.zero, i.size, i.bytes)) = some (some (.int .i32 0), 1, 4) := by kernel_rfl
theorem rappF {w : World} {B : Nat} {v : Value} {l : List Int} (x : Int) (ho : ON .i32 21 w B v l) (hB : B ≤ w.heap.size) (hl : l.length ≤ 90000) :
    ∃ u w2, (Builtin.append_ #[189, 189] 189 #[v, .slice (some ⟨w.heap.size, 0, none⟩) 1 1]).run Tryz.prog (w.alloc (.cells #[.int .i32 x] 21)) = .ok u w2 ∧ ON .i32 21 w2 B u (l ++ [x]) ∧ (∀ W, W.heap.size ≤ B → AnyLater W w → AnyLater W w2) ∧ (∀ (k : Nat) (o : Obj), w.heap[k]? = some o → v.ownBlock ≠ some k → w2.heap[k]? = some o) := by
  have a1 : AnyLater w (w.alloc (.cells #[.int .i32 x] 21)) := (AnyLater.refl w).alloc _
  have hm : RN .i32 (w.alloc (.cells #[.int .i32 x] 21)) (.slice (some ⟨w.heap.size, 0, none⟩) 1 1) [x] := (ON.one (B := 0) (Nat.zero_le _) (heap_new rfl)).rn
  have ho2 := ho.later a1
  obtain ⟨u, w2, k1, k2, k3⟩ := appN (s := 189) Tryz.underlying189 info_i32 (by decide) ho2 hm (Nat.le_trans hB a1.below.size) (by simp; omega)
  exact ⟨u, w2, k1, k2, fun W h1 h2 => ON.grown ho2 h1 (h2.trans a1) k3, fun k o hk hne => grown_block k3 (any_own a1 hk) hne⟩
theorem feN_snoc (l : List Int) (i : Nat) (h : i < l.length) : feN 0 (l.take (i + 1)) = feN 0 (l.take i) ++ (if l[i] = 10 then [(i : Int)] else []) := by
  have hl : (l.take i).length = i := by rw [List.length_take]; omega
  rw [List.take_succ_eq_append_getElem h, feN_append, hl]
  congr 1
  simp [feN]
theorem cut_whole (l : List Int) : Pc.cut ⟨l, 0⟩ 0 l.length = ⟨l, 0⟩ := by
  unfold Pc.cut
  simp
set_option maxRecDepth 100000 in
set_option maxHeartbeats 3200000 in
theorem pieceOf_any (v : Value) (l : List Int) (w : World) (hv : RN .u8 w v l) (hb : Bytes l) (h0 : 0 < l.length) (hl : l.length ≤ 80000) :
    Calls Tryz.prog 170 #[v] w (Ans (isPc ⟨l, 0⟩) w) := by
  obtain ⟨C, hC⟩ : ∃ c, (feN 0 l).length = c := ⟨_, rfl⟩
  have hC2 : C ≤ 80000 := by have := feN_le l 0; omega
  have fp : Pc.Fair ⟨l, 0⟩ := ⟨h0, Int.le_refl _, by simp only; omega, hb⟩
  have hv0 := hv
  obtain ⟨A, cap, rfl, h2, h3⟩ := hv
  obtain ⟨b, off, rfl, hbb, hcc⟩ := h3 h0
  obtain ⟨n, hn⟩ : ∃ n, l.length = n := ⟨_, rfl⟩
  have HCl : Hid (∀ w', AnyLater w w' → Calls Tryz.prog 216 #[.slice (some ⟨b, off, none⟩) n cap] w' fun e w'' => ∃ A2 cap2, e = .returned (.slice A2 n cap2) ∧ AnyLater w' w'' ∧ ON .u8 5 w'' w'.heap.size (.slice A2 n cap2) l) := Lib.hid (fun w' a => by
    subst hn
    refine (bclone_any _ l w' (hv0.later a) h0 (by omega)).mono ?_
    rintro e w'' ⟨u, rfl, h1, h2⟩
    obtain ⟨A2, cap2, rfl, -⟩ := h2.form
    exact ⟨A2, cap2, rfl, h1, h2⟩)
  have HCo : Hid (∀ w', AnyLater w w' → Calls Tryz.prog 217 #[.slice (some ⟨b, off, none⟩) n cap] w' fun e w'' => e = .returned (.int .i64 (C : Int)) ∧ AnyLater w' w'') := Lib.hid (fun w' a => by
    subst hn
    exact countFeeds_any _ l w' (hv0.later a) hb C hC)
  have HCut : Hid (∀ (w' : World) (bv fv : Value), RT .u8 5 w' bv l → RT .i32 21 w' fv (feN 0 l) → Calls Tryz.prog 211 #[.agg #[bv, fv, .int .i64 0], .int .i64 0, .int .i64 (n : Int)] w' (Ans (isPc ⟨l, 0⟩) w')) := Lib.hid (fun w' bv fv h1 h2 => by
    subst hn
    have := cut_any ⟨l, 0⟩ bv fv w' 0 (l.length : Int) 0 l.length rfl rfl (Nat.zero_le _) (Nat.le_refl _) ⟨h1, h2⟩ fp
    rw [cut_whole] at this
    exact this)
  have hm0 := run_make_room (P := Tryz.prog) 189 21 (.int .i32 0) 4 Tryz.underlying189 info_i32 rfl .i64 .i64 C (by omega) (by omega)
  have HCC : Hid (∀ (i : Nat), i < n → w.cell? ⟨b, off + i, none⟩ = some (.int .u8 (l.getD i 0))) := Lib.hid (fun i hi => by subst hn; rw [hcc i hi]; simp [List.getD_eq_getElem?_getD, hi])
  have HSn : Hid (∀ i, i < n → feN 0 (l.take (i + 1)) = feN 0 (l.take i) ++ (if l.getD i 0 = 10 then [(i : Int)] else [])) := Lib.hid (fun i hi => by subst hn; rw [feN_snoc l i hi]; simp [List.getD_eq_getElem?_getD, hi])
  have HFl : Hid (∀ i, (feN 0 (l.take i)).length ≤ 80000) := Lib.hid (fun i => by have := feN_le (l.take i) 0; rw [List.length_take] at this; omega)
  have HEnd : Hid (l.take n = l) := Lib.hid (by subst hn; exact List.take_length)
  have hn80 : n ≤ 80000 := by omega
  rw [hn]
  clear hC h3 hcc hb fp hv0 h0 hl hn h2
  go_enter Tryz.func170, Tryz.ntmps170
  go_wp2_with fail
  first | refine settle_wp (fun wS => AnyLater w wS ∧ wS.heap[w.heap.size]? = some (.cells #[.slice none 0 0, .slice none 0 0, .int .i64 0] 191)) ?_ ?_ | refine settle_calls (fun wS => AnyLater w wS ∧ wS.heap[w.heap.size]? = some (.cells #[.slice none 0 0, .slice none 0 0, .int .i64 0] 191)) ?_ ?_
  · refine ⟨?_, ?_⟩
    · repeat' (first | with_reducible assumption | with_reducible exact AnyLater.refl _ | with_reducible apply AnyLater.setCell | with_reducible apply AnyLater.later | with_reducible apply AnyLater.drewN | with_reducible apply AnyLater.drew | with_reducible apply AnyLater.alloc | ((try simp only [World.size_alloc, World.size_setCell, World.size_drew]); (try dsimp only); omega))
    · ((repeat (first | with_reducible assumption | ((with_reducible apply heap_new); (try simp only [World.size_alloc, World.size_setCell, World.size_drew, World.heap_drewN]); done) | ((with_reducible apply heap_new); (try simp only [World.size_alloc, World.size_setCell, World.size_drew, World.heap_drewN]); omega) | (with_reducible refine heap_old (by (try simp only [World.size_alloc, World.size_setCell, World.size_drew, World.heap_drewN]); omega) ?_) | (with_reducible refine heap_drew ?_) | (with_reducible refine heap_far (by omega) ?_) | (with_reducible apply heap_at))); all_goals rfl)
  rintro w1 ⟨b_w1, s0_w1⟩
  have a_w1 := b_w1
  have r0_w1 := own_row s0_w1
  have f0_w1 := own_free s0_w1
  have l0_w1 := own_lt s0_w1
  have z_w1 := b_w1.below.size
  refine (HCl.out _ a_w1).mono ?_
  rintro e w2 ⟨A2, cap2, rfl, b_w2, o2⟩
  have z_w2 := b_w2.below.size
  have a_w2 := a_w1.trans b_w2
  have s0_w2 := any_own b_w2 s0_w1
  have r0_w2 := own_row s0_w2
  have f0_w2 := own_free s0_w2
  have l0_w2 := own_lt s0_w2
  (try clear r0_w1); (try clear f0_w1)
  have HO2 := Lib.hid o2
  clear o2
  go_wp2_with fail
  refine (HCo.out _ a_w2).mono ?_
  rintro e w3 ⟨rfl, b_w3⟩
  have z_w3 := b_w3.below.size
  have a_w3 := a_w2.trans b_w3
  have s0_w3 := any_own b_w3 s0_w2
  have r0_w3 := own_row s0_w3
  have f0_w3 := own_free s0_w3
  have l0_w3 := own_lt s0_w3
  (try clear r0_w2); (try clear f0_w2)
  go_wp2_with fail
  clear r0_w3
  go_loopg [14] n (fun kk iv wr => ∃ (i : Nat) (fv : Value), kk = n - i ∧ i ≤ n ∧ iv = .int .i64 (i : Int) ∧ AnyLater w3 wr ∧ wr.heap[w3.heap.size + 1]? = some (.cells #[.slice A2 n cap2, fv, .int .i64 0] 191) ∧ ON .i32 21 wr w3.heap.size fv (feN 0 (l.take i)) ∧ fv.ownBlock ≠ some (w3.heap.size + 1))
  case atStart =>
    refine ⟨0, _, by omega, by omega, rfl, by repeat' (first | with_reducible assumption | with_reducible exact AnyLater.refl _ | with_reducible apply AnyLater.setCell | with_reducible apply AnyLater.later | with_reducible apply AnyLater.drewN | with_reducible apply AnyLater.drew | with_reducible apply AnyLater.alloc | ((try simp only [World.size_alloc, World.size_setCell, World.size_drew]); (try dsimp only); omega)), heap_new (by simp), ⟨rfl, .inr ⟨w3.heap.size, C, madeCells #[.int .i32 0] C, rfl, Nat.le_refl _, heap_old (by simp) (heap_new rfl), Nat.zero_le _, by unfold maxLen; omega, by rw [size_madeCells, Nat.mul_one], rfl⟩⟩, by simp [Value.ownBlock]⟩
  case round =>
    obtain ⟨i, fv, hk, hi, rfl, a_wr, sP, ho, hne⟩ := hrel
    have HO := Lib.hid ho
    have HA := Lib.hid a_wr
    have HS := Lib.hid sP
    have rP := own_row sP
    have fP := own_free sP
    have zP := a_wr.below.size
    have lP := own_lt sP
    clear sP
    by_cases hlt : i < n
    · have d0 : (i : Int) < (n : Int) := by omega
      have c0 : wr.cell? ⟨b, off + i, none⟩ = some (.int .u8 (l.getD i 0)) := ((a_w3.trans a_wr).below.cell hbb).trans (HCC.out i hlt)
      have hsn := HSn.out i hlt
      generalize l.getD i 0 = c at *
      by_cases h10 : c = 10
      · subst h10
        rw [if_pos rfl] at hsn
        obtain ⟨u, wx, k1, k2, k3, k4⟩ := rappF (i : Int) ho zP (by have := HFl.out i; omega)
        have K1 := Lib.hid k1
        have K2 : Hid (ON .i32 21 wx w3.heap.size u (feN 0 (l.take (i + 1)))) := Lib.hid (by rw [hsn]; exact k2)
        have K3 := Lib.hid (And.intro (k3 w3 (Nat.le_refl _) a_wr) (k4 _ _ HS.out hne))
        obtain ⟨A4, cap4, e4, -⟩ := ho.form
        subst e4
        obtain ⟨A5, cap5, e5, -⟩ := k2.form
        subst e5
        clear k1 k2 k3 k4 ho hsn a_wr hne
        generalize (feN 0 (l.take i)).length = m at *
        generalize (feN 0 (l.take i) ++ [(i : Int)]).length = m5 at *
        have rx := own_row K3.out.2
        have fx := own_free K3.out.2
        go_wp2_with (at_builtin; refine Lib.wpList_append_run _ rfl _ _ _ _ rfl _ _ rfl rfl _ _ K1.out ?_)
        go_roundg (n - (i + 1))
        case measure => omega
        case rel =>
          refine ⟨i + 1, _, rfl, hlt, by go_num, K3.out.1.setCell (Nat.le_succ _) _, heap_at K3.out.2 rfl, ?_, owns_ne K2.out K3.out.2 (by decide)⟩
          exact owns_set K3.out.2 (by decide) _ _ K2.out
      · have hc2 : (c == 10) = false := by simpa using h10
        rw [if_neg h10, List.append_nil] at hsn
        have K2 : Hid (ON .i32 21 wr w3.heap.size fv (feN 0 (l.take (i + 1))) ∧ fv.ownBlock ≠ some (w3.heap.size + 1)) := Lib.hid (by rw [hsn]; exact ⟨ho, hne⟩)
        clear ho hne h10 hsn a_wr
        go_wp2_with fail
        go_roundg (n - (i + 1))
        case measure => omega
        case rel => exact ⟨i + 1, fv, rfl, hlt, by go_num, HA.out, HS.out, K2.out.1, K2.out.2⟩
    · obtain rfl : i = n := by omega
      rw [HEnd.out] at HO
      have HR8 := Lib.hid ((HO2.out.later (b_w3.trans a_wr)).rt)
      have HR3 := Lib.hid (HO.out.rt)
      obtain ⟨A4, cap4, e4, -⟩ := ho.form
      subst e4
      have s0 := any_own a_wr s0_w3
      clear ho hne a_wr hlt hk
      go_wp2_with fail
      refine (HCut.out _ _ _ HR8.out HR3.out).mono ?_
      rintro e w4 ⟨_, rfl, b4, bv5, fv5, rfl, h5⟩
      have H5 := Lib.hid (And.intro h5 (a_w3.trans (HA.out.trans b4)))
      obtain ⟨A5, cap5, rfl, -⟩ := h5.1.form
      obtain ⟨A6, cap6, rfl, -⟩ := h5.2.form
      have s1 := any_own b4 s0
      have r1 := own_row s1
      have f1 := own_free s1
      clear h5 s0 s0_w3
      generalize (Pc.mk l 0).b.length = n5 at *
      generalize (Pc.mk l 0).fs.length = n6 at *
      have HI : Hid (∀ w', AnyLater w4 w' → isPc ⟨l, 0⟩ (.agg #[.slice A5 n5 cap5, .slice A6 n6 cap6, .int .i64 0]) w') := Lib.hid (fun w' b => ⟨_, _, rfl, H5.out.1.later b⟩)
      have e5 : pcV (.slice A5 n5 cap5) (.slice A6 n6 cap6) ⟨l, 0⟩ = .agg #[.slice A5 n5 cap5, .slice A6 n6 cap6, .int .i64 0] := rfl
      rw [e5]
      clear e5
      go_wp2_with fail
      have HA2 : AnyLater w (((w4.setCell ⟨w.heap.size, 0, none⟩ (.slice A5 n5 cap5)).setCell ⟨w.heap.size, 1, none⟩ (.slice A6 n6 cap6)).setCell ⟨w.heap.size, 2, none⟩ (.int .i64 0)) := by
        have a4 := H5.out.2
        repeat' (first | with_reducible assumption | with_reducible exact AnyLater.refl _ | with_reducible apply AnyLater.setCell | with_reducible apply AnyLater.later | with_reducible apply AnyLater.drewN | with_reducible apply AnyLater.drew | with_reducible apply AnyLater.alloc | ((try simp only [World.size_alloc, World.size_setCell, World.size_drew]); (try dsimp only); omega))
      refine bodyPost_ret (v := .agg #[.slice A5 n5 cap5, .slice A6 n6 cap6, .int .i64 0]) (by simp [results, Tryz.results170, go_sem, *]) rfl ?_
      exact ⟨_, rfl, HA2, _, _, rfl, RIsP.far3 s1 (by decide) (by decide) H5.out.1⟩
end Go.Proofs.YtamhnffokoejjaaGreatDoor
namespace Go.Proofs.YtamhnffokoejjaaGreatDoor
set_option linter.unusedSimpArgs false
set_option linter.unusedVariables false
set_option linter.unusedSectionVars false
open Go.RowKit
theorem ret_z {a b : Int} (h : a = b) : Ending.returned (.int .i64 a) = .returned (.int .i64 b) := by rw [h]
def midZ (n low high : Int) : Int := if n < low ∨ high < low then low else if high < n then high else n
theorem rclamp_any (n low high : Int) (w : World) (c : Int) (hc : midZ n low high = c) :
    Calls Tryz.prog 89 #[.int .i64 n, .int .i64 low, .int .i64 high] w fun e w' => e = .returned (.int .i64 c) ∧ w = w' := by
  subst hc
  by_cases h1 : n < low
  · have Q : Hid (low = midZ n low high) := Lib.hid (by unfold midZ; rw [if_pos (.inl h1)])
    go_enter Tryz.func89, Tryz.ntmps89
    go_wp2
    go_ret
    exact ⟨ret_z Q.out, rfl⟩
  · by_cases h2 : high < low
    · have Q : Hid (low = midZ n low high) := Lib.hid (by unfold midZ; rw [if_pos (.inr h2)])
      go_enter Tryz.func89, Tryz.ntmps89
      go_wp2
      go_ret
      exact ⟨ret_z Q.out, rfl⟩
    · by_cases h3 : high < n
      · have Q : Hid (high = midZ n low high) := Lib.hid (by unfold midZ; rw [if_neg (by omega), if_pos h3])
        go_enter Tryz.func89, Tryz.ntmps89
        go_wp2
        go_ret
        exact ⟨ret_z (by rw [← Q.out]; omega), rfl⟩
      · have Q : Hid (n = midZ n low high) := Lib.hid (by unfold midZ; rw [if_neg (by omega), if_neg h3])
        go_enter Tryz.func89, Tryz.ntmps89
        go_wp2
        go_ret
        exact ⟨ret_z (by rw [← Q.out]; omega), rfl⟩
def cutZ (l : List Int) (f t : Int) : List Int := (l.take t.toNat).drop f.toNat
theorem cutZ_append (a b : List Int) (f t : Int) : cutZ (a ++ b) f t = cutZ a f t ++ cutZ b (f - a.length) (t - a.length) := by
  unfold cutZ
  rw [List.take_append, List.drop_append, List.length_take]
  congr 1
  rcases Nat.le_total a.length t.toNat with h | h
  · rw [Nat.min_eq_right h]
    congr 1
    · omega
    · congr 1; omega
  · have e1 : t.toNat - a.length = 0 := by omega
    have e2 : (t - (a.length : Int)).toNat = 0 := by omega
    rw [e1, e2]; simp
theorem cutZ_none {l : List Int} {f t : Int} (h : t ≤ f ∨ (l.length : Int) ≤ f ∨ t ≤ 0) : cutZ l f t = [] := by
  unfold cutZ
  apply List.drop_of_length_le
  rw [List.length_take]
  omega
theorem cutZ_length_le (l : List Int) (f t : Int) : (cutZ l f t).length ≤ l.length := by
  unfold cutZ
  rw [List.length_drop, List.length_take]; omega
theorem cutZ_some {l : List Int} {f t : Int} {i j : Nat} (hi : (i : Int) = midZ f 0 l.length) (hj : (j : Int) = midZ t 0 l.length) (hij : i < j) : cutZ l f t = (l.drop i).take (j - i) := by
  unfold cutZ
  unfold midZ at hi hj
  have e1 : l.take t.toNat = l.take j := by
    split at hj
    · omega
    · split at hj
      · rw [List.take_of_length_le (by omega), List.take_of_length_le (by omega)]
      · congr 1; omega
  have e2 : f.toNat = i := by
    split at hi
    · omega
    · split at hi
      · split at hj <;> (try split at hj) <;> omega
      · omega
  rw [e1, e2, List.drop_take]
set_option maxRecDepth 100000 in
theorem RN.mid {w : World} {v : Value} {l : List Int} (h : RN .u8 w v l) (lo hi : Nat) (h1 : lo < hi) (h2 : hi ≤ l.length) : ∃ A cap, RN .u8 w (.slice A (hi - lo) cap) ((l.drop lo).take (hi - lo)) ∧
    ∀ w', (Instr.sliceAt 22 v (some (.int .i64 (lo : Int))) (some (.int .i64 (hi : Int))) none).run Tryz.prog w' = .ok (.slice A (hi - lo) cap) w' := by
  obtain ⟨A, cap, rfl, h3, h4⟩ := h
  obtain ⟨b, off, rfl, hb, hc⟩ := h4 (by omega)
  have hl : ((l.drop lo).take (hi - lo)).length = hi - lo := by rw [List.length_take, List.length_drop]; omega
  refine ⟨some ⟨b, off + lo, none⟩, cap - lo, ⟨_, _, by rw [hl], by rw [hl]; omega, fun _ => ⟨b, off + lo, rfl, hb, fun j hj => ?_⟩⟩, fun w' => ?_⟩
  · rw [hl] at hj
    rw [Nat.add_assoc, hc (lo + j) (by omega), List.getElem_take, List.getElem_drop]
  · rw [run_sliceAt_slice w' _ _ _ _ _ Tryz.underlying22, run_slice_lh w' _ (some ⟨b, off, none⟩) l.length cap Tryz.underlying22 .i64 .i64 (lo : Int) (hi : Int) (by omega) (by omega) (by omega)]
    have hz : ∀ w, (Go.sizeOf (Tryz.prog.elem 22)).run Tryz.prog w = .ok 1 w := fun w => by simp [go_sem]
    rw [hz]
    simp only [Result.andThen, sliced, Int.toNat_natCast, Nat.mul_one]
    rw [if_neg (by omega), Option.map_some, addr_add]
def OutS (W : World) (X : Nat) (w : World) (L : List Int) : Prop := AnyLater W w ∧ ∃ ov, w.heap[X]? = some (.cells #[ov] 22) ∧ ON .u8 5 w W.heap.size ov L
theorem app8 {w : World} {B : Nat} {v u : Value} {l m : List Int} (ho : ON .u8 5 w B v l) (hm : RN .u8 w u m) (hB : B ≤ w.heap.size) (hlen : l.length + m.length ≤ 100000) :
    ∃ v' w', (Builtin.append_ #[22, 22] 22 #[v, u]).run Tryz.prog w = .ok v' w' ∧ ON .u8 5 w' B v' (l ++ m) ∧ w.grownBy w' v.ownBlock := appN (s := 22) Tryz.underlying22 info_u8 (by decide) ho hm hB hlen
set_option maxRecDepth 100000 in
theorem put_any (W : World) (X : Nat) (u : Value) (L M : List Int) (w : World) (hX : W.heap.size ≤ X) (h : OutS W X w L) (hm : RN .u8 w u M) (hl : L.length + M.length ≤ 100000) :
    Calls Tryz.prog 104 #[u, .pointer (some ⟨X, 0, none⟩)] w fun e w' => e = .returned (.tuple #[]) ∧ OutS W X w' (L ++ M) := by
  obtain ⟨hW, ov, hx, ho⟩ := h
  obtain ⟨v', w2, k1, k2, k3⟩ := app8 ho hm hW.below.size hl
  have hne := owns_ne ho hx (by decide)
  have hx2 := grown_block k3 hx hne
  have HK : Hid (AnyLater W w2 ∧ w2.heap[X]? = some (.cells #[ov] 22) ∧ ON .u8 5 w2 W.heap.size v' (L ++ M)) := Lib.hid ⟨ON.grown ho (Nat.le_refl _) hW k3, hx2, k2⟩
  have K1 := Lib.hid k1
  obtain ⟨A, cap, rfl, -⟩ := ho.form
  obtain ⟨A2, cap2, rfl, -⟩ := hm.form
  obtain ⟨A3, cap3, rfl, -⟩ := k2.form
  have r1 := own_row hx
  have r2 := own_row HK.out.2.1
  have f2 := own_free HK.out.2.1
  clear hW hx ho k1 k2 k3 hne hx2 hm
  generalize L.length = n1 at *
  generalize M.length = n2 at *
  generalize (L ++ M).length = n3 at *
  go_enter Tryz.func104, Tryz.ntmps104
  go_wp2_with (at_builtin; refine Lib.wpList_append_run _ rfl _ _ _ _ rfl _ _ rfl rfl _ _ K1.out ?_)
  go_end0
  refine ⟨rfl, ?_⟩
  exact ⟨HK.out.1.setCell hX _, _, heap_at HK.out.2.1 rfl, owns_set HK.out.2.1 (by decide) _ _ HK.out.2.2⟩
theorem OutS.later {W w w' : World} {X : Nat} {L : List Int} (h : OutS W X w L) (ha : AnyLater w w') : OutS W X w' L := by
  obtain ⟨hW, ov, hx, ho⟩ := h
  exact ⟨hW.trans ha, ov, any_own ha hx, ho.later ha⟩
set_option maxRecDepth 100000 in
theorem each_nil (W : World) (X : Nat) (L : List Int) (f t : Int) (w : World) (h : OutS W X w L) :
    Calls Tryz.prog 103 #[.pointer none, .int .i64 f, .int .i64 t, .func (.func 104) #[] #[.pointer (some ⟨X, 0, none⟩)]] w fun e w' => e = .returned (.tuple #[]) ∧ OutS W X w' L := by
  have H := Lib.hid h
  clear h
  go_enter Tryz.func103, Tryz.ntmps103
  go_wp2_with fail
  refine bodyPost_ret (v := .tuple #[]) (by simp [results, Tryz.results103, go_sem]) rfl ⟨rfl, ?_⟩
  exact H.out
set_option maxRecDepth 100000 in
theorem each_off (W : World) (X : Nat) (L : List Int) (l r : Tr) (p : Pc) (v : Value) (f t : Int) (w : World) (hv : IsT W (.node l p r) v) (h : OutS W X w L) (hc : ((Tr.node l p r).len : Int) ≤ f ∨ t ≤ 0) :
    Calls Tryz.prog 103 #[v, .int .i64 f, .int .i64 t, .func (.func 104) #[] #[.pointer (some ⟨X, 0, none⟩)]] w fun e w' => e = .returned (.tuple #[]) ∧ OutS W X w' L := by
  have H := Lib.hid h
  obtain ⟨k, lv, rv, bv, fv, rfl, hk, -⟩ := IsT.later h.1 hv
  have r0 := own_row hk
  unfold nodeC at r0
  clear h hk hv
  generalize (Tr.node l p r).len = n at *
  by_cases h1 : (n : Int) ≤ f
  · clear hc
    go_enter Tryz.func103, Tryz.ntmps103
    go_wp2_with fail
    refine bodyPost_ret (v := .tuple #[]) (by simp [results, Tryz.results103, go_sem]) rfl ⟨rfl, ?_⟩
    exact H.out
  · have h2 : t ≤ 0 := by omega
    have d1 : decide ((n : Int) ≤ f) = false := decide_eq_false h1
    clear hc h1
    go_enter Tryz.func103, Tryz.ntmps103
    go_wp2_with fail
    refine bodyPost_ret (v := .tuple #[]) (by simp [results, Tryz.results103, go_sem]) rfl ⟨rfl, ?_⟩
    exact H.out
def EachDo (W : World) (X : Nat) (t : Tr) : Prop := ∀ (v : Value) (x y : Int) (w : World) (L : List Int), IsT W t v → OutS W X w L → L.length + t.len ≤ 90000 → (t.len : Int) ≤ x + 90000 → x ≤ 90000 → (t.len : Int) ≤ y + 90000 → y ≤ 90000 →
    Calls Tryz.prog 103 #[v, .int .i64 x, .int .i64 y, .func (.func 104) #[] #[.pointer (some ⟨X, 0, none⟩)]] w fun e w' => e = .returned (.tuple #[]) ∧ OutS W X w' (L ++ cutZ t.bs x y)
theorem midZ_cast (x : Int) (s n : Nat) : ∃ i : Nat, midZ x s ((s + n : Nat) : Int) = ((s + i : Nat) : Int) ∧ i ≤ n ∧ (i : Int) = midZ (x - s) 0 n := by
  refine ⟨(midZ (x - s) 0 n).toNat, ?_, ?_, ?_⟩
  all_goals
    unfold midZ
    split
    · (try split) <;> omega
    · (try split) <;> (try split) <;> omega
set_option maxRecDepth 100000 in
set_option maxHeartbeats 3200000 in
theorem each_on (W : World) (X : Nat) (hX : W.heap.size ≤ X) (l r : Tr) (p : Pc) (ihl : EachDo W X l) (ihr : EachDo W X r) (v : Value) (x y : Int) (w : World) (L : List Int) (hv : IsT W (.node l p r) v) (h : OutS W X w L)
    (hl : L.length + (Tr.node l p r).len ≤ 90000) (h1 : ((Tr.node l p r).len : Int) ≤ x + 90000) (h2 : x ≤ 90000) (h3 : ((Tr.node l p r).len : Int) ≤ y + 90000) (h4 : y ≤ 90000) (hc : x < ((Tr.node l p r).len : Int)) (hc2 : 0 < y) :
    Calls Tryz.prog 103 #[v, .int .i64 x, .int .i64 y, .func (.func 104) #[] #[.pointer (some ⟨X, 0, none⟩)]] w fun e w' => e = .returned (.tuple #[]) ∧ OutS W X w' (L ++ cutZ (Tr.node l p r).bs x y) := by
  have HN := Lib.hid (fun (w' : World) (b : AnyLater W w') => ends_any l r p v w' (IsT.later b hv) (by omega))
  obtain ⟨k, lv, rv, bv, fv, rfl, hk, hvl, hvr, hp⟩ := hv
  have hn2 : (Tr.node l p r).len = l.len + p.b.length + r.len := rfl
  obtain ⟨i, ei, hi, mi⟩ := midZ_cast x l.len p.b.length
  obtain ⟨j, ej, hj, mj⟩ := midZ_cast y l.len p.b.length
  have eb : cutZ (Tr.node l p r).bs x y = cutZ l.bs x y ++ (cutZ p.b (x - l.len) (y - l.len) ++ cutZ r.bs (x - ((l.len : Int) + (p.b.length : Int))) (y - ((l.len : Int) + (p.b.length : Int)))) := by
    rw [Tr.bs, cutZ_append, cutZ_append, Tr.len_bs, show x - (l.len : Int) - (p.b.length : Int) = x - ((l.len : Int) + (p.b.length : Int)) by omega, show y - (l.len : Int) - (p.b.length : Int) = y - ((l.len : Int) + (p.b.length : Int)) by omega]
  have k1 := cutZ_length_le l.bs x y
  have k2 := cutZ_length_le p.b (x - l.len) (y - l.len)
  rw [Tr.len_bs] at k1
  have HL := Lib.hid (fun (w' : World) (hw : OutS W X w' L) => ihl lv x y w' L hvl hw (by omega) (by omega) h2 (by omega) h4)
  have HR := Lib.hid (fun (w' : World) (hw : OutS W X w' (L ++ cutZ l.bs x y ++ cutZ p.b (x - l.len) (y - l.len))) => ihr rv (x - ((l.len : Int) + (p.b.length : Int))) (y - ((l.len : Int) + (p.b.length : Int))) w' _ hvr hw (by rw [List.length_append, List.length_append]; omega) (by omega) (by omega) (by omega) (by omega))
  have HM1 := Lib.hid (fun w' => rclamp_any x l.len ((l.len : Int) + (p.b.length : Int)) w' _ ((congrArg (midZ x l.len) (by omega)).trans ei))
  have HM2 := Lib.hid (fun w' => rclamp_any y l.len ((l.len : Int) + (p.b.length : Int)) w' _ ((congrArg (midZ y l.len) (by omega)).trans ej))
  have HE : Hid (∀ w', OutS W X w' (L ++ cutZ l.bs x y ++ cutZ p.b (x - l.len) (y - l.len) ++ cutZ r.bs (x - ((l.len : Int) + (p.b.length : Int))) (y - ((l.len : Int) + (p.b.length : Int)))) → OutS W X w' (L ++ cutZ (Tr.node l p r).bs x y)) := Lib.hid (fun w' hw => by rw [eb, ← List.append_assoc, ← List.append_assoc]; exact hw)
  have HK := Lib.hid hk
  have HP : Hid (i < j → ∃ A cap, RN .u8 W (.slice A (j - i) cap) (cutZ p.b (x - l.len) (y - l.len)) ∧ ∀ w', (Instr.sliceAt 22 bv (some (.int .i64 (i : Int))) (some (.int .i64 (j : Int))) none).run Tryz.prog w' = .ok (.slice A (j - i) cap) w') := Lib.hid (fun hij => by
    rw [cutZ_some mi mj hij]
    exact RN.mid hp.1.rn i j hij (by omega))
  have HP0 : Hid (¬ i < j → cutZ p.b (x - l.len) (y - l.len) = []) := Lib.hid (fun hij => by
    unfold cutZ
    apply List.drop_of_length_le
    rw [List.length_take]
    unfold midZ at mi mj
    split at mi <;> (try split at mi) <;> split at mj <;> (try split at mj) <;> omega)
  obtain ⟨A, cap, rfl, -⟩ := hp.1.form
  have HQ := Lib.hid (fun (u : Value) (w' : World) (M : List Int) (hw : OutS W X w' (L ++ cutZ l.bs x y)) (hm : RN .u8 w' u (cutZ p.b (x - l.len) (y - l.len))) => put_any W X u _ _ w' hX hw hm (by rw [List.length_append]; omega))
  have b1 : l.len ≤ 90000 := by omega
  have b2 : p.b.length ≤ 90000 := by omega
  have H0 := Lib.hid h
  have s0_w := any_own h.1 hk
  have r0_w := own_row s0_w
  unfold nodeC at HK r0_w
  have hx0 : x < ((Tr.node l p r).len : Int) := hc
  clear hvl hvr hp hk h hl hn2 eb k1 k2 ei ej mi mj ihl ihr s0_w
  generalize (cutZ r.bs (x - ((l.len : Int) + (p.b.length : Int))) (y - ((l.len : Int) + (p.b.length : Int)))) = D3 at *
  generalize cutZ p.b (x - l.len) (y - l.len) = D2 at *
  generalize cutZ l.bs x y = D1 at *
  generalize p.b.length = n at *
  generalize p.base = b0 at *
  generalize l.len = e1 at *
  generalize (Tr.node l p r).len = N at *
  have d1 : decide ((N : Int) ≤ x) = false := decide_eq_false (by omega)
  have d2 : decide (y ≤ 0) = false := decide_eq_false (by omega)
  go_enter Tryz.func103, Tryz.ntmps103
  go_wp2_with fail
  refine (HN.out _ H0.out.1).mono ?_
  rintro e w1 ⟨rfl, b_w1⟩
  have H1 := Lib.hid (H0.out.later b_w1)
  have r1 := own_row (any_own H1.out.1 HK.out)
  clear r0_w b_w1
  go_wp2_with fail
  refine (HL.out _ H1.out).mono ?_
  rintro e w2 ⟨rfl, o2⟩
  have H2 := Lib.hid o2
  have r2 := own_row (any_own o2.1 HK.out)
  clear r1 o2
  go_wp2_with fail
  refine (HM1.out _).mono ?_
  rintro e w2' ⟨rfl, rfl⟩
  go_wp2_with fail
  refine (HM2.out _).mono ?_
  rintro e w2' ⟨rfl, rfl⟩
  by_cases hij : i < j
  · obtain ⟨A9, cap9, m1, m2⟩ := HP.out hij
    have M1 := Lib.hid m1
    have d4 : (e1 : Int) + (i : Int) < (e1 : Int) + (j : Int) := by omega
    have d5 : (e1 : Int) + (i : Int) - (e1 : Int) = (i : Int) := by omega
    have d6 : (e1 : Int) + (j : Int) - (e1 : Int) = (j : Int) := by omega
    clear m1
    go_wp2_with fail
    refine (HQ.out _ _ [] H2.out (M1.out.later H2.out.1)).mono ?_
    rintro e w3 ⟨rfl, o3⟩
    have H3 := Lib.hid o3
    have r3 := own_row (any_own o3.1 HK.out)
    clear r2 o3
    go_wp2_with fail
    refine (HR.out _ H3.out).mono ?_
    rintro e w4 ⟨rfl, o4⟩
    have H4 := Lib.hid (HE.out _ o4)
    clear o4
    go_wp2_with fail
    go_end0
    exact ⟨rfl, H4.out⟩
  · have M2 := HP0.out hij
    have H3 : Hid (OutS W X w2 (L ++ D1 ++ D2)) := Lib.hid (by rw [M2, List.append_nil]; exact H2.out)
    have d4 : decide ((e1 : Int) + (i : Int) < (e1 : Int) + (j : Int)) = false := decide_eq_false (by omega)
    have d5 : decide (i < j) = false := decide_eq_false hij
    clear M2 hij
    go_wp2_with fail
    refine (HR.out _ H3.out).mono ?_
    rintro e w4 ⟨rfl, o4⟩
    have H4 := Lib.hid (HE.out _ o4)
    clear o4
    go_wp2_with fail
    go_end0
    exact ⟨rfl, H4.out⟩
theorem each_any (W : World) (X : Nat) (hX : W.heap.size ≤ X) : ∀ t : Tr, EachDo W X t
  | .nil => fun v x y w L hv h _ _ _ _ _ => by
    obtain rfl : v = .pointer none := hv
    have e : cutZ Tr.nil.bs x y = [] := by simp [cutZ, Tr.bs]
    rw [e, List.append_nil]
    exact each_nil W X L x y w h
  | .node l p r => fun v x y w L hv h hl h1 h2 h3 h4 => by
    by_cases hc : ((Tr.node l p r).len : Int) ≤ x ∨ y ≤ 0
    · have e : cutZ (Tr.node l p r).bs x y = [] := cutZ_none (by rw [Tr.len_bs]; omega)
      rw [e, List.append_nil]
      exact each_off W X L l r p v x y w hv h hc
    · exact each_on W X hX l r p (each_any W X hX l) (each_any W X hX r) v x y w L hv h hl h1 h2 h3 h4 (by omega) (by omega)
end Go.Proofs.YtamhnffokoejjaaGreatDoor
namespace Go.Proofs.YtamhnffokoejjaaGreatDoor
set_option linter.unusedSimpArgs false
set_option linter.unusedVariables false
set_option linter.unusedSectionVars false
open Go.RowKit
def widZ (n : Int) : Int := if n < 1 then 1 else if 4096 < n then 4096 else n
theorem widZ_in (n : Int) : 1 ≤ widZ n ∧ widZ n ≤ 4096 := by unfold widZ; split <;> (try split) <;> omega
def lineC (b X : List Int) (k : Nat) : List Int := cutZ X (lnS (feN 0 b) k) (lnE (feN 0 b) b.length k)
def linL {α : Type} (T : List Int → List Int → α) (b S : List Int) : List α := (List.range ((feN 0 b).length + 1)).map fun k => T (lineC b b k) (lineC b S k)
theorem linL_length {α : Type} (T : List Int → List Int → α) (b S : List Int) : (linL T b S).length = (feN 0 b).length + 1 := by simp [linL]
def linP {α : Type} (T : List Int → List Int → α) (b S : List Int) (lf m : Nat) : List α := (List.range m).map fun k => T (lineC b b (lf + k)) (lineC b S (lf + k))
theorem linP_all {α : Type} (T : List Int → List Int → α) (b S : List Int) : linP T b S 0 ((feN 0 b).length + 1) = linL T b S := by
  unfold linP linL
  simp only [Nat.zero_add]
def hidsL (b : List Int) (F : Qs) : List Bool := (List.range ((feN 0 b).length + 1)).map fun k : Nat => hidL (feN 0 b) b.length (k : Int) F
theorem hidsL_length (b : List Int) (F : Qs) : (hidsL b F).length = (feN 0 b).length + 1 := by simp [hidsL]
theorem hidsL_get (b : List Int) (F : Qs) {k : Nat} (h : k ≤ (feN 0 b).length) : (hidsL b F).getD k false = hidL (feN 0 b) b.length k F := by
  unfold hidsL
  rw [List.getD_eq_getElem?_getD, List.getElem?_map, List.getElem?_range (by omega)]; rfl
theorem getD_ext {H G : List Bool} (hl : H.length = G.length) (h : ∀ k, k < H.length → H.getD k false = G.getD k false) : H = G := by
  apply List.ext_getElem hl
  intro k k1 k2
  have := h k k1
  simpa [List.getD_eq_getElem?_getD, k1, k2] using this
end Go.Proofs.YtamhnffokoejjaaGreatDoor
namespace Go.Proofs.YtamhnffokoejjaaGreatDoor
set_option linter.unusedSimpArgs false
set_option linter.unusedVariables false
set_option linter.unusedSectionVars false
open Go.RowKit
def IsR (w : World) (g : Nat) (most : Int) (t : Tr) : Prop := ∃ rv, w.heap[g]? = some (.cells #[rv, .int .i64 most] 146) ∧ IsT w t rv
theorem IsR.later {w w' : World} {g : Nat} {most : Int} {t : Tr} (h : IsR w g most t) (ha : AnyLater w w') : IsR w' g most t := by
  obtain ⟨rv, h1, h2⟩ := h
  exact ⟨rv, any_own ha h1, IsT.later ha h2⟩
structure Tr.Ok (t : Tr) : Prop where
  fair : t.Fair
  even : t.Even
  len : t.len ≤ 60000
set_option maxRecDepth 100000 in
theorem rnoted_any (g : Nat) (most : Int) (t : Tr) (w : World) (h : IsR w g most t) : Calls Tryz.prog 113 #[.pointer (some ⟨g, 0, none⟩)] w fun e w' => e = .returned (sumV t) ∧ AnyLater w w' := by
  obtain ⟨rv, hg, ht⟩ := h
  have HN := Lib.hid (fun (w' : World) (b : AnyLater w w') => noted_any t rv w' (ht.later b))
  obtain ⟨q, rfl⟩ := ht.ptr
  unfold sumV at HN ⊢
  have lg := own_lt hg
  have ng : w.heap.size ≠ g := by omega
  have r0 := own_row hg
  have HG := Lib.hid hg
  clear ht hg
  generalize t.len = a1 at *
  generalize t.nf = a2 at *
  generalize t.np = a3 at *
  generalize t.lev = a4 at *
  go_enter Tryz.func113, Tryz.ntmps113
  go_wp2_with fail
  have s0 : (w.alloc (.cells #[.int .i64 0, .int .i64 0, .int .i64 0, .int .i64 0] 157)).heap[w.heap.size]? = some (.cells #[.int .i64 0, .int .i64 0, .int .i64 0, .int .i64 0] 157) := heap_new rfl
  refine (HN.out _ (by repeat' (first | with_reducible assumption | with_reducible exact AnyLater.refl _ | with_reducible apply AnyLater.setCell | with_reducible apply AnyLater.later | with_reducible apply AnyLater.drewN | with_reducible apply AnyLater.drew | with_reducible apply AnyLater.alloc | ((try simp only [World.size_alloc, World.size_setCell, World.size_drew]); (try dsimp only); omega)))).mono ?_
  rintro e w2 ⟨rfl, b2⟩
  have s2 := any_own b2 s0
  have r2 := own_row s2
  have f2 := own_free s2
  have aw : AnyLater w w2 := AnyLater.trans (by repeat' (first | with_reducible assumption | with_reducible exact AnyLater.refl _ | with_reducible apply AnyLater.setCell | with_reducible apply AnyLater.later | with_reducible apply AnyLater.drewN | with_reducible apply AnyLater.drew | with_reducible apply AnyLater.alloc | ((try simp only [World.size_alloc, World.size_setCell, World.size_drew]); (try dsimp only); omega))) b2
  clear s0 b2 r0
  go_wp2_with fail
  refine bodyPost_ret (v := .agg #[.int .i64 (a1 : Int), .int .i64 (a2 : Int), .int .i64 (a3 : Int), .int .i64 (a4 : Int)]) (by simp [results, Tryz.results113, go_sem, *]) rfl ⟨rfl, ?_⟩
  repeat' (first | with_reducible assumption | with_reducible exact AnyLater.refl _ | with_reducible apply AnyLater.setCell | with_reducible apply AnyLater.later | with_reducible apply AnyLater.drewN | with_reducible apply AnyLater.drew | with_reducible apply AnyLater.alloc | ((try simp only [World.size_alloc, World.size_setCell, World.size_drew]); (try dsimp only); omega))
theorem rnoted_nil (w : World) : Calls Tryz.prog 113 #[.pointer none] w fun e w' => e = .returned (sumV .nil) ∧ AnyLater w w' := by
  go_enter Tryz.func113, Tryz.ntmps113
  go_wp2_with fail
  refine bodyPost_ret (v := sumV .nil) (by simp [results, Tryz.results113, go_sem, sumV, Tr.len, Tr.nf, Tr.np, Tr.lev]) rfl ⟨rfl, ?_⟩
  repeat' (first | with_reducible assumption | with_reducible exact AnyLater.refl _ | with_reducible apply AnyLater.setCell | with_reducible apply AnyLater.later | with_reducible apply AnyLater.drewN | with_reducible apply AnyLater.drew | with_reducible apply AnyLater.alloc | ((try simp only [World.size_alloc, World.size_setCell, World.size_drew]); (try dsimp only); omega))
def IsRN (w : World) (v : Value) (t : Tr) : Prop := (v = .pointer none ∧ t = .nil) ∨ ∃ g most, v = .pointer (some ⟨g, 0, none⟩) ∧ IsR w g most t
theorem IsRN.later {w w' : World} {v : Value} {t : Tr} (h : IsRN w v t) (ha : AnyLater w w') : IsRN w' v t := by
  rcases h with h | ⟨g, most, e, h⟩
  · exact .inl h
  · exact .inr ⟨g, most, e, h.later ha⟩
theorem rnote_any (v : Value) (t : Tr) (w : World) (h : IsRN w v t) : Calls Tryz.prog 113 #[v] w fun e w' => e = .returned (sumV t) ∧ AnyLater w w' := by
  rcases h with ⟨rfl, rfl⟩ | ⟨g, most, rfl, h⟩
  · exact rnoted_nil w
  · exact rnoted_any g most t w h
set_option maxRecDepth 100000 in
theorem rlen_any (v : Value) (t : Tr) (w : World) (h : IsRN w v t) : Calls Tryz.prog 102 #[v] w fun e w' => e = .returned (.int .i64 (t.len : Int)) ∧ AnyLater w w' := by
  have HN := Lib.hid (rnote_any v t w h)
  unfold sumV at HN
  have f0 := fld0
  clear h
  go_enter Tryz.func102, Tryz.ntmps102
  go_wp2_with fail
  refine HN.out.mono ?_
  rintro e w2 ⟨rfl, b2⟩
  go_wp2_with fail
  go_ret
  exact ⟨rfl, b2⟩
set_option maxRecDepth 100000 in
theorem rbreaks_any (v : Value) (t : Tr) (w : World) (h : IsRN w v t) : Calls Tryz.prog 73 #[v] w fun e w' => e = .returned (.int .i64 (t.nf : Int)) ∧ AnyLater w w' := by
  have HN := Lib.hid (rnote_any v t w h)
  unfold sumV at HN
  have f0 := fld1
  clear h
  go_enter Tryz.func73, Tryz.ntmps73
  go_wp2_with fail
  refine HN.out.mono ?_
  rintro e w2 ⟨rfl, b2⟩
  go_wp2_with fail
  go_ret
  exact ⟨rfl, b2⟩
end Go.Proofs.YtamhnffokoejjaaGreatDoor
