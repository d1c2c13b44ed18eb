/- rope: how many line feeds there are, bytes copied, a piece made of bytes: by contract. rope: calc's Clamp and Span; what lies between two places of a tree, handed out piece by piece: by contract. rope: the last piece taken off, two parts side by side, a part split: by contract. rope: two parts side by side, a part split: by contract. rope: ropes in memory; what is noted of one, its parts, whether it is right: by contract. rope: a part of a text; bytes put in; a text made: by contract. rope: few bytes of any; the document's own text, as it lies in memory: bytes put in, bytes taken away: by contract. rope: bytes taken away; a byte: by contract. rope: where a line feed stands; how many stand ahead of a place: by contract. rope: the document's own text: bytes taken away, a part of it, where its line feeds are: by contract. rope: the document's own text: a part of it, where its line feeds are: by contract. rope: what the program and the document do to a text, whatever is asked: bytes put in, bytes taken away. -/
import Derived.Test.YtkobnijjahpifaaDoorRopsA
import Derived.Test.YtkobnijjahpifaaDoorUtfB
import Derived.Shelf.Bytes.SlCountOne
import Derived.Lib.JoinLaws
import Derived.Lib.AppendZeros
import Derived.Deep.LoopGhost
import Derived.Test.YtkobnijjahpifaaDoorEarly
import Derived.Test.YtkobnijjahpifaaDoorChain
import Derived.Lib.SlBytesConst
namespace Go.Proofs.YtkobnijjahpifaaDoor
set_option linter.unusedSimpArgs false
set_option linter.unusedVariables false
set_option linter.unusedSectionVars false
open Go.RowKit

theorem u8_ten {x : Int} (h : 0 ≤ x ∧ x ≤ 255) : UInt8.ofNat x.toNat = 10 ↔ x = 10 := by
  constructor
  · intro e
    have := congrArg UInt8.toNat e
    simp only [UInt8.toNat_ofNat'] at this
    have h2 : (10 : UInt8).toNat = 10 := rfl
    rw [h2] at this
    omega
  · rintro rfl; rfl
theorem feN_count : ∀ (l : List Int) (i : Int), Bytes l → (feN i l).length = Lib.countByte (Lib.bytesOf l) 10
  | [], i, _ => rfl
  | x :: l, i, h => by
    have ih := feN_count l (i + 1) (fun c hc => h c (by simp [hc]))
    have hx := u8_ten (h x (by simp))
    unfold Lib.countByte Lib.bytesOf at *
    rw [List.map_cons, List.count_cons, feN]
    by_cases e : x = 10
    · rw [if_pos e, List.length_cons, ih, if_pos (by simpa using hx.2 e)]
    · rw [if_neg e, ih, if_neg (by simpa using fun q => e (hx.1 q))]; rfl
theorem run_count (v : Value) (l : List Int) (w : World) (hv : RN .u8 w v l) (hb : Bytes l) (c : Nat) (hc : (feN 0 l).length = c) : (callFunc 76 #[v, .int .u8 10]).run Tryd.prog w = .ok (.value (.int .i64 (c : Int))) w := by
  rw [run_callFunc_extern Tryd.func76 (by kernel_rfl) (by kernel_rfl) (by kernel_rfl) (e := Extern.BytealgCount.count) (by kernel_rfl)]
  obtain ⟨A, cap, rfl, h2, h3⟩ := hv
  rw [feN_count l 0 hb] at hc
  cases A with
  | none =>
    have h0 : l = [] := by
      cases l with
      | nil => rfl
      | cons x t => obtain ⟨b, off, e, _⟩ := h3 (by simp); cases e
    subst h0
    subst hc
    rw [Lib.run_countNil]
    rfl
  | some a =>
    rw [Lib.run_countAt w a l.length cap l rfl (fun i hi => by
      obtain ⟨b, off, e, _, hcc⟩ := h3 (by omega)
      cases e
      rw [addr_add, hcc i hi]
      simp [List.getD_eq_getElem?_getD, hi]) 10]
    show Result.ok (Next.value (.int .i64 (Lib.countByte (Lib.bytesOf l) 10))) w = _
    rw [hc]
set_option maxRecDepth 100000 in
theorem count_any (v : Value) (l : List Int) (b2 : Nat) (w : World) (hv : RN .u8 w v l) (hb : Bytes l) (c : Nat) (hc : (feN 0 l).length = c) (h2 : w.cell? ⟨b2, 0, none⟩ = some (.int .u8 10)) :
    Calls Tryd.prog 71 #[v, .slice (some ⟨b2, 0, none⟩) 1 1] w fun e w' => e = .returned (.int .i64 (c : Int)) ∧ w = w' := by
  have hr := run_count v l w hv hb c hc
  clear hv hb hc
  go_enter Tryd.func71, Tryd.ntmps71
  go_wp2_with fail
  go_ret
  exact ⟨rfl, rfl⟩
set_option maxRecDepth 100000 in
/-- how many line feeds are in a slice -/
theorem countFeeds_any (v : Value) (l : List Int) (w : World) (hv : RN .u8 w v l) (hb : Bytes l) (c : Nat) (hc : (feN 0 l).length = c) :
    Calls Tryd.prog 58 #[v] w fun e w' => e = .returned (.int .i64 (c : Int)) ∧ AnyLater w w' := by
  have HC := Lib.hid (fun (w' : World) (b2 : Nat) (a : AnyLater w w') (h : w'.cell? ⟨b2, 0, none⟩ = some (.int .u8 10)) => count_any v l b2 w' (hv.later a) hb c hc h)
  clear hv hb hc
  go_enter Tryd.func58, Tryd.ntmps58
  go_wp2_with fail
  refine (HC.out _ _ (by repeat' (first | with_reducible assumption | with_reducible exact AnyLater.refl _ | with_reducible apply AnyLater.setCell | with_reducible apply AnyLater.later | with_reducible apply AnyLater.drewN | with_reducible apply AnyLater.drew | with_reducible apply AnyLater.alloc | ((try simp only [World.size_alloc, World.size_setCell, World.size_drew]); (try dsimp only); omega))) ?_).mono ?_
  · rw [own_row (heap_new rfl)]; rfl
  rintro e w2 ⟨rfl, rfl⟩
  go_wp2_with fail
  go_ret
  exact ⟨rfl, by repeat' (first | with_reducible assumption | with_reducible exact AnyLater.refl _ | with_reducible apply AnyLater.setCell | with_reducible apply AnyLater.later | with_reducible apply AnyLater.drewN | with_reducible apply AnyLater.drew | with_reducible apply AnyLater.alloc | ((try simp only [World.size_alloc, World.size_setCell, World.size_drew]); (try dsimp only); omega))⟩

/-! ### copied -/
set_option maxRecDepth 100000 in
theorem bclone_any (v : Value) (l : List Int) (w : World) (hv : RN .u8 w v l) (h0 : 0 < l.length) (hl : l.length ≤ 90000) :
    Calls Tryd.prog 57 #[v] w fun e w' => ∃ u, e = .returned u ∧ AnyLater w w' ∧ ON .u8 5 w' w.heap.size u l := by
  obtain ⟨u, w2, k1, k2, k3⟩ := copy8 hv hl
  obtain ⟨A, cap, rfl, h2, h3⟩ := hv
  obtain ⟨b, off, rfl, -⟩ := h3 h0
  have hq := fun (w : World) (n : Nat) => Lib.run_eql_slice_nil (P := Tryd.prog) w 22 5 (some ⟨b, off, none⟩) n cap 0 0 Tryd.underlying22
  have HK := Lib.hid (And.intro k2 k3)
  have K1 := Lib.hid k1
  clear k1 k2 k3 h3
  generalize l.length = n at *
  go_enter Tryd.func57, Tryd.ntmps57
  go_wp2_with (at_builtin; refine Lib.wpList_append_run _ rfl _ _ _ _ rfl _ _ rfl rfl _ _ K1.out ?_)
  go_ret
  exact ⟨_, rfl, HK.out.1, HK.out.2⟩

/-! ### a piece made of bytes -/
theorem info_i32 : (Tryd.prog.info? 21).map (fun i => (i.zero, i.size, i.bytes)) = some (some (.int .i32 0), 1, 4) := by kernel_rfl
/-- append(v, x), v a row of places of the call's own; what else stands stays -/
theorem appF {w : World} {B : Nat} {v : Value} {l : List Int} (x : Int) (ho : ON .i32 21 w B v l) (hB : B ≤ w.heap.size) (hl : l.length ≤ 90000) :
    ∃ u w2, (Builtin.append_ #[69, 69] 69 #[v, .slice (some ⟨w.heap.size, 0, none⟩) 1 1]).run Tryd.prog (w.alloc (.cells #[.int .i32 x] 21)) = .ok u w2 ∧ ON .i32 21 w2 B u (l ++ [x]) ∧ (∀ W, W.heap.size ≤ B → AnyLater W w → AnyLater W w2) ∧ (∀ (k : Nat) (o : Obj), w.heap[k]? = some o → v.ownBlock ≠ some k → w2.heap[k]? = some o) := by
  have a1 : AnyLater w (w.alloc (.cells #[.int .i32 x] 21)) := (AnyLater.refl w).alloc _
  have hm : RN .i32 (w.alloc (.cells #[.int .i32 x] 21)) (.slice (some ⟨w.heap.size, 0, none⟩) 1 1) [x] := (ON.one (B := 0) (Nat.zero_le _) (heap_new rfl)).rn
  have ho2 := ho.later a1
  obtain ⟨u, w2, k1, k2, k3⟩ := appN (s := 69) Tryd.underlying69 info_i32 (by decide) ho2 hm (Nat.le_trans hB a1.below.size) (by simp; omega)
  exact ⟨u, w2, k1, k2, fun W h1 h2 => ON.grown ho2 h1 (h2.trans a1) k3, fun k o hk hne => grown_block k3 (any_own a1 hk) hne⟩
theorem feN_snoc (l : List Int) (i : Nat) (h : i < l.length) : feN 0 (l.take (i + 1)) = feN 0 (l.take i) ++ (if l[i] = 10 then [(i : Int)] else []) := by
  have hl : (l.take i).length = i := by rw [List.length_take]; omega
  rw [List.take_succ_eq_append_getElem h, feN_append, hl]
  congr 1
  simp [feN]
theorem cut_whole (l : List Int) : Pc.cut ⟨l, 0⟩ 0 l.length = ⟨l, 0⟩ := by
  unfold Pc.cut
  simp
set_option maxRecDepth 100000 in
set_option maxHeartbeats 3200000 in
theorem pieceOf_any (v : Value) (l : List Int) (w : World) (hv : RN .u8 w v l) (hb : Bytes l) (h0 : 0 < l.length) (hl : l.length ≤ 80000) :
    Calls Tryd.prog 41 #[v] w (Ans (isPc ⟨l, 0⟩) w) := by
  obtain ⟨C, hC⟩ : ∃ c, (feN 0 l).length = c := ⟨_, rfl⟩
  have hC2 : C ≤ 80000 := by have := feN_le l 0; omega
  have fp : Pc.Fair ⟨l, 0⟩ := ⟨h0, Int.le_refl _, by simp only; omega, hb⟩
  have hv0 := hv
  obtain ⟨A, cap, rfl, h2, h3⟩ := hv
  obtain ⟨b, off, rfl, hbb, hcc⟩ := h3 h0
  obtain ⟨n, hn⟩ : ∃ n, l.length = n := ⟨_, rfl⟩
  have HCl : Hid (∀ w', AnyLater w w' → Calls Tryd.prog 57 #[.slice (some ⟨b, off, none⟩) n cap] w' fun e w'' => ∃ A2 cap2, e = .returned (.slice A2 n cap2) ∧ AnyLater w' w'' ∧ ON .u8 5 w'' w'.heap.size (.slice A2 n cap2) l) := Lib.hid (fun w' a => by
    subst hn
    refine (bclone_any _ l w' (hv0.later a) h0 (by omega)).mono ?_
    rintro e w'' ⟨u, rfl, h1, h2⟩
    obtain ⟨A2, cap2, rfl, -⟩ := h2.form
    exact ⟨A2, cap2, rfl, h1, h2⟩)
  have HCo : Hid (∀ w', AnyLater w w' → Calls Tryd.prog 58 #[.slice (some ⟨b, off, none⟩) n cap] w' fun e w'' => e = .returned (.int .i64 (C : Int)) ∧ AnyLater w' w'') := Lib.hid (fun w' a => by
    subst hn
    exact countFeeds_any _ l w' (hv0.later a) hb C hC)
  have HCut : Hid (∀ (w' : World) (bv fv : Value), RT .u8 5 w' bv l → RT .i32 21 w' fv (feN 0 l) → Calls Tryd.prog 53 #[.agg #[bv, fv, .int .i64 0], .int .i64 0, .int .i64 (n : Int)] w' (Ans (isPc ⟨l, 0⟩) w')) := Lib.hid (fun w' bv fv h1 h2 => by
    subst hn
    have := cut_any ⟨l, 0⟩ bv fv w' 0 (l.length : Int) 0 l.length rfl rfl (Nat.zero_le _) (Nat.le_refl _) ⟨h1, h2⟩ fp
    rw [cut_whole] at this
    exact this)
  have hm0 := run_make_room (P := Tryd.prog) 69 21 (.int .i32 0) 4 Tryd.underlying69 info_i32 rfl .i64 .i64 C (by omega) (by omega)
  have HCC : Hid (∀ (i : Nat), i < n → w.cell? ⟨b, off + i, none⟩ = some (.int .u8 (l.getD i 0))) := Lib.hid (fun i hi => by subst hn; rw [hcc i hi]; simp [List.getD_eq_getElem?_getD, hi])
  have HSn : Hid (∀ i, i < n → feN 0 (l.take (i + 1)) = feN 0 (l.take i) ++ (if l.getD i 0 = 10 then [(i : Int)] else [])) := Lib.hid (fun i hi => by subst hn; rw [feN_snoc l i hi]; simp [List.getD_eq_getElem?_getD, hi])
  have HFl : Hid (∀ i, (feN 0 (l.take i)).length ≤ 80000) := Lib.hid (fun i => by have := feN_le (l.take i) 0; rw [List.length_take] at this; omega)
  have HEnd : Hid (l.take n = l) := Lib.hid (by subst hn; exact List.take_length)
  have hn80 : n ≤ 80000 := by omega
  rw [hn]
  clear hC h3 hcc hb fp hv0 h0 hl hn h2
  go_enter Tryd.func41, Tryd.ntmps41
  go_wp2_with fail
  first | refine settle_wp (fun wS => AnyLater w wS ∧ wS.heap[w.heap.size]? = some (.cells #[.slice none 0 0, .slice none 0 0, .int .i64 0] 71)) ?_ ?_ | refine settle_calls (fun wS => AnyLater w wS ∧ wS.heap[w.heap.size]? = some (.cells #[.slice none 0 0, .slice none 0 0, .int .i64 0] 71)) ?_ ?_
  · refine ⟨?_, ?_⟩
    · repeat' (first | with_reducible assumption | with_reducible exact AnyLater.refl _ | with_reducible apply AnyLater.setCell | with_reducible apply AnyLater.later | with_reducible apply AnyLater.drewN | with_reducible apply AnyLater.drew | with_reducible apply AnyLater.alloc | ((try simp only [World.size_alloc, World.size_setCell, World.size_drew]); (try dsimp only); omega))
    · ((repeat (first | with_reducible assumption | ((with_reducible apply heap_new); (try simp only [World.size_alloc, World.size_setCell, World.size_drew, World.heap_drewN]); done) | ((with_reducible apply heap_new); (try simp only [World.size_alloc, World.size_setCell, World.size_drew, World.heap_drewN]); omega) | (with_reducible refine heap_old (by (try simp only [World.size_alloc, World.size_setCell, World.size_drew, World.heap_drewN]); omega) ?_) | (with_reducible refine heap_drew ?_) | (with_reducible refine heap_far (by omega) ?_) | (with_reducible apply heap_at))); all_goals rfl)
  rintro w1 ⟨b_w1, s0_w1⟩
  have a_w1 := b_w1
  have r0_w1 := own_row s0_w1
  have f0_w1 := own_free s0_w1
  have l0_w1 := own_lt s0_w1
  have z_w1 := b_w1.below.size
  refine (HCl.out _ a_w1).mono ?_
  rintro e w2 ⟨A2, cap2, rfl, b_w2, o2⟩
  have z_w2 := b_w2.below.size
  have a_w2 := a_w1.trans b_w2
  have s0_w2 := any_own b_w2 s0_w1
  have r0_w2 := own_row s0_w2
  have f0_w2 := own_free s0_w2
  have l0_w2 := own_lt s0_w2
  (try clear r0_w1); (try clear f0_w1)
  have HO2 := Lib.hid o2
  clear o2
  go_wp2_with fail
  refine (HCo.out _ a_w2).mono ?_
  rintro e w3 ⟨rfl, b_w3⟩
  have z_w3 := b_w3.below.size
  have a_w3 := a_w2.trans b_w3
  have s0_w3 := any_own b_w3 s0_w2
  have r0_w3 := own_row s0_w3
  have f0_w3 := own_free s0_w3
  have l0_w3 := own_lt s0_w3
  (try clear r0_w2); (try clear f0_w2)
  go_wp2_with fail
  clear r0_w3
  go_loopg [14] n (fun kk iv wr => ∃ (i : Nat) (fv : Value), kk = n - i ∧ i ≤ n ∧ iv = .int .i64 (i : Int) ∧ AnyLater w3 wr ∧ wr.heap[w3.heap.size + 1]? = some (.cells #[.slice A2 n cap2, fv, .int .i64 0] 71) ∧ ON .i32 21 wr w3.heap.size fv (feN 0 (l.take i)) ∧ fv.ownBlock ≠ some (w3.heap.size + 1))
  case atStart =>
    refine ⟨0, _, by omega, by omega, rfl, by repeat' (first | with_reducible assumption | with_reducible exact AnyLater.refl _ | with_reducible apply AnyLater.setCell | with_reducible apply AnyLater.later | with_reducible apply AnyLater.drewN | with_reducible apply AnyLater.drew | with_reducible apply AnyLater.alloc | ((try simp only [World.size_alloc, World.size_setCell, World.size_drew]); (try dsimp only); omega)), heap_new (by simp), ⟨rfl, .inr ⟨w3.heap.size, C, madeCells #[.int .i32 0] C, rfl, Nat.le_refl _, heap_old (by simp) (heap_new rfl), Nat.zero_le _, by unfold maxLen; omega, by rw [size_madeCells, Nat.mul_one], rfl⟩⟩, by simp [Value.ownBlock]⟩
  case round =>
    obtain ⟨i, fv, hk, hi, rfl, a_wr, sP, ho, hne⟩ := hrel
    have HO := Lib.hid ho
    have HA := Lib.hid a_wr
    have HS := Lib.hid sP
    have rP := own_row sP
    have fP := own_free sP
    have zP := a_wr.below.size
    have lP := own_lt sP
    clear sP
    by_cases hlt : i < n
    · have d0 : (i : Int) < (n : Int) := by omega
      have c0 : wr.cell? ⟨b, off + i, none⟩ = some (.int .u8 (l.getD i 0)) := ((a_w3.trans a_wr).below.cell hbb).trans (HCC.out i hlt)
      have hsn := HSn.out i hlt
      generalize l.getD i 0 = c at *
      by_cases h10 : c = 10
      · subst h10
        rw [if_pos rfl] at hsn
        obtain ⟨u, wx, k1, k2, k3, k4⟩ := appF (i : Int) ho zP (by have := HFl.out i; omega)
        have K1 := Lib.hid k1
        have K2 : Hid (ON .i32 21 wx w3.heap.size u (feN 0 (l.take (i + 1)))) := Lib.hid (by rw [hsn]; exact k2)
        have K3 := Lib.hid (And.intro (k3 w3 (Nat.le_refl _) a_wr) (k4 _ _ HS.out hne))
        obtain ⟨A4, cap4, e4, -⟩ := ho.form
        subst e4
        obtain ⟨A5, cap5, e5, -⟩ := k2.form
        subst e5
        clear k1 k2 k3 k4 ho hsn a_wr hne
        generalize (feN 0 (l.take i)).length = m at *
        generalize (feN 0 (l.take i) ++ [(i : Int)]).length = m5 at *
        have rx := own_row K3.out.2
        have fx := own_free K3.out.2
        go_wp2_with (at_builtin; refine Lib.wpList_append_run _ rfl _ _ _ _ rfl _ _ rfl rfl _ _ K1.out ?_)
        go_roundg (n - (i + 1))
        case measure => omega
        case rel =>
          refine ⟨i + 1, _, rfl, hlt, by go_num, K3.out.1.setCell (Nat.le_succ _) _, heap_at K3.out.2 rfl, ?_, owns_ne K2.out K3.out.2 (by decide)⟩
          exact owns_set K3.out.2 (by decide) _ _ K2.out
      · have hc2 : (c == 10) = false := by simpa using h10
        rw [if_neg h10, List.append_nil] at hsn
        have K2 : Hid (ON .i32 21 wr w3.heap.size fv (feN 0 (l.take (i + 1))) ∧ fv.ownBlock ≠ some (w3.heap.size + 1)) := Lib.hid (by rw [hsn]; exact ⟨ho, hne⟩)
        clear ho hne h10 hsn a_wr
        go_wp2_with fail
        go_roundg (n - (i + 1))
        case measure => omega
        case rel => exact ⟨i + 1, fv, rfl, hlt, by go_num, HA.out, HS.out, K2.out.1, K2.out.2⟩
    · obtain rfl : i = n := by omega
      rw [HEnd.out] at HO
      have HR8 := Lib.hid ((HO2.out.later (b_w3.trans a_wr)).rt)
      have HR3 := Lib.hid (HO.out.rt)
      obtain ⟨A4, cap4, e4, -⟩ := ho.form
      subst e4
      have s0 := any_own a_wr s0_w3
      clear ho hne a_wr hlt hk
      go_wp2_with fail
      refine (HCut.out _ _ _ HR8.out HR3.out).mono ?_
      rintro e w4 ⟨_, rfl, b4, bv5, fv5, rfl, h5⟩
      have H5 := Lib.hid (And.intro h5 (a_w3.trans (HA.out.trans b4)))
      obtain ⟨A5, cap5, rfl, -⟩ := h5.1.form
      obtain ⟨A6, cap6, rfl, -⟩ := h5.2.form
      have s1 := any_own b4 s0
      have r1 := own_row s1
      have f1 := own_free s1
      clear h5 s0 s0_w3
      generalize (Pc.mk l 0).b.length = n5 at *
      generalize (Pc.mk l 0).fs.length = n6 at *
      have HI : Hid (∀ w', AnyLater w4 w' → isPc ⟨l, 0⟩ (.agg #[.slice A5 n5 cap5, .slice A6 n6 cap6, .int .i64 0]) w') := Lib.hid (fun w' b => ⟨_, _, rfl, H5.out.1.later b⟩)
      have e5 : pcV (.slice A5 n5 cap5) (.slice A6 n6 cap6) ⟨l, 0⟩ = .agg #[.slice A5 n5 cap5, .slice A6 n6 cap6, .int .i64 0] := rfl
      rw [e5]
      clear e5
      go_wp2_with fail
      have HA2 : AnyLater w (((w4.setCell ⟨w.heap.size, 0, none⟩ (.slice A5 n5 cap5)).setCell ⟨w.heap.size, 1, none⟩ (.slice A6 n6 cap6)).setCell ⟨w.heap.size, 2, none⟩ (.int .i64 0)) := by
        have a4 := H5.out.2
        repeat' (first | with_reducible assumption | with_reducible exact AnyLater.refl _ | with_reducible apply AnyLater.setCell | with_reducible apply AnyLater.later | with_reducible apply AnyLater.drewN | with_reducible apply AnyLater.drew | with_reducible apply AnyLater.alloc | ((try simp only [World.size_alloc, World.size_setCell, World.size_drew]); (try dsimp only); omega))
      refine bodyPost_ret (v := .agg #[.slice A5 n5 cap5, .slice A6 n6 cap6, .int .i64 0]) (by simp [results, Tryd.results41, go_sem, *]) rfl ?_
      exact ⟨_, rfl, HA2, _, _, rfl, RIsP.far3 s1 (by decide) (by decide) H5.out.1⟩
end Go.Proofs.YtkobnijjahpifaaDoor
namespace Go.Proofs.YtkobnijjahpifaaDoor
set_option linter.unusedSimpArgs false
set_option linter.unusedVariables false
set_option linter.unusedSectionVars false
open Go.RowKit

/-! ### calc -/
theorem ret_z {a b : Int} (h : a = b) : Ending.returned (.int .i64 a) = .returned (.int .i64 b) := by rw [h]
def midZ (n low high : Int) : Int := if n < low ∨ high < low then low else if high < n then high else n
theorem rclamp_any (n low high : Int) (w : World) (c : Int) (hc : midZ n low high = c) :
    Calls Tryd.prog 29 #[.int .i64 n, .int .i64 low, .int .i64 high] w fun e w' => e = .returned (.int .i64 c) ∧ w = w' := by
  subst hc
  by_cases h1 : n < low
  · have Q : Hid (low = midZ n low high) := Lib.hid (by unfold midZ; rw [if_pos (.inl h1)])
    go_enter Tryd.func29, Tryd.ntmps29
    go_wp2
    go_ret
    exact ⟨ret_z Q.out, rfl⟩
  · by_cases h2 : high < low
    · have Q : Hid (low = midZ n low high) := Lib.hid (by unfold midZ; rw [if_pos (.inr h2)])
      go_enter Tryd.func29, Tryd.ntmps29
      go_wp2
      go_ret
      exact ⟨ret_z Q.out, rfl⟩
    · by_cases h3 : high < n
      · have Q : Hid (high = midZ n low high) := Lib.hid (by unfold midZ; rw [if_neg (by omega), if_pos h3])
        go_enter Tryd.func29, Tryd.ntmps29
        go_wp2
        go_ret
        exact ⟨ret_z (by rw [← Q.out]; omega), rfl⟩
      · have Q : Hid (n = midZ n low high) := Lib.hid (by unfold midZ; rw [if_neg (by omega), if_neg h3])
        go_enter Tryd.func29, Tryd.ntmps29
        go_wp2
        go_ret
        exact ⟨ret_z (by rw [← Q.out]; omega), rfl⟩
def In3 (a n all : Int) : Prop := 0 ≤ a ∧ a ≤ all ∧ 0 ≤ n ∧ n ≤ all - a
/-! ### from a place on, ahead of another one -/
def cutZ (l : List Int) (f t : Int) : List Int := (l.take t.toNat).drop f.toNat
theorem cutZ_append (a b : List Int) (f t : Int) : cutZ (a ++ b) f t = cutZ a f t ++ cutZ b (f - a.length) (t - a.length) := by
  unfold cutZ
  rw [List.take_append, List.drop_append, List.length_take]
  congr 1
  rcases Nat.le_total a.length t.toNat with h | h
  · rw [Nat.min_eq_right h]
    congr 1
    · omega
    · congr 1; omega
  · have e1 : t.toNat - a.length = 0 := by omega
    have e2 : (t - (a.length : Int)).toNat = 0 := by omega
    rw [e1, e2]; simp
theorem cutZ_none {l : List Int} {f t : Int} (h : t ≤ f ∨ (l.length : Int) ≤ f ∨ t ≤ 0) : cutZ l f t = [] := by
  unfold cutZ
  apply List.drop_of_length_le
  rw [List.length_take]
  omega
theorem cutZ_length_le (l : List Int) (f t : Int) : (cutZ l f t).length ≤ l.length := by
  unfold cutZ
  rw [List.length_drop, List.length_take]; omega
theorem cutZ_some {l : List Int} {f t : Int} {i j : Nat} (hi : (i : Int) = midZ f 0 l.length) (hj : (j : Int) = midZ t 0 l.length) (hij : i < j) : cutZ l f t = (l.drop i).take (j - i) := by
  unfold cutZ
  unfold midZ at hi hj
  have e1 : l.take t.toNat = l.take j := by
    split at hj
    · omega
    · split at hj
      · rw [List.take_of_length_le (by omega), List.take_of_length_le (by omega)]
      · congr 1; omega
  have e2 : f.toNat = i := by
    split at hi
    · omega
    · split at hi
      · split at hj <;> (try split at hj) <;> omega
      · omega
  rw [e1, e2, List.drop_take]
set_option maxRecDepth 100000 in
theorem RN.mid {w : World} {v : Value} {l : List Int} (h : RN .u8 w v l) (lo hi : Nat) (h1 : lo < hi) (h2 : hi ≤ l.length) : ∃ A cap, RN .u8 w (.slice A (hi - lo) cap) ((l.drop lo).take (hi - lo)) ∧
    ∀ w', (Instr.sliceAt 22 v (some (.int .i64 (lo : Int))) (some (.int .i64 (hi : Int))) none).run Tryd.prog w' = .ok (.slice A (hi - lo) cap) w' := by
  obtain ⟨A, cap, rfl, h3, h4⟩ := h
  obtain ⟨b, off, rfl, hb, hc⟩ := h4 (by omega)
  have hl : ((l.drop lo).take (hi - lo)).length = hi - lo := by rw [List.length_take, List.length_drop]; omega
  refine ⟨some ⟨b, off + lo, none⟩, cap - lo, ⟨_, _, by rw [hl], by rw [hl]; omega, fun _ => ⟨b, off + lo, rfl, hb, fun j hj => ?_⟩⟩, fun w' => ?_⟩
  · rw [hl] at hj
    rw [Nat.add_assoc, hc (lo + j) (by omega), List.getElem_take, List.getElem_drop]
  · rw [run_sliceAt_slice w' _ _ _ _ _ Tryd.underlying22, run_slice_lh w' _ (some ⟨b, off, none⟩) l.length cap Tryd.underlying22 .i64 .i64 (lo : Int) (hi : Int) (by omega) (by omega) (by omega)]
    have hz : ∀ w, (Go.sizeOf (Tryd.prog.elem 22)).run Tryd.prog w = .ok 1 w := fun w => by simp [go_sem]
    rw [hz]
    simp only [Result.andThen, sliced, Int.toNat_natCast, Nat.mul_one]
    rw [if_neg (by omega), Option.map_some, addr_add]

/-! ### what is handed out -/
/-- the variable at X holds a row of the call's own, which reads as these bytes -/
def OutS (W : World) (X : Nat) (w : World) (L : List Int) : Prop := AnyLater W w ∧ ∃ ov, w.heap[X]? = some (.cells #[ov] 22) ∧ ON .u8 5 w W.heap.size ov L
/-- append(v, u...) onto a row of bytes of the call's own -/
theorem app8 {w : World} {B : Nat} {v u : Value} {l m : List Int} (ho : ON .u8 5 w B v l) (hm : RN .u8 w u m) (hB : B ≤ w.heap.size) (hlen : l.length + m.length ≤ 100000) :
    ∃ v' w', (Builtin.append_ #[22, 22] 22 #[v, u]).run Tryd.prog w = .ok v' w' ∧ ON .u8 5 w' B v' (l ++ m) ∧ w.grownBy w' v.ownBlock := appN (s := 22) Tryd.underlying22 info_u8 (by decide) ho hm hB hlen
set_option maxRecDepth 100000 in
theorem put_any (W : World) (X : Nat) (u : Value) (L M : List Int) (w : World) (hX : W.heap.size ≤ X) (h : OutS W X w L) (hm : RN .u8 w u M) (hl : L.length + M.length ≤ 100000) :
    Calls Tryd.prog 46 #[u, .pointer (some ⟨X, 0, none⟩)] w fun e w' => e = .returned (.tuple #[]) ∧ OutS W X w' (L ++ M) := by
  obtain ⟨hW, ov, hx, ho⟩ := h
  obtain ⟨v', w2, k1, k2, k3⟩ := app8 ho hm hW.below.size hl
  have hne := owns_ne ho hx (by decide)
  have hx2 := grown_block k3 hx hne
  have HK : Hid (AnyLater W w2 ∧ w2.heap[X]? = some (.cells #[ov] 22) ∧ ON .u8 5 w2 W.heap.size v' (L ++ M)) := Lib.hid ⟨ON.grown ho (Nat.le_refl _) hW k3, hx2, k2⟩
  have K1 := Lib.hid k1
  obtain ⟨A, cap, rfl, -⟩ := ho.form
  obtain ⟨A2, cap2, rfl, -⟩ := hm.form
  obtain ⟨A3, cap3, rfl, -⟩ := k2.form
  have r1 := own_row hx
  have r2 := own_row HK.out.2.1
  have f2 := own_free HK.out.2.1
  clear hW hx ho k1 k2 k3 hne hx2 hm
  generalize L.length = n1 at *
  generalize M.length = n2 at *
  generalize (L ++ M).length = n3 at *
  go_enter Tryd.func46, Tryd.ntmps46
  go_wp2_with (at_builtin; refine Lib.wpList_append_run _ rfl _ _ _ _ rfl _ _ rfl rfl _ _ K1.out ?_)
  go_end0
  refine ⟨rfl, ?_⟩
  exact ⟨HK.out.1.setCell hX _, _, heap_at HK.out.2.1 rfl, owns_set HK.out.2.1 (by decide) _ _ HK.out.2.2⟩
theorem OutS.len {W w : World} {X : Nat} {L : List Int} (h : OutS W X w L) : AnyLater W w := h.1
/-- a later world in which nothing of the call's own was touched -/
theorem OutS.later {W w w' : World} {X : Nat} {L : List Int} (h : OutS W X w L) (ha : AnyLater w w') : OutS W X w' L := by
  obtain ⟨hW, ov, hx, ho⟩ := h
  exact ⟨hW.trans ha, ov, any_own ha hx, ho.later ha⟩
set_option maxRecDepth 100000 in
theorem each_nil (W : World) (X : Nat) (L : List Int) (f t : Int) (w : World) (h : OutS W X w L) :
    Calls Tryd.prog 45 #[.pointer none, .int .i64 f, .int .i64 t, .func (.func 46) #[] #[.pointer (some ⟨X, 0, none⟩)]] w fun e w' => e = .returned (.tuple #[]) ∧ OutS W X w' L := by
  have H := Lib.hid h
  clear h
  go_enter Tryd.func45, Tryd.ntmps45
  go_wp2_with fail
  refine bodyPost_ret (v := .tuple #[]) (by simp [results, Tryd.results45, go_sem]) rfl ⟨rfl, ?_⟩
  exact H.out
set_option maxRecDepth 100000 in
theorem each_off (W : World) (X : Nat) (L : List Int) (l r : Tr) (p : Pc) (v : Value) (f t : Int) (w : World) (hv : IsT W (.node l p r) v) (h : OutS W X w L) (hc : ((Tr.node l p r).len : Int) ≤ f ∨ t ≤ 0) :
    Calls Tryd.prog 45 #[v, .int .i64 f, .int .i64 t, .func (.func 46) #[] #[.pointer (some ⟨X, 0, none⟩)]] w fun e w' => e = .returned (.tuple #[]) ∧ OutS W X w' L := by
  have H := Lib.hid h
  obtain ⟨k, lv, rv, bv, fv, rfl, hk, -⟩ := IsT.later h.1 hv
  have r0 := own_row hk
  unfold nodeC at r0
  clear h hk hv
  generalize (Tr.node l p r).len = n at *
  by_cases h1 : (n : Int) ≤ f
  · clear hc
    go_enter Tryd.func45, Tryd.ntmps45
    go_wp2_with fail
    refine bodyPost_ret (v := .tuple #[]) (by simp [results, Tryd.results45, go_sem]) rfl ⟨rfl, ?_⟩
    exact H.out
  · have h2 : t ≤ 0 := by omega
    have d1 : decide ((n : Int) ≤ f) = false := decide_eq_false h1
    clear hc h1
    go_enter Tryd.func45, Tryd.ntmps45
    go_wp2_with fail
    refine bodyPost_ret (v := .tuple #[]) (by simp [results, Tryd.results45, go_sem]) rfl ⟨rfl, ?_⟩
    exact H.out
def EachDo (W : World) (X : Nat) (t : Tr) : Prop := ∀ (v : Value) (x y : Int) (w : World) (L : List Int), IsT W t v → OutS W X w L → L.length + t.len ≤ 90000 → (t.len : Int) ≤ x + 90000 → x ≤ 90000 → (t.len : Int) ≤ y + 90000 → y ≤ 90000 →
    Calls Tryd.prog 45 #[v, .int .i64 x, .int .i64 y, .func (.func 46) #[] #[.pointer (some ⟨X, 0, none⟩)]] w fun e w' => e = .returned (.tuple #[]) ∧ OutS W X w' (L ++ cutZ t.bs x y)
theorem midZ_cast (x : Int) (s n : Nat) : ∃ i : Nat, midZ x s ((s + n : Nat) : Int) = ((s + i : Nat) : Int) ∧ i ≤ n ∧ (i : Int) = midZ (x - s) 0 n := by
  refine ⟨(midZ (x - s) 0 n).toNat, ?_, ?_, ?_⟩
  all_goals
    unfold midZ
    split
    · (try split) <;> omega
    · (try split) <;> (try split) <;> omega
set_option maxRecDepth 100000 in
set_option maxHeartbeats 3200000 in
theorem each_on (W : World) (X : Nat) (hX : W.heap.size ≤ X) (l r : Tr) (p : Pc) (ihl : EachDo W X l) (ihr : EachDo W X r) (v : Value) (x y : Int) (w : World) (L : List Int) (hv : IsT W (.node l p r) v) (h : OutS W X w L)
    (hl : L.length + (Tr.node l p r).len ≤ 90000) (h1 : ((Tr.node l p r).len : Int) ≤ x + 90000) (h2 : x ≤ 90000) (h3 : ((Tr.node l p r).len : Int) ≤ y + 90000) (h4 : y ≤ 90000) (hc : x < ((Tr.node l p r).len : Int)) (hc2 : 0 < y) :
    Calls Tryd.prog 45 #[v, .int .i64 x, .int .i64 y, .func (.func 46) #[] #[.pointer (some ⟨X, 0, none⟩)]] w fun e w' => e = .returned (.tuple #[]) ∧ OutS W X w' (L ++ cutZ (Tr.node l p r).bs x y) := by
  have HN := Lib.hid (fun (w' : World) (b : AnyLater W w') => ends_any l r p v w' (IsT.later b hv) (by omega))
  obtain ⟨k, lv, rv, bv, fv, rfl, hk, hvl, hvr, hp⟩ := hv
  have hn2 : (Tr.node l p r).len = l.len + p.b.length + r.len := rfl
  obtain ⟨i, ei, hi, mi⟩ := midZ_cast x l.len p.b.length
  obtain ⟨j, ej, hj, mj⟩ := midZ_cast y l.len p.b.length
  have eb : cutZ (Tr.node l p r).bs x y = cutZ l.bs x y ++ (cutZ p.b (x - l.len) (y - l.len) ++ cutZ r.bs (x - ((l.len : Int) + (p.b.length : Int))) (y - ((l.len : Int) + (p.b.length : Int)))) := by
    rw [Tr.bs, cutZ_append, cutZ_append, Tr.len_bs, show x - (l.len : Int) - (p.b.length : Int) = x - ((l.len : Int) + (p.b.length : Int)) by omega, show y - (l.len : Int) - (p.b.length : Int) = y - ((l.len : Int) + (p.b.length : Int)) by omega]
  have k1 := cutZ_length_le l.bs x y
  have k2 := cutZ_length_le p.b (x - l.len) (y - l.len)
  rw [Tr.len_bs] at k1
  have HL := Lib.hid (fun (w' : World) (hw : OutS W X w' L) => ihl lv x y w' L hvl hw (by omega) (by omega) h2 (by omega) h4)
  have HR := Lib.hid (fun (w' : World) (hw : OutS W X w' (L ++ cutZ l.bs x y ++ cutZ p.b (x - l.len) (y - l.len))) => ihr rv (x - ((l.len : Int) + (p.b.length : Int))) (y - ((l.len : Int) + (p.b.length : Int))) w' _ hvr hw (by rw [List.length_append, List.length_append]; omega) (by omega) (by omega) (by omega) (by omega))
  have HM1 := Lib.hid (fun w' => rclamp_any x l.len ((l.len : Int) + (p.b.length : Int)) w' _ ((congrArg (midZ x l.len) (by omega)).trans ei))
  have HM2 := Lib.hid (fun w' => rclamp_any y l.len ((l.len : Int) + (p.b.length : Int)) w' _ ((congrArg (midZ y l.len) (by omega)).trans ej))
  have HE : Hid (∀ w', OutS W X w' (L ++ cutZ l.bs x y ++ cutZ p.b (x - l.len) (y - l.len) ++ cutZ r.bs (x - ((l.len : Int) + (p.b.length : Int))) (y - ((l.len : Int) + (p.b.length : Int)))) → OutS W X w' (L ++ cutZ (Tr.node l p r).bs x y)) := Lib.hid (fun w' hw => by rw [eb, ← List.append_assoc, ← List.append_assoc]; exact hw)
  have HK := Lib.hid hk
  have HP : Hid (i < j → ∃ A cap, RN .u8 W (.slice A (j - i) cap) (cutZ p.b (x - l.len) (y - l.len)) ∧ ∀ w', (Instr.sliceAt 22 bv (some (.int .i64 (i : Int))) (some (.int .i64 (j : Int))) none).run Tryd.prog w' = .ok (.slice A (j - i) cap) w') := Lib.hid (fun hij => by
    rw [cutZ_some mi mj hij]
    exact RN.mid hp.1.rn i j hij (by omega))
  have HP0 : Hid (¬ i < j → cutZ p.b (x - l.len) (y - l.len) = []) := Lib.hid (fun hij => by
    unfold cutZ
    apply List.drop_of_length_le
    rw [List.length_take]
    unfold midZ at mi mj
    split at mi <;> (try split at mi) <;> split at mj <;> (try split at mj) <;> omega)
  obtain ⟨A, cap, rfl, -⟩ := hp.1.form
  have HQ := Lib.hid (fun (u : Value) (w' : World) (M : List Int) (hw : OutS W X w' (L ++ cutZ l.bs x y)) (hm : RN .u8 w' u (cutZ p.b (x - l.len) (y - l.len))) => put_any W X u _ _ w' hX hw hm (by rw [List.length_append]; omega))
  have b1 : l.len ≤ 90000 := by omega
  have b2 : p.b.length ≤ 90000 := by omega
  have H0 := Lib.hid h
  have s0_w := any_own h.1 hk
  have r0_w := own_row s0_w
  unfold nodeC at HK r0_w
  have hx0 : x < ((Tr.node l p r).len : Int) := hc
  clear hvl hvr hp hk h hl hn2 eb k1 k2 ei ej mi mj ihl ihr s0_w
  generalize (cutZ r.bs (x - ((l.len : Int) + (p.b.length : Int))) (y - ((l.len : Int) + (p.b.length : Int)))) = D3 at *
  generalize cutZ p.b (x - l.len) (y - l.len) = D2 at *
  generalize cutZ l.bs x y = D1 at *
  generalize p.b.length = n at *
  generalize p.base = b0 at *
  generalize l.len = e1 at *
  generalize (Tr.node l p r).len = N at *
  have d1 : decide ((N : Int) ≤ x) = false := decide_eq_false (by omega)
  have d2 : decide (y ≤ 0) = false := decide_eq_false (by omega)
  go_enter Tryd.func45, Tryd.ntmps45
  go_wp2_with fail
  refine (HN.out _ H0.out.1).mono ?_
  rintro e w1 ⟨rfl, b_w1⟩
  have H1 := Lib.hid (H0.out.later b_w1)
  have r1 := own_row (any_own H1.out.1 HK.out)
  clear r0_w b_w1
  go_wp2_with fail
  refine (HL.out _ H1.out).mono ?_
  rintro e w2 ⟨rfl, o2⟩
  have H2 := Lib.hid o2
  have r2 := own_row (any_own o2.1 HK.out)
  clear r1 o2
  go_wp2_with fail
  refine (HM1.out _).mono ?_
  rintro e w2' ⟨rfl, rfl⟩
  go_wp2_with fail
  refine (HM2.out _).mono ?_
  rintro e w2' ⟨rfl, rfl⟩
  by_cases hij : i < j
  · obtain ⟨A9, cap9, m1, m2⟩ := HP.out hij
    have M1 := Lib.hid m1
    have d4 : (e1 : Int) + (i : Int) < (e1 : Int) + (j : Int) := by omega
    have d5 : (e1 : Int) + (i : Int) - (e1 : Int) = (i : Int) := by omega
    have d6 : (e1 : Int) + (j : Int) - (e1 : Int) = (j : Int) := by omega
    clear m1
    go_wp2_with fail
    refine (HQ.out _ _ [] H2.out (M1.out.later H2.out.1)).mono ?_
    rintro e w3 ⟨rfl, o3⟩
    have H3 := Lib.hid o3
    have r3 := own_row (any_own o3.1 HK.out)
    clear r2 o3
    go_wp2_with fail
    refine (HR.out _ H3.out).mono ?_
    rintro e w4 ⟨rfl, o4⟩
    have H4 := Lib.hid (HE.out _ o4)
    clear o4
    go_wp2_with fail
    go_end0
    exact ⟨rfl, H4.out⟩
  · have M2 := HP0.out hij
    have H3 : Hid (OutS W X w2 (L ++ D1 ++ D2)) := Lib.hid (by rw [M2, List.append_nil]; exact H2.out)
    have d4 : decide ((e1 : Int) + (i : Int) < (e1 : Int) + (j : Int)) = false := decide_eq_false (by omega)
    have d5 : decide (i < j) = false := decide_eq_false hij
    clear M2 hij
    go_wp2_with fail
    refine (HR.out _ H3.out).mono ?_
    rintro e w4 ⟨rfl, o4⟩
    have H4 := Lib.hid (HE.out _ o4)
    clear o4
    go_wp2_with fail
    go_end0
    exact ⟨rfl, H4.out⟩
theorem each_any (W : World) (X : Nat) (hX : W.heap.size ≤ X) : ∀ t : Tr, EachDo W X t
  | .nil => fun v x y w L hv h _ _ _ _ _ => by
    obtain rfl : v = .pointer none := hv
    have e : cutZ Tr.nil.bs x y = [] := by simp [cutZ, Tr.bs]
    rw [e, List.append_nil]
    exact each_nil W X L x y w h
  | .node l p r => fun v x y w L hv h hl h1 h2 h3 h4 => by
    by_cases hc : ((Tr.node l p r).len : Int) ≤ x ∨ y ≤ 0
    · have e : cutZ (Tr.node l p r).bs x y = [] := cutZ_none (by rw [Tr.len_bs]; omega)
      rw [e, List.append_nil]
      exact each_off W X L l r p v x y w hv h hc
    · exact each_on W X hX l r p (each_any W X hX l) (each_any W X hX r) v x y w L hv h hl h1 h2 h3 h4 (by omega) (by omega)
end Go.Proofs.YtkobnijjahpifaaDoor
namespace Go.Proofs.YtkobnijjahpifaaDoor
set_option linter.unusedSimpArgs false
set_option linter.unusedVariables false
set_option linter.unusedSectionVars false
open Go.RowKit

def isL (t : Tr × Pc) (v : Value) (w : World) : Prop := ∃ u bv fv, v = .tuple #[u, pcV bv fv t.2] ∧ IsT w t.1 u ∧ RIsP w bv fv t.2
end Go.Proofs.YtkobnijjahpifaaDoor
namespace Go.Proofs.YtkobnijjahpifaaDoor
set_option linter.unusedSimpArgs false
set_option linter.unusedVariables false
set_option linter.unusedSectionVars false
open Go.RowKit

/-! ### split -/
def isTT (t : Tr × Tr) (v : Value) (w : World) : Prop := ∃ u1 u2, v = .tuple #[u1, u2] ∧ IsT w t.1 u1 ∧ IsT w t.2 u2
set_option maxRecDepth 100000 in
theorem split_nil (i : Int) (w : World) : Calls Tryd.prog 39 #[.pointer none, .int .i64 i] w (Ans (isTT (.nil, .nil)) w) := by
  go_enter Tryd.func39, Tryd.ntmps39
  go_wp2_with fail
  refine bodyPost_ret (v := .tuple #[.pointer none, .pointer none]) (by simp [results, Tryd.results39, go_sem]) rfl ?_
  exact ⟨_, rfl, AnyLater.refl _, _, _, rfl, rfl, rfl⟩
set_option maxRecDepth 100000 in
set_option maxHeartbeats 1600000 in
theorem split_left (l r : Tr) (p : Pc) (v : Value) (w : World) (i : Nat) (s : Tr × Tr) (t : Tr) (ht : Tr.join s.2 p r = t) (h : IsT w (.node l p r) v) (hF : (Tr.node l p r).Fair) (hn : (Tr.node l p r).len ≤ 90000) (hi : i ≤ l.len)
    (ih : ∀ (u : Value) (w' : World), IsT w' l u → Calls Tryd.prog 39 #[u, .int .i64 (i : Int)] w' (Ans (isTT s) w')) (f2 : s.2.Fair) (hs : s.2.len ≤ l.len) :
    Calls Tryd.prog 39 #[v, .int .i64 (i : Int)] w (Ans (isTT (s.1, t)) w) := by
  have HN := Lib.hid (fun (w' : World) (b : AnyLater w w') => ends_any l r p v w' (h.later b) hn)
  obtain ⟨k, lv, rv, bv, fv, rfl, hk, hl, hr, hp⟩ := h
  obtain ⟨fl, fp, fr⟩ := hF
  have hn2 : l.len + p.b.length + r.len ≤ 90000 := hn
  have HI := Lib.hid (fun (w' : World) (b : AnyLater w w') => ih lv w' (hl.later b))
  have HJ := Lib.hid (fun (w' : World) (u : Value) (b : AnyLater w w') (hu : IsT w' s.2 u) => rjoin_any s.2 r p u rv bv fv w' t ht hu (hr.later b) (hp.later b) f2 fp fr (by omega))
  have HD : Hid (∀ w' u1 u2, IsT w' s.1 u1 → isT t u2 w' → isTT (s.1, t) (.tuple #[u1, u2]) w') := Lib.hid (fun w' u1 u2 h1 h2 => ⟨_, _, rfl, h1, h2⟩)
  have HK := Lib.hid hk
  obtain ⟨A, cap, rfl, -⟩ := hp.1.form
  obtain ⟨A2, cap2, rfl, -⟩ := hp.2.form
  have d1 : (i : Int) ≤ (l.len : Int) := by omega
  have l0 := own_lt hk
  have r0 := own_row hk
  unfold nodeC at HK r0
  unfold pcV at HJ
  clear hl hr hp hk fl fp fr hn hn2 ih ht f2 hs hi
  generalize p.b.length = n at *
  generalize p.fs.length = m at *
  generalize p.base = b0 at *
  generalize l.len = e1 at *
  go_enter Tryd.func39, Tryd.ntmps39
  go_wp2_with fail
  refine (HN.out _ (AnyLater.refl w)).mono ?_
  rintro e w1 ⟨rfl, b_w1⟩
  have a_w1 := b_w1
  have s0_w1 := any_own b_w1 HK.out
  have r0_w1 := own_row s0_w1
  clear r0
  go_wp2_with fail
  refine (HI.out _ a_w1).mono ?_
  rintro e w2 ⟨_, rfl, b_w2, u1, u2, rfl, h1, h2⟩
  have z_w2 := b_w2.below.size
  have a_w2 := a_w1.trans b_w2
  have s0_w2 := any_own b_w2 s0_w1
  have r0_w2 := own_row s0_w2
  have f0_w2 := own_free s0_w2
  have l0_w2 := own_lt s0_w2
  (try clear r0_w1); (try clear f0_w1)
  have HU := Lib.hid (And.intro h1 h2)
  clear h1 h2
  go_wp2_with fail
  apply Wild.wp_region_free (12) [⟨10, 39, undef, true, isT t⟩] [⟨10, 39, isT t⟩] rfl (by kernel_rfl) (by kernel_rfl) (by kernel_rfl) (by simp) (by kernel_rfl)
  case hstab =>
    intro c hc
    simp only [List.mem_cons, List.not_mem_nil, or_false] at hc
    rcases hc with rfl
    · intro v x y hxy hv; exact isT_stays hxy hv
  case hfix =>
    intro c hc
    simp only [List.mem_cons, List.not_mem_nil, or_false] at hc
    rcases hc with rfl
    · exact .inl rfl
  case hlex =>
    intro U hU
    have q0 := own_row (any_own hU s0_w2)
    simp only [List.map_cons, List.map_nil, CA.act, actFrom, actOp, List.lookup, Nat.reduceBEq, Nat.reduceLeDiff, Nat.reduceAdd, if_false, if_true]
    repeat (go_big_quiet_step (fail))
    exact wpQuiet_nil rfl
  case hstep =>
    intro j hj o ho
    have hj2 : j = 0 := by simp at hj; omega
    rcases hj2 with rfl
    · cases ho
      refine ⟨rfl, fun g x hx hp => ?_⟩
      clear hp
      simp only [fillAll, Act.put, List.setIfInBounds_toArray, List.set_cons_zero, List.set_cons_succ]
      refine chain_go ?_ (Wild.free_tells (HJ.out _ _ (a_w2.trans hx) (HU.out.2.later hx)))
      simp [go_sem, execOp]
  case htail =>
    intro g u hst hne
    have b_w3 : AnyLater w2 (later u) := ⟨u, rfl⟩
    generalize later u = w3 at *
    clear u hne
    obtain ⟨p39_w3, -⟩ := hst _ (List.mem_of_getElem? (i := 0) rfl)
    (try dsimp only at p39_w3)
    clear hst
    simp only [fillAll, Act.put, List.setIfInBounds_toArray, List.set_cons_zero, List.set_cons_succ, List.drop_succ_cons, List.drop_zero, List.drop_nil]
    generalize g 10 = v39 at *
    have z_w3 := b_w3.below.size
    have a_w3 := a_w2.trans b_w3
    have s0_w3 := any_own b_w3 s0_w2
    have r0_w3 := own_row s0_w3
    have f0_w3 := own_free s0_w3
    have l0_w3 := own_lt s0_w3
    (try clear r0_w2); (try clear f0_w2)
    go_wp2_with fail
    refine bodyPost_ret (v := .tuple #[u1, v39]) (by simp [results, Tryd.results39, go_sem]) rfl ?_
    exact ⟨_, rfl, a_w3, HD.out _ _ _ (HU.out.1.later b_w3) p39_w3⟩
set_option maxRecDepth 100000 in
set_option maxHeartbeats 1600000 in
theorem split_right (l r : Tr) (p : Pc) (v : Value) (w : World) (i : Nat) (s : Tr × Tr) (t : Tr) (ht : Tr.join l p s.1 = t) (h : IsT w (.node l p r) v) (hF : (Tr.node l p r).Fair) (hn : (Tr.node l p r).len ≤ 90000) (hi : ¬ i ≤ l.len) (hi2 : l.len + p.b.length ≤ i) (hi3 : i ≤ 90000)
    (ih : ∀ (x : Int) (u : Value) (w' : World), x = ((i - (l.len + p.b.length) : Nat) : Int) → IsT w' r u → Calls Tryd.prog 39 #[u, .int .i64 x] w' (Ans (isTT s) w')) (f2 : s.1.Fair) (hs : s.1.len ≤ r.len) :
    Calls Tryd.prog 39 #[v, .int .i64 (i : Int)] w (Ans (isTT (t, s.2)) w) := by
  have HN := Lib.hid (fun (w' : World) (b : AnyLater w w') => ends_any l r p v w' (h.later b) hn)
  obtain ⟨k, lv, rv, bv, fv, rfl, hk, hl, hr, hp⟩ := h
  obtain ⟨fl, fp, fr⟩ := hF
  have hn2 : l.len + p.b.length + r.len ≤ 90000 := hn
  have HI := Lib.hid (fun (w' : World) (b : AnyLater w w') => ih ((i : Int) - ((l.len : Int) + (p.b.length : Int))) rv w' (by omega) (hr.later b))
  have HJ := Lib.hid (fun (w' : World) (u : Value) (b : AnyLater w w') (hu : IsT w' s.1 u) => rjoin_any l s.1 p lv u bv fv w' t ht (hl.later b) hu (hp.later b) fl fp f2 (by omega))
  have HD : Hid (∀ w' u1 u2, isT t u1 w' → IsT w' s.2 u2 → isTT (t, s.2) (.tuple #[u1, u2]) w') := Lib.hid (fun w' u1 u2 h1 h2 => ⟨_, _, rfl, h1, h2⟩)
  have HK := Lib.hid hk
  obtain ⟨A, cap, rfl, -⟩ := hp.1.form
  obtain ⟨A2, cap2, rfl, -⟩ := hp.2.form
  have d1 : decide (i ≤ l.len) = false := decide_eq_false hi
  have d2 : decide ((i : Int) ≤ (l.len : Int)) = false := decide_eq_false (by omega)
  have d3 : (l.len : Int) + (p.b.length : Int) ≤ (i : Int) := by omega
  have b1 : l.len ≤ 90000 := by omega
  have b2 : p.b.length ≤ 90000 := by omega
  have r0 := own_row hk
  unfold nodeC at HK r0
  unfold pcV at HJ
  clear hl hr hp hk fl fp fr hn hn2 ih ht f2 hs hi hi2
  generalize p.b.length = n at *
  generalize p.fs.length = m at *
  generalize p.base = b0 at *
  generalize l.len = e1 at *
  go_enter Tryd.func39, Tryd.ntmps39
  go_wp2_with fail
  refine (HN.out _ (AnyLater.refl w)).mono ?_
  rintro e w1 ⟨rfl, b_w1⟩
  have a_w1 := b_w1
  have s0_w1 := any_own b_w1 HK.out
  have r0_w1 := own_row s0_w1
  clear r0
  go_wp2_with fail
  refine (HI.out _ a_w1).mono ?_
  rintro e w2 ⟨_, rfl, b_w2, u1, u2, rfl, h1, h2⟩
  have z_w2 := b_w2.below.size
  have a_w2 := a_w1.trans b_w2
  have s0_w2 := any_own b_w2 s0_w1
  have r0_w2 := own_row s0_w2
  have f0_w2 := own_free s0_w2
  have l0_w2 := own_lt s0_w2
  (try clear r0_w1); (try clear f0_w1)
  have HU := Lib.hid (And.intro h1 h2)
  clear h1 h2
  go_wp2_with fail
  refine wp_region_early _ 8 4 u1 _ _ (by kernel_rfl) rfl rfl (by kernel_rfl) rfl (by simp only [List.set_cons_succ, List.set_cons_zero]; exact rfl) ?_
  apply Wild.any_free (12) [⟨9, 64, undef, true, isT t⟩, ⟨11, 4, undef, true, isT t⟩] [⟨9, 64, isT t⟩, ⟨11, 4, isT t⟩] rfl (by kernel_rfl) (by kernel_rfl) (by kernel_rfl) (by simp) (by kernel_rfl)
  case hstab =>
    intro c hc
    simp only [List.mem_cons, List.not_mem_nil, or_false] at hc
    rcases hc with rfl | rfl
    · intro v x y hxy hv; exact isT_stays hxy hv
    · intro v x y hxy hv; exact isT_stays hxy hv
  case hfix =>
    intro c hc
    simp only [List.mem_cons, List.not_mem_nil, or_false] at hc
    rcases hc with rfl | rfl
    · exact .inl rfl
    · exact .inl rfl
  case hlex =>
    intro U hU
    have q0 := own_row (any_own hU s0_w2)
    simp only [List.map_cons, List.map_nil, CA.act, actFrom, actOp, List.lookup, Nat.reduceBEq, Nat.reduceLeDiff, Nat.reduceAdd, if_false, if_true]
    repeat (go_big_quiet_step (fail))
    exact wpQuiet_nil rfl
  case hstep =>
    intro j hj o ho
    have hj2 : j = 0 ∨ j = 1 := by simp at hj; omega
    rcases hj2 with rfl | rfl
    · cases ho
      refine ⟨rfl, fun g x hx hp => ?_⟩
      clear hp
      simp only [fillAll, Act.put, List.setIfInBounds_toArray, List.set_cons_zero, List.set_cons_succ]
      refine chain_go ?_ (Wild.free_tells (HJ.out _ _ (a_w2.trans hx) (HU.out.1.later hx)))
      simp [go_sem, execOp]
    · cases ho
      refine ⟨rfl, fun g x hx hp => ?_⟩
      have p64 : (isT t) (g 9) x := hp _ (List.mem_of_getElem? (i := 0) rfl) (List.contains_iff_mem.1 (by kernel_rfl))
      clear hp
      simp only [fillAll, Act.put, List.setIfInBounds_toArray, List.set_cons_zero, List.set_cons_succ]
      refine Wild.free_is (v := g 9) ?_ p64; simp [go_sem, execOp]
  case htail =>
    intro g u hst hne
    have b_w3 : AnyLater w2 (later u) := ⟨u, rfl⟩
    generalize later u = w3 at *
    clear u hne
    obtain ⟨p64_w3, -⟩ := hst _ (List.mem_of_getElem? (i := 0) rfl)
    (try dsimp only at p64_w3)
    obtain ⟨p4_w3, -⟩ := hst _ (List.mem_of_getElem? (i := 1) rfl)
    (try dsimp only at p4_w3)
    clear hst
    simp only [fillAll, Act.put, List.setIfInBounds_toArray, List.set_cons_zero, List.set_cons_succ, List.drop_succ_cons, List.drop_zero, List.drop_nil]
    generalize g 9 = v64 at *
    generalize g 11 = v4 at *
    have z_w3 := b_w3.below.size
    have a_w3 := a_w2.trans b_w3
    have s0_w3 := any_own b_w3 s0_w2
    have r0_w3 := own_row s0_w3
    have f0_w3 := own_free s0_w3
    have l0_w3 := own_lt s0_w3
    (try clear r0_w2); (try clear f0_w2)
    go_wp2_with fail
    refine bodyPost_ret (v := .tuple #[v4, u2]) (by simp [results, Tryd.results39, go_sem]) rfl ?_
    exact ⟨_, rfl, a_w3, HD.out _ _ _ p4_w3 (HU.out.2.later b_w3)⟩
set_option maxRecDepth 100000 in
set_option maxHeartbeats 3200000 in
theorem split_mid (l r : Tr) (p : Pc) (v : Value) (w : World) (i d : Nat) (t1 t2 : Tr) (ht1 : Tr.join l (p.cut 0 d) .nil = t1) (ht2 : Tr.join .nil (p.cut d p.b.length) r = t2) (h : IsT w (.node l p r) v) (hF : (Tr.node l p r).Fair) (hn : (Tr.node l p r).len ≤ 90000) (hi : i = l.len + d) (hd : 0 < d) (hd2 : d < p.b.length) :
    Calls Tryd.prog 39 #[v, .int .i64 (i : Int)] w (Ans (isTT (t1, t2)) w) := by
  have HN := Lib.hid (fun (w' : World) (b : AnyLater w w') => ends_any l r p v w' (h.later b) hn)
  obtain ⟨k, lv, rv, bv, fv, rfl, hk, hl, hr, hp⟩ := h
  obtain ⟨fl, fp, fr⟩ := hF
  have hn2 : l.len + p.b.length + r.len ≤ 90000 := hn
  have g1 : (p.cut 0 d).Fair := fp.cut hd (by omega)
  have g2 : (p.cut d p.b.length).Fair := fp.cut hd2 (Nat.le_refl _)
  have k1 : (p.cut 0 d).b.length ≤ p.b.length := by unfold Pc.cut; simp only [List.length_take, List.length_drop]; omega
  have k2 : (p.cut d p.b.length).b.length ≤ p.b.length := by unfold Pc.cut; simp only [List.length_take, List.length_drop]; omega
  have HC1 := Lib.hid (fun (w' : World) (b : AnyLater w w') => cut_any p bv fv w' 0 ((i : Int) - (l.len : Int)) 0 d rfl (by omega) (by omega) (by omega) (hp.later b) fp)
  have HC2 := Lib.hid (fun (w' : World) (b : AnyLater w w') => cut_any p bv fv w' ((i : Int) - (l.len : Int)) ((l.len : Int) + (p.b.length : Int) - (l.len : Int)) d p.b.length (by omega) (by omega) (by omega) (Nat.le_refl _) (hp.later b) fp)
  have HJ1 : Hid (∀ (w' : World) (u : Value), AnyLater w w' → isPc (p.cut 0 d) u w' → Calls Tryd.prog 40 #[lv, u, .pointer none] w' (Ans (isT t1) w')) := Lib.hid (fun w' u b hu => by
    obtain ⟨x, y, rfl, hu⟩ := hu
    exact rjoin_any l .nil _ lv (.pointer none) x y w' t1 ht1 (hl.later b) rfl hu fl g1 trivial (by simp only [Tr.len]; omega))
  have HJ2 : Hid (∀ (w' : World) (u : Value), AnyLater w w' → isPc (p.cut d p.b.length) u w' → Calls Tryd.prog 40 #[.pointer none, u, rv] w' (Ans (isT t2) w')) := Lib.hid (fun w' u b hu => by
    obtain ⟨x, y, rfl, hu⟩ := hu
    exact rjoin_any .nil r _ (.pointer none) rv x y w' t2 ht2 rfl (hr.later b) hu trivial g2 fr (by simp only [Tr.len]; omega))
  have HD : Hid (∀ w' u1 u2, isT t1 u1 w' → isT t2 u2 w' → isTT (t1, t2) (.tuple #[u1, u2]) w') := Lib.hid (fun w' u1 u2 h1 h2 => ⟨_, _, rfl, h1, h2⟩)
  have HK := Lib.hid hk
  obtain ⟨A, cap, rfl, -⟩ := hp.1.form
  obtain ⟨A2, cap2, rfl, -⟩ := hp.2.form
  have d1 : decide (i ≤ l.len) = false := decide_eq_false (by omega)
  have d2 : decide ((i : Int) ≤ (l.len : Int)) = false := decide_eq_false (by omega)
  have d3 : decide ((l.len : Int) + (p.b.length : Int) ≤ (i : Int)) = false := decide_eq_false (by omega)
  have b1 : l.len ≤ 90000 := by omega
  have b2 : p.b.length ≤ 90000 := by omega
  have b3 : i ≤ 180000 := by omega
  have b4 : l.len ≤ i := by omega
  have r0 := own_row hk
  unfold nodeC at HK r0
  unfold pcV at HC1 HC2
  clear hl hr hp hk fl fp fr hn hn2 ht1 ht2 hi hd hd2 k1 k2 g1 g2
  generalize p.cut 0 d = q1 at *
  generalize p.cut d p.b.length = q2 at *
  generalize p.b.length = n at *
  generalize p.fs.length = m at *
  generalize p.base = b0 at *
  generalize l.len = e1 at *
  go_enter Tryd.func39, Tryd.ntmps39
  go_wp2_with fail
  refine (HN.out _ (AnyLater.refl w)).mono ?_
  rintro e w1 ⟨rfl, b_w1⟩
  have a_w1 := b_w1
  have s0_w1 := any_own b_w1 HK.out
  have r0_w1 := own_row s0_w1
  clear r0
  go_wp2_with fail
  apply Wild.wp_region_free (26) [⟨9, 78, undef, true, isPc q1⟩, ⟨10, 79, undef, true, isT t1⟩, ⟨19, 88, undef, true, isPc q2⟩, ⟨24, 93, undef, true, isT t2⟩, ⟨25, 4, undef, true, isT t1⟩] [⟨9, 78, isPc q1⟩, ⟨10, 79, isT t1⟩, ⟨19, 88, isPc q2⟩, ⟨24, 93, isT t2⟩, ⟨25, 4, isT t1⟩] rfl (by kernel_rfl) (by kernel_rfl) (by kernel_rfl) (by simp) (by kernel_rfl)
  case hstab =>
    intro c hc
    simp only [List.mem_cons, List.not_mem_nil, or_false] at hc
    rcases hc with rfl | rfl | rfl | rfl | rfl
    · intro v x y hxy hv; exact isPc_stays hxy hv
    · intro v x y hxy hv; exact isT_stays hxy hv
    · intro v x y hxy hv; exact isPc_stays hxy hv
    · intro v x y hxy hv; exact isT_stays hxy hv
    · intro v x y hxy hv; exact isT_stays hxy hv
  case hfix =>
    intro c hc
    simp only [List.mem_cons, List.not_mem_nil, or_false] at hc
    rcases hc with rfl | rfl | rfl | rfl | rfl
    · exact .inl rfl
    · exact .inl rfl
    · exact .inl rfl
    · exact .inl rfl
    · exact .inl rfl
  case hlex =>
    intro U hU
    have q0 := own_row (any_own hU s0_w1)
    simp only [List.map_cons, List.map_nil, CA.act, actFrom, actOp, List.lookup, Nat.reduceBEq, Nat.reduceLeDiff, Nat.reduceAdd, if_false, if_true]
    repeat (go_big_quiet_step (fail))
    exact wpQuiet_nil rfl
  case hstep =>
    intro j hj o ho
    have hj2 : j = 0 ∨ j = 1 ∨ j = 2 ∨ j = 3 ∨ j = 4 := by simp at hj; omega
    rcases hj2 with rfl | rfl | rfl | rfl | rfl
    · cases ho
      refine ⟨rfl, fun g x hx hp => ?_⟩
      clear hp
      simp only [fillAll, Act.put, List.setIfInBounds_toArray, List.set_cons_zero, List.set_cons_succ]
      refine chain_go ?_ (Wild.free_tells (HC1.out _ (a_w1.trans hx)))
      simp [go_sem, execOp]
    · cases ho
      refine ⟨rfl, fun g x hx hp => ?_⟩
      have p78 : (isPc q1) (g 9) x := hp _ (List.mem_of_getElem? (i := 0) rfl) (List.contains_iff_mem.1 (by kernel_rfl))
      clear hp
      simp only [fillAll, Act.put, List.setIfInBounds_toArray, List.set_cons_zero, List.set_cons_succ]
      refine chain_go ?_ (Wild.free_tells (HJ1.out _ _ (a_w1.trans hx) p78))
      simp [go_sem, execOp]
    · cases ho
      refine ⟨rfl, fun g x hx hp => ?_⟩
      clear hp
      simp only [fillAll, Act.put, List.setIfInBounds_toArray, List.set_cons_zero, List.set_cons_succ]
      refine chain_go ?_ (Wild.free_tells (HC2.out _ (a_w1.trans hx)))
      simp [go_sem, execOp]
    · cases ho
      refine ⟨rfl, fun g x hx hp => ?_⟩
      have p88 : (isPc q2) (g 19) x := hp _ (List.mem_of_getElem? (i := 2) rfl) (List.contains_iff_mem.1 (by kernel_rfl))
      clear hp
      simp only [fillAll, Act.put, List.setIfInBounds_toArray, List.set_cons_zero, List.set_cons_succ]
      refine chain_go ?_ (Wild.free_tells (HJ2.out _ _ (a_w1.trans hx) p88))
      simp [go_sem, execOp]
    · cases ho
      refine ⟨rfl, fun g x hx hp => ?_⟩
      have p79 : (isT t1) (g 10) x := hp _ (List.mem_of_getElem? (i := 1) rfl) (List.contains_iff_mem.1 (by kernel_rfl))
      clear hp
      simp only [fillAll, Act.put, List.setIfInBounds_toArray, List.set_cons_zero, List.set_cons_succ]
      refine Wild.free_is (v := g 10) ?_ p79; simp [go_sem, execOp]
  case htail =>
    intro g u hst hne
    have b_w3 : AnyLater w1 (later u) := ⟨u, rfl⟩
    generalize later u = w3 at *
    clear u hne
    obtain ⟨p78_w3, -⟩ := hst _ (List.mem_of_getElem? (i := 0) rfl)
    (try dsimp only at p78_w3)
    obtain ⟨p79_w3, -⟩ := hst _ (List.mem_of_getElem? (i := 1) rfl)
    (try dsimp only at p79_w3)
    obtain ⟨p88_w3, -⟩ := hst _ (List.mem_of_getElem? (i := 2) rfl)
    (try dsimp only at p88_w3)
    obtain ⟨p93_w3, -⟩ := hst _ (List.mem_of_getElem? (i := 3) rfl)
    (try dsimp only at p93_w3)
    obtain ⟨p4_w3, -⟩ := hst _ (List.mem_of_getElem? (i := 4) rfl)
    (try dsimp only at p4_w3)
    clear hst
    simp only [fillAll, Act.put, List.setIfInBounds_toArray, List.set_cons_zero, List.set_cons_succ, List.drop_succ_cons, List.drop_zero, List.drop_nil]
    generalize g 9 = v78 at *
    generalize g 10 = v79 at *
    generalize g 19 = v88 at *
    generalize g 24 = v93 at *
    generalize g 25 = v4 at *
    have z_w3 := b_w3.below.size
    have a_w3 := a_w1.trans b_w3
    have s0_w3 := any_own b_w3 s0_w1
    have r0_w3 := own_row s0_w3
    have f0_w3 := own_free s0_w3
    have l0_w3 := own_lt s0_w3
    (try clear r0_w1); (try clear f0_w1)
    go_wp2_with fail
    refine bodyPost_ret (v := .tuple #[v4, v93]) (by simp [results, Tryd.results39, go_sem]) rfl ?_
    exact ⟨_, rfl, a_w3, HD.out _ _ _ p4_w3 p93_w3⟩
/-- what lies ahead of a place, and what behind -/
theorem rsplit_any : ∀ (t : Tr) (i : Nat) (x : Int) (v : Value) (w : World), x = (i : Int) → IsT w t v → t.Fair → t.len ≤ 90000 → i ≤ 90000 → Calls Tryd.prog 39 #[v, .int .i64 x] w (Ans (isTT (Tr.split t i)) w)
  | .nil, i, x, v, w, hx, h, _, _, _ => by
    obtain rfl : v = .pointer none := h
    exact split_nil x w
  | .node l p r, i, x, v, w, hx, h, hF, hn, hi => by
    subst hx
    have hn2 : l.len + p.b.length + r.len ≤ 90000 := hn
    unfold Tr.split
    split
    · rename_i c1
      have hl := (Tr.len_split l i c1).2
      exact split_left l r p v w i (Tr.split l i) _ rfl h hF hn c1 (fun u w' hu => rsplit_any l i _ u w' rfl hu hF.1 (by omega) hi) (Tr.fair_split l i hF.1).2 (by omega)
    · rename_i c1
      split
      · rename_i c2
        have hb := (Tr.bs_split r (i - (l.len + p.b.length))).1
        have hl := congrArg List.length hb
        rw [List.length_take, Tr.len_bs, Tr.len_bs] at hl
        exact split_right l r p v w i (Tr.split r (i - (l.len + p.b.length))) _ rfl h hF hn c1 c2 hi (fun x u w' hx hu => rsplit_any r _ x u w' hx hu hF.2.2 (by omega) (by omega)) (Tr.fair_split r _ hF.2.2).1 (by omega)
      · rename_i c2
        exact split_mid l r p v w i (i - l.len) _ _ rfl rfl h hF hn (by omega) (by omega) (by omega)
end Go.Proofs.YtkobnijjahpifaaDoor
namespace Go.Proofs.YtkobnijjahpifaaDoor
set_option linter.unusedSimpArgs false
set_option linter.unusedVariables false
set_option linter.unusedSectionVars false
open Go.RowKit

/-- the rope at g, of up to so many bytes, is this tree -/
def IsR (w : World) (g : Nat) (most : Int) (t : Tr) : Prop := ∃ rv, w.heap[g]? = some (.cells #[rv, .int .i64 most] 53) ∧ IsT w t rv
theorem IsR.later {w w' : World} {g : Nat} {most : Int} {t : Tr} (h : IsR w g most t) (ha : AnyLater w w') : IsR w' g most t := by
  obtain ⟨rv, h1, h2⟩ := h
  exact ⟨rv, any_own ha h1, IsT.later ha h2⟩
/-- a tree as a rope keeps it -/
structure Tr.Ok (t : Tr) : Prop where
  fair : t.Fair
  even : t.Even
  len : t.len ≤ 60000
set_option maxRecDepth 100000 in
theorem rnoted_any (g : Nat) (most : Int) (t : Tr) (w : World) (h : IsR w g most t) : Calls Tryd.prog 42 #[.pointer (some ⟨g, 0, none⟩)] w fun e w' => e = .returned (sumV t) ∧ AnyLater w w' := by
  obtain ⟨rv, hg, ht⟩ := h
  have HN := Lib.hid (fun (w' : World) (b : AnyLater w w') => noted_any t rv w' (ht.later b))
  obtain ⟨q, rfl⟩ := ht.ptr
  unfold sumV at HN ⊢
  have lg := own_lt hg
  have ng : w.heap.size ≠ g := by omega
  have r0 := own_row hg
  have HG := Lib.hid hg
  clear ht hg
  generalize t.len = a1 at *
  generalize t.nf = a2 at *
  generalize t.np = a3 at *
  generalize t.lev = a4 at *
  go_enter Tryd.func42, Tryd.ntmps42
  go_wp2_with fail
  have s0 : (w.alloc (.cells #[.int .i64 0, .int .i64 0, .int .i64 0, .int .i64 0] 74)).heap[w.heap.size]? = some (.cells #[.int .i64 0, .int .i64 0, .int .i64 0, .int .i64 0] 74) := heap_new rfl
  refine (HN.out _ (by repeat' (first | with_reducible assumption | with_reducible exact AnyLater.refl _ | with_reducible apply AnyLater.setCell | with_reducible apply AnyLater.later | with_reducible apply AnyLater.drewN | with_reducible apply AnyLater.drew | with_reducible apply AnyLater.alloc | ((try simp only [World.size_alloc, World.size_setCell, World.size_drew]); (try dsimp only); omega)))).mono ?_
  rintro e w2 ⟨rfl, b2⟩
  have s2 := any_own b2 s0
  have r2 := own_row s2
  have f2 := own_free s2
  have aw : AnyLater w w2 := AnyLater.trans (by repeat' (first | with_reducible assumption | with_reducible exact AnyLater.refl _ | with_reducible apply AnyLater.setCell | with_reducible apply AnyLater.later | with_reducible apply AnyLater.drewN | with_reducible apply AnyLater.drew | with_reducible apply AnyLater.alloc | ((try simp only [World.size_alloc, World.size_setCell, World.size_drew]); (try dsimp only); omega))) b2
  clear s0 b2 r0
  go_wp2_with fail
  refine bodyPost_ret (v := .agg #[.int .i64 (a1 : Int), .int .i64 (a2 : Int), .int .i64 (a3 : Int), .int .i64 (a4 : Int)]) (by simp [results, Tryd.results42, go_sem, *]) rfl ⟨rfl, ?_⟩
  repeat' (first | with_reducible assumption | with_reducible exact AnyLater.refl _ | with_reducible apply AnyLater.setCell | with_reducible apply AnyLater.later | with_reducible apply AnyLater.drewN | with_reducible apply AnyLater.drew | with_reducible apply AnyLater.alloc | ((try simp only [World.size_alloc, World.size_setCell, World.size_drew]); (try dsimp only); omega))
theorem rnoted_nil (w : World) : Calls Tryd.prog 42 #[.pointer none] w fun e w' => e = .returned (sumV .nil) ∧ AnyLater w w' := by
  go_enter Tryd.func42, Tryd.ntmps42
  go_wp2_with fail
  refine bodyPost_ret (v := sumV .nil) (by simp [results, Tryd.results42, go_sem, sumV, Tr.len, Tr.nf, Tr.np, Tr.lev]) rfl ⟨rfl, ?_⟩
  repeat' (first | with_reducible assumption | with_reducible exact AnyLater.refl _ | with_reducible apply AnyLater.setCell | with_reducible apply AnyLater.later | with_reducible apply AnyLater.drewN | with_reducible apply AnyLater.drew | with_reducible apply AnyLater.alloc | ((try simp only [World.size_alloc, World.size_setCell, World.size_drew]); (try dsimp only); omega))
/-- a rope, or none: what it is taken for where it is asked how much it is -/
def IsRN (w : World) (v : Value) (t : Tr) : Prop := (v = .pointer none ∧ t = .nil) ∨ ∃ g most, v = .pointer (some ⟨g, 0, none⟩) ∧ IsR w g most t
theorem IsRN.later {w w' : World} {v : Value} {t : Tr} (h : IsRN w v t) (ha : AnyLater w w') : IsRN w' v t := by
  rcases h with h | ⟨g, most, e, h⟩
  · exact .inl h
  · exact .inr ⟨g, most, e, h.later ha⟩
theorem rnote_any (v : Value) (t : Tr) (w : World) (h : IsRN w v t) : Calls Tryd.prog 42 #[v] w fun e w' => e = .returned (sumV t) ∧ AnyLater w w' := by
  rcases h with ⟨rfl, rfl⟩ | ⟨g, most, rfl, h⟩
  · exact rnoted_nil w
  · exact rnoted_any g most t w h
set_option maxRecDepth 100000 in
theorem rlen_any (v : Value) (t : Tr) (w : World) (h : IsRN w v t) : Calls Tryd.prog 28 #[v] w fun e w' => e = .returned (.int .i64 (t.len : Int)) ∧ AnyLater w w' := by
  have HN := Lib.hid (rnote_any v t w h)
  unfold sumV at HN
  have f0 := fld0
  clear h
  go_enter Tryd.func28, Tryd.ntmps28
  go_wp2_with fail
  refine HN.out.mono ?_
  rintro e w2 ⟨rfl, b2⟩
  go_wp2_with fail
  go_ret
  exact ⟨rfl, b2⟩
end Go.Proofs.YtkobnijjahpifaaDoor
namespace Go.Proofs.YtkobnijjahpifaaDoor
set_option linter.unusedSimpArgs false
set_option linter.unusedVariables false
set_option linter.unusedSectionVars false
open Go.RowKit

/-- all blocks stay as they were, but for one; more may have been made -/
structure But (g : Nat) (w w' : World) : Prop where
  os : w'.os = w.os
  tape : w'.tape = w.tape
  output : w'.output = w.output
  size : w.heap.size ≤ w'.heap.size
  block : ∀ k, k < w.heap.size → k ≠ g → w'.heap[k]? = w.heap[k]?
theorem But.of {g : Nat} {w w' : World} (h : AnyLater w w') : But g w w' := ⟨h.below.os, h.below.tape, h.below.output, h.below.size, fun k hk _ => h.below.block k hk⟩
theorem But.trans {g : Nat} {a b c : World} (h : But g a b) (k : But g b c) : But g a c :=
  ⟨k.os.trans h.os, k.tape.trans h.tape, k.output.trans h.output, Nat.le_trans h.size k.size, fun i hi hn => (k.block i (Nat.lt_of_lt_of_le hi h.size) hn).trans (h.block i hi hn)⟩
theorem But.setCell {g : Nat} {w w' : World} (h : But g w w') (i : Nat) (v : Value) : But g w (w'.setCell ⟨g, i, none⟩ v) :=
  ⟨h.os, h.tape, h.output, by rw [World.size_setCell]; exact h.size, fun k hk hn => (heap_far hn (h.block k hk hn))⟩
theorem But.any {W : World} {g : Nat} {w w' : World} (hW : AnyLater W w) (hg : W.heap.size ≤ g) (h : But g w w') : AnyLater W w' :=
  .of ⟨h.os.trans hW.below.os, h.tape.trans hW.below.tape, h.output.trans hW.below.output, Nat.le_trans hW.below.size h.size,
    fun k hk => (h.block k (Nat.lt_of_lt_of_le hk hW.below.size) (fun e => by omega)).trans (hW.below.block k hk)⟩
theorem But.own {g : Nat} {w w' : World} {k : Nat} {o : Obj} (h : But g w w') (hk : w.heap[k]? = some o) (hne : k ≠ g) : w'.heap[k]? = some o := (h.block k (own_lt hk) hne).trans hk
theorem RT.but {k : IntKind} {t s : TypeId} {w w' : World} {v : Value} {l : List Int} {g : Nat} {cs : Array Value} {m : Nat × Nat} (h : RT k t w v l) (hb : But g w w') (hg : w.heap[g]? = some (.cells cs s m)) (hne : s ≠ t) : RT k t w' v l := by
  obtain ⟨A, cap, h1, h2, h3⟩ := h
  refine ⟨A, cap, h1, h2, fun h0 => ?_⟩
  obtain ⟨b, off, c2, m2, e, hbb, hc⟩ := h3 h0
  refine ⟨b, off, c2, m2, e, hb.own hbb (fun e2 => ?_), hc⟩
  rw [e2, hg] at hbb
  cases hbb
  exact hne rfl
theorem IsT.but {w w' : World} {g : Nat} {cs : Array Value} {s : TypeId} {m : Nat × Nat} (hb : But g w w') (hg : w.heap[g]? = some (.cells cs s m)) (h8 : s ≠ 5) (h3 : s ≠ 21) (hn : s ≠ 87) :
    ∀ {t : Tr} {v : Value}, IsT w t v → IsT w' t v
  | .nil, _, h => h
  | .node l p r, v, h => by
    obtain ⟨k, lv, rv, bv, fv, q1, q2, q3, q4, q5⟩ := h
    refine ⟨k, lv, rv, bv, fv, q1, hb.own q2 (fun e => ?_), IsT.but hb hg h8 h3 hn q3, IsT.but hb hg h8 h3 hn q4, q5.1.but hb hg h8, q5.2.but hb hg h3⟩
    rw [e, hg] at q2
    cases q2
    exact hn rfl

/-! ### a part -/
/-- a slice of bytes -/
def isB (l : List Int) (v : Value) (w : World) : Prop := RT .u8 5 w v l
theorem isB_stays {l : List Int} {v : Value} {w w' : World} (h : AnyLater w w') (s : isB l v w) : isB l v w' := RT.later s h
theorem cutZ_else {l : List Int} {f t : Int} {i j : Nat} (mi : (i : Int) = midZ f 0 l.length) (mj : (j : Int) = midZ t 0 l.length) (hij : ¬ i < j) : cutZ l f t = [] := by
  unfold cutZ
  apply List.drop_of_length_le
  rw [List.length_take]
  unfold midZ at mi mj
  split at mi <;> (try split at mi) <;> split at mj <;> (try split at mj) <;> omega
theorem info_bs : (Tryd.prog.info? 22).map (fun i => (i.zero, i.size, i.bytes)) = some (some (.slice none 0 0), 1, 24) := by kernel_rfl
set_option maxRecDepth 100000 in
theorem rpart_none (v : Value) (t : Tr) (x y : Int) (i j : Nat) (w : World) (h : IsRN w v t) (mi : midZ x 0 (t.len : Int) = (i : Int)) (mj : midZ y 0 (t.len : Int) = (j : Int)) (hij : ¬ i < j) :
    Calls Tryd.prog 31 #[v, .int .i64 x, .int .i64 y] w (Ans (isB []) w) := by
  have HL := Lib.hid (fun (w' : World) (b : AnyLater w w') => rlen_any v t w' (h.later b))
  have HM1 := Lib.hid (fun w' => rclamp_any x 0 t.len w' _ mi)
  have HM2 := Lib.hid (fun w' => rclamp_any y 0 t.len w' _ mj)
  have d1 : (j : Int) ≤ (i : Int) := by omega
  clear h mi mj
  generalize t.len = n at *
  go_enter Tryd.func31, Tryd.ntmps31
  go_wp2_with fail
  refine (HL.out _ (AnyLater.refl _)).mono ?_
  rintro e w2 ⟨rfl, b2⟩
  have B2 := Lib.hid b2
  clear b2
  go_wp2_with fail
  refine (HM1.out _).mono ?_
  rintro e w2' ⟨rfl, rfl⟩
  go_wp2_with fail
  refine (HL.out _ B2.out).mono ?_
  rintro e w3 ⟨rfl, b3⟩
  have B3 := Lib.hid (B2.out.trans b3)
  clear b3
  go_wp2_with fail
  refine (HM2.out _).mono ?_
  rintro e w3' ⟨rfl, rfl⟩
  go_wp2_with fail
  go_ret
  exact ⟨_, rfl, B3.out, RT.nil _⟩
set_option maxRecDepth 100000 in
set_option maxHeartbeats 1600000 in
theorem rpart_some (g : Nat) (most : Int) (t : Tr) (x y : Int) (i c : Nat) (w : World) (h : IsR w g most t) (ok : t.Ok) (mi : midZ x 0 (t.len : Int) = (i : Int)) (mj : midZ y 0 (t.len : Int) = ((i + c : Nat) : Int)) (hi : i + c ≤ t.len) (hc : 0 < c) :
    Calls Tryd.prog 31 #[.pointer (some ⟨g, 0, none⟩), .int .i64 x, .int .i64 y] w (Ans (isB (cutZ t.bs i ((i : Int) + (c : Int)))) w) := by
  have hlen := ok.len
  have HL := Lib.hid (fun (w' : World) (b : AnyLater w w') => rlen_any _ t w' (.inr ⟨g, most, rfl, h.later b⟩))
  have HM1 := Lib.hid (fun w' => rclamp_any x 0 t.len w' _ mi)
  have HM2 := Lib.hid (fun w' => rclamp_any y 0 t.len w' _ mj)
  obtain ⟨rv, hg, ht⟩ := h
  have HE := Lib.hid (fun (X : Nat) (w' : World) (hX : w.heap.size ≤ X) (hw : OutS w X w' []) => each_any w X hX t rv (i : Int) ((i : Int) + (c : Int)) w' [] ht hw (by simp only [List.length_nil]; omega) (by omega) (by omega) (by omega) (by omega))
  have hm0 := run_make_room (P := Tryd.prog) 22 5 (.int .u8 0) 1 Tryd.underlying22 info_u8 rfl .i64 .i64 c (by omega) (by omega)
  obtain ⟨q, rfl⟩ := ht.ptr
  have HG := Lib.hid hg
  have d1 : decide ((i : Int) + (c : Int) ≤ (i : Int)) = false := decide_eq_false (by omega)
  have d2 : decide (c = 0) = false := decide_eq_false (by omega)
  have d3 : (i : Int) + (c : Int) - (i : Int) = (c : Int) := by omega
  have i9 : i ≤ 60000 := by omega
  have c9 : c ≤ 60000 := by omega
  clear ht ok mi mj hg
  generalize t.len = n at *
  go_enter Tryd.func31, Tryd.ntmps31
  go_wp2_with fail
  refine (HL.out _ (AnyLater.refl _)).mono ?_
  rintro e w2 ⟨rfl, b2⟩
  have B2 := Lib.hid b2
  clear b2
  go_wp2_with fail
  refine (HM1.out _).mono ?_
  rintro e w2' ⟨rfl, rfl⟩
  go_wp2_with fail
  refine (HL.out _ B2.out).mono ?_
  rintro e w3 ⟨rfl, b3⟩
  have B3 := Lib.hid (B2.out.trans b3)
  have s3 := any_own B3.out HG.out
  have r3 := own_row s3
  have l3 := own_lt s3
  clear b3 s3
  go_wp2_with fail
  refine (HM2.out _).mono ?_
  rintro e w3' ⟨rfl, rfl⟩
  go_wp2_with fail
  refine (HE.out _ _ ?_ ⟨?_, _, heap_new (by simp), ⟨rfl, .inr ⟨w3.heap.size, c, madeCells #[.int .u8 0] c, rfl, ?_, heap_old (by simp) (heap_new rfl), Nat.zero_le _, by unfold maxLen; omega, by rw [size_madeCells, Nat.mul_one], rfl⟩⟩⟩).mono ?_
  · have := B3.out.below.size; omega
  · have b3 := B3.out
    repeat' (first | with_reducible assumption | with_reducible exact AnyLater.refl _ | with_reducible apply AnyLater.setCell | with_reducible apply AnyLater.later | with_reducible apply AnyLater.drewN | with_reducible apply AnyLater.drew | with_reducible apply AnyLater.alloc | ((try simp only [World.size_alloc, World.size_setCell, World.size_drew]); (try dsimp only); omega))
  · exact B3.out.below.size
  rintro e w4 ⟨rfl, hW, ov, hx, ho⟩
  rw [List.nil_append] at ho
  have H4 := Lib.hid (And.intro hW ho.rt)
  obtain ⟨A, cap, rfl, -⟩ := ho.form
  have r4 := own_row hx
  clear hW hx ho r3
  go_wp2_with fail
  go_ret
  exact ⟨_, rfl, H4.out.1, H4.out.2⟩
/-- the bytes from one place on, ahead of another one -/
theorem rpart_any (v : Value) (t : Tr) (x y : Int) (l : List Int) (hl : cutZ t.bs x y = l) (w : World) (h : IsRN w v t) (ok : t.Ok) :
    Calls Tryd.prog 31 #[v, .int .i64 x, .int .i64 y] w (Ans (isB l) w) := by
  subst hl
  obtain ⟨i, ei, hi, mi⟩ := midZ_cast x 0 t.len
  obtain ⟨j, ej, hj, mj⟩ := midZ_cast y 0 t.len
  simp only [Nat.zero_add, Int.natCast_zero, Int.sub_zero] at ei ej mi mj
  rw [← Tr.len_bs] at mi mj
  by_cases hij : i < j
  · obtain ⟨c, rfl⟩ : ∃ c, j = i + c := ⟨j - i, by omega⟩
    rcases h with ⟨rfl, rfl⟩ | ⟨g, most, rfl, h⟩
    · simp only [Tr.len] at hj; omega
    · have e : cutZ t.bs x y = cutZ t.bs (i : Int) ((i : Int) + (c : Int)) := by
        rw [cutZ_some mi mj hij]
        unfold cutZ
        rw [show ((i : Int) + (c : Int)).toNat = i + c by omega, Int.toNat_natCast, List.drop_take]
      rw [e]
      exact rpart_some g most t x y i c w h ok ei ej hj (by omega)
  · rw [cutZ_else mi mj hij]
    exact rpart_none v t x y i j w h ei ej hij

/-! ### bytes put in -/
set_option maxRecDepth 100000 in
theorem rins_nil (x : Int) (u : Value) (w : World) : Calls Tryd.prog 25 #[.pointer none, .int .i64 x, u] w fun e w' => e = .returned (.int .i64 1) ∧ AnyLater w w' := by
  go_enter Tryd.func25, Tryd.ntmps25
  go_wp2_with fail
  go_ret
  exact ⟨rfl, AnyLater.refl _⟩
set_option maxRecDepth 100000 in
theorem rins_bad (g : Nat) (most : Int) (t : Tr) (x : Int) (u : Value) (w : World) (h : IsR w g most t) (hx : x < 0 ∨ (t.len : Int) < x) :
    Calls Tryd.prog 25 #[.pointer (some ⟨g, 0, none⟩), .int .i64 x, u] w fun e w' => e = .returned (.int .i64 1) ∧ AnyLater w w' := by
  have HL := Lib.hid (rlen_any _ t w (.inr ⟨g, most, rfl, h⟩))
  clear h
  generalize t.len = n at *
  by_cases h1 : x < 0
  · clear hx
    go_enter Tryd.func25, Tryd.ntmps25
    go_wp2_with fail
    go_ret
    exact ⟨rfl, AnyLater.refl _⟩
  · have h2 : (n : Int) < x := by omega
    have d1 : decide (x < 0) = false := decide_eq_false h1
    clear hx h1
    go_enter Tryd.func25, Tryd.ntmps25
    go_wp2_with fail
    refine HL.out.mono ?_
    rintro e w2 ⟨rfl, b2⟩
    go_wp2_with fail
    go_ret
    exact ⟨rfl, b2⟩
set_option maxRecDepth 100000 in
theorem rins_full (g : Nat) (most : Int) (t : Tr) (i m : Nat) (A : Option Addr) (cap : Nat) (w : World) (h : IsR w g most t) (ok : t.Ok) (hi : i ≤ t.len) (hm : most - t.len < m) (hmost : 0 ≤ most ∧ most ≤ 16777216) :
    Calls Tryd.prog 25 #[.pointer (some ⟨g, 0, none⟩), .int .i64 (i : Int), .slice A m cap] w fun e w' => e = .returned (.int .i64 2) ∧ AnyLater w w' := by
  have HL := Lib.hid (fun (w' : World) (b : AnyLater w w') => rlen_any _ t w' (.inr ⟨g, most, rfl, h.later b⟩))
  have hlen := ok.len
  obtain ⟨rv, hg, ht⟩ := h
  have HG := Lib.hid hg
  obtain ⟨h1, h2⟩ := hmost
  have d1 : decide ((i : Int) < 0) = false := decide_eq_false (by omega)
  have d2 : decide ((t.len : Int) < (i : Int)) = false := decide_eq_false (by omega)
  have d3 : decide (t.len < i) = false := decide_eq_false (by omega)
  clear ht hg ok hi
  generalize t.len = n at *
  go_enter Tryd.func25, Tryd.ntmps25
  go_wp2_with fail
  refine (HL.out _ (AnyLater.refl _)).mono ?_
  rintro e w1 ⟨rfl, b_w1⟩
  have a_w1 := b_w1
  have s0_w1 := any_own a_w1 HG.out
  go_wp2_with fail
  apply wp_region_mem (10) [] (by kernel_rfl) (by kernel_rfl) (by simp)
  case hstab =>
    intro e he v x y hxy hv
    simp only [List.mem_cons, List.not_mem_nil, or_false] at he
  case hlex =>
    intro U
    have q0 := fun (v : Later (later U)) => own_row (any_own ⟨v, rfl⟩ (any_own ⟨U, rfl⟩ s0_w1))
    simp only [absFrom, absOp, idx, List.map_cons, List.map_nil, List.contains_cons, List.contains_nil, Nat.reduceBEq, Bool.or_false, Bool.false_or, Bool.true_or, Bool.or_true, Bool.false_eq_true, Nat.reduceLeDiff, Nat.reduceAdd, if_false, if_true]
    repeat (go_big_quiet_step ((go_at_call 28; exact in_later (HL.out _ (by repeat' (first | with_reducible assumption | with_reducible exact AnyLater.refl _ | with_reducible apply AnyLater.setCell | with_reducible apply AnyLater.later | with_reducible apply AnyLater.drewN | with_reducible apply AnyLater.drew | with_reducible apply AnyLater.alloc | ((try simp only [World.size_alloc, World.size_setCell, World.size_drew]); (try dsimp only); omega)))))))
    exact wpQuiet_nil rfl
  case hown =>
    intro e he o ho
    simp only [List.mem_cons, List.not_mem_nil, or_false] at he
  case htail =>
    intro g u hst hne
    have b_w2 : AnyLater w1 (later u) := ⟨u, rfl⟩
    generalize later u = w2 at *
    clear u
    clear hst hne
    simp only [fillAll, Act.put, List.setIfInBounds_toArray, List.set_cons_zero, List.set_cons_succ, List.drop_succ_cons, List.drop_zero]
    have z_w2 := b_w2.below.size
    have a_w2 := a_w1.trans b_w2
    have s0_w2 := any_own b_w2 s0_w1
    have r0_w2 := own_row s0_w2
    have f0_w2 := own_free s0_w2
    have l0_w2 := own_lt s0_w2
    (try clear r0_w1); (try clear f0_w1)
    go_wp2_with fail
    go_ret
    exact ⟨rfl, a_w2⟩
set_option maxRecDepth 100000 in
theorem rins_none (g : Nat) (most : Int) (t : Tr) (i : Nat) (A : Option Addr) (cap : Nat) (w : World) (h : IsR w g most t) (ok : t.Ok) (hi : i ≤ t.len) (hm : (t.len : Int) ≤ most) (hmost : 0 ≤ most ∧ most ≤ 16777216) :
    Calls Tryd.prog 25 #[.pointer (some ⟨g, 0, none⟩), .int .i64 (i : Int), .slice A 0 cap] w fun e w' => e = .returned (.int .i64 0) ∧ AnyLater w w' := by
  have HL := Lib.hid (fun (w' : World) (b : AnyLater w w') => rlen_any _ t w' (.inr ⟨g, most, rfl, h.later b⟩))
  have hlen := ok.len
  obtain ⟨rv, hg, ht⟩ := h
  have HG := Lib.hid hg
  obtain ⟨h1, h2⟩ := hmost
  have d1 : decide ((i : Int) < 0) = false := decide_eq_false (by omega)
  have d2 : decide ((t.len : Int) < (i : Int)) = false := decide_eq_false (by omega)
  have d3 : decide (t.len < i) = false := decide_eq_false (by omega)
  have d4 : decide (most - (t.len : Int) < 0) = false := decide_eq_false (by omega)
  clear ht hg ok hi
  generalize t.len = n at *
  go_enter Tryd.func25, Tryd.ntmps25
  go_wp2_with fail
  refine (HL.out _ (AnyLater.refl _)).mono ?_
  rintro e w1 ⟨rfl, b_w1⟩
  have a_w1 := b_w1
  have s0_w1 := any_own a_w1 HG.out
  go_wp2_with fail
  apply wp_region_mem (10) [] (by kernel_rfl) (by kernel_rfl) (by simp)
  case hstab =>
    intro e he v x y hxy hv
    simp only [List.mem_cons, List.not_mem_nil, or_false] at he
  case hlex =>
    intro U
    have q0 := fun (v : Later (later U)) => own_row (any_own ⟨v, rfl⟩ (any_own ⟨U, rfl⟩ s0_w1))
    simp only [absFrom, absOp, idx, List.map_cons, List.map_nil, List.contains_cons, List.contains_nil, Nat.reduceBEq, Bool.or_false, Bool.false_or, Bool.true_or, Bool.or_true, Bool.false_eq_true, Nat.reduceLeDiff, Nat.reduceAdd, if_false, if_true]
    repeat (go_big_quiet_step ((go_at_call 28; exact in_later (HL.out _ (by repeat' (first | with_reducible assumption | with_reducible exact AnyLater.refl _ | with_reducible apply AnyLater.setCell | with_reducible apply AnyLater.later | with_reducible apply AnyLater.drewN | with_reducible apply AnyLater.drew | with_reducible apply AnyLater.alloc | ((try simp only [World.size_alloc, World.size_setCell, World.size_drew]); (try dsimp only); omega)))))))
    exact wpQuiet_nil rfl
  case hown =>
    intro e he o ho
    simp only [List.mem_cons, List.not_mem_nil, or_false] at he
  case htail =>
    intro g u hst hne
    have b_w2 : AnyLater w1 (later u) := ⟨u, rfl⟩
    generalize later u = w2 at *
    clear u
    clear hst hne
    simp only [fillAll, Act.put, List.setIfInBounds_toArray, List.set_cons_zero, List.set_cons_succ, List.drop_succ_cons, List.drop_zero]
    have z_w2 := b_w2.below.size
    have a_w2 := a_w1.trans b_w2
    have s0_w2 := any_own b_w2 s0_w1
    have r0_w2 := own_row s0_w2
    have f0_w2 := own_free s0_w2
    have l0_w2 := own_lt s0_w2
    (try clear r0_w1); (try clear f0_w1)
    go_wp2_with fail
    go_ret
    exact ⟨rfl, a_w2⟩
/-- what a text is behind bytes are put in -/
def insT (t : Tr) (i : Nat) (b : List Int) : Tr := Tr.join (Tr.split t i).1 ⟨b, 0⟩ (Tr.split t i).2
theorem insT_bs (t : Tr) (i : Nat) (b : List Int) : (insT t i b).bs = t.bs.take i ++ (b ++ t.bs.drop i) := by
  unfold insT
  obtain ⟨h1, h2⟩ := Tr.bs_split t i
  rw [Tr.bs_join, h1, h2]
theorem insT_ok {t : Tr} {i : Nat} {b : List Int} (ok : t.Ok) (hi : i ≤ t.len) (h0 : 0 < b.length) (hb : Bytes b) (hl : t.len + b.length ≤ 60000) : (insT t i b).Ok := by
  obtain ⟨f1, f2⟩ := Tr.fair_split t i ok.fair
  obtain ⟨e1, e2⟩ := Tr.even_split t i ok.even
  refine ⟨Tr.fair_join f1 ⟨h0, Int.le_refl _, by simp only; omega, hb⟩ f2, Tr.even_join _ _ _ e1 e2, ?_⟩
  rw [← Tr.len_bs, insT_bs, List.length_append, List.length_append, List.length_take, List.length_drop, Tr.len_bs]; omega
set_option maxRecDepth 100000 in
set_option maxHeartbeats 1600000 in
theorem rins_yes (g : Nat) (most : Int) (t : Tr) (i : Nat) (u : Value) (b : List Int) (w : World) (h : IsR w g most t) (ok : t.Ok) (hi : i ≤ t.len) (hu : RN .u8 w u b) (hb : Bytes b) (h0 : 0 < b.length) (hm : (t.len : Int) + b.length ≤ most) (hmost : 0 ≤ most ∧ most ≤ 16777216) (hl : t.len + b.length ≤ 60000) :
    Calls Tryd.prog 25 #[.pointer (some ⟨g, 0, none⟩), .int .i64 (i : Int), u] w fun e w' => e = .returned (.int .i64 0) ∧ But g w w' ∧ IsR w' g most (insT t i b) := by
  have HL := Lib.hid (fun (w' : World) (b : AnyLater w w') => rlen_any _ t w' (.inr ⟨g, most, rfl, h.later b⟩))
  have hlen := ok.len
  obtain ⟨rv, hg, ht⟩ := h
  have HG := Lib.hid hg
  obtain ⟨f1, f2⟩ := Tr.fair_split t i ok.fair
  obtain ⟨l1, l2⟩ := Tr.len_split t i hi
  have HSp := Lib.hid (fun (w' : World) (a : AnyLater w w') => rsplit_any t i (i : Int) rv w' rfl (ht.later a) ok.fair (by omega) (by omega))
  have HPc := Lib.hid (fun (w' : World) (a : AnyLater w w') => pieceOf_any u b w' (hu.later a) hb h0 (by omega))
  have HJ := Lib.hid (fun (w' : World) (u1 u2 pv : Value) (h1 : IsT w' (Tr.split t i).1 u1) (h2 : IsT w' (Tr.split t i).2 u2) (hp : isPc ⟨b, 0⟩ pv w') => (by
    obtain ⟨x, y, rfl, hp⟩ := hp
    exact rjoin_any _ _ _ u1 u2 x y w' (insT t i b) rfl h1 h2 hp f1 ⟨h0, Int.le_refl _, by simp only; omega, hb⟩ f2 (by rw [l1, l2]; simp only; omega) : Calls Tryd.prog 40 #[u1, pv, u2] w' (Ans (isT (insT t i b)) w')))
  obtain ⟨A, cap, rfl, -⟩ := hu.form
  obtain ⟨q, rfl⟩ := ht.ptr
  obtain ⟨k1, k2⟩ := hmost
  have d1 : decide ((i : Int) < 0) = false := decide_eq_false (by omega)
  have d2 : decide ((t.len : Int) < (i : Int)) = false := decide_eq_false (by omega)
  have d3 : decide (t.len < i) = false := decide_eq_false (by omega)
  have d4 : decide (most - (t.len : Int) < (b.length : Int)) = false := decide_eq_false (by omega)
  have d5 : decide (b.length = 0) = false := decide_eq_false (by omega)
  have d6 : ((b.length : Int) == 0) = false := by simpa using (by omega : b.length ≠ 0)
  have d7 : (b.length == 0) = false := by simpa using (by omega : b.length ≠ 0)
  clear ht hg ok hi hu f1 f2 l1 l2 h0
  generalize t.len = n at *
  generalize b.length = m at *
  go_enter Tryd.func25, Tryd.ntmps25
  go_wp2_with fail
  refine (HL.out _ (AnyLater.refl _)).mono ?_
  rintro e w1 ⟨rfl, b_w1⟩
  have a_w1 := b_w1
  have s0_w1 := any_own a_w1 HG.out
  go_wp2_with fail
  apply wp_region_mem (10) [] (by kernel_rfl) (by kernel_rfl) (by simp)
  case hstab =>
    intro e he v x y hxy hv
    simp only [List.mem_cons, List.not_mem_nil, or_false] at he
  case hlex =>
    intro U
    have q0 := fun (v : Later (later U)) => own_row (any_own ⟨v, rfl⟩ (any_own ⟨U, rfl⟩ s0_w1))
    simp only [absFrom, absOp, idx, List.map_cons, List.map_nil, List.contains_cons, List.contains_nil, Nat.reduceBEq, Bool.or_false, Bool.false_or, Bool.true_or, Bool.or_true, Bool.false_eq_true, Nat.reduceLeDiff, Nat.reduceAdd, if_false, if_true]
    repeat (go_big_quiet_step ((go_at_call 28; exact in_later (HL.out _ (by repeat' (first | with_reducible assumption | with_reducible exact AnyLater.refl _ | with_reducible apply AnyLater.setCell | with_reducible apply AnyLater.later | with_reducible apply AnyLater.drewN | with_reducible apply AnyLater.drew | with_reducible apply AnyLater.alloc | ((try simp only [World.size_alloc, World.size_setCell, World.size_drew]); (try dsimp only); omega)))))))
    exact wpQuiet_nil rfl
  case hown =>
    intro e he o ho
    simp only [List.mem_cons, List.not_mem_nil, or_false] at he
  case htail =>
    intro g u hst hne
    have b_w2 : AnyLater w1 (later u) := ⟨u, rfl⟩
    generalize later u = w2 at *
    clear u
    clear hst hne
    simp only [fillAll, Act.put, List.setIfInBounds_toArray, List.set_cons_zero, List.set_cons_succ, List.drop_succ_cons, List.drop_zero]
    have z_w2 := b_w2.below.size
    have a_w2 := a_w1.trans b_w2
    have s0_w2 := any_own b_w2 s0_w1
    have r0_w2 := own_row s0_w2
    have f0_w2 := own_free s0_w2
    have l0_w2 := own_lt s0_w2
    (try clear r0_w1); (try clear f0_w1)
    go_wp2_with fail
    refine (HSp.out _ a_w2).mono ?_
    rintro e w3 ⟨_, rfl, b_w3, u1, u2, rfl, t1, t2⟩
    have z_w3 := b_w3.below.size
    have a_w3 := a_w2.trans b_w3
    have s0_w3 := any_own b_w3 s0_w2
    have r0_w3 := own_row s0_w3
    have f0_w3 := own_free s0_w3
    have l0_w3 := own_lt s0_w3
    (try clear r0_w2); (try clear f0_w2)
    have HT := Lib.hid (And.intro t1 t2)
    clear t1 t2
    go_wp2_with fail
    refine (HPc.out _ a_w3).mono ?_
    rintro e w4 ⟨pv, rfl, b_w4, hp⟩
    have z_w4 := b_w4.below.size
    have a_w4 := a_w3.trans b_w4
    have s0_w4 := any_own b_w4 s0_w3
    have r0_w4 := own_row s0_w4
    have f0_w4 := own_free s0_w4
    have l0_w4 := own_lt s0_w4
    (try clear r0_w3); (try clear f0_w3)
    have HP := Lib.hid hp
    clear hp
    go_wp2_with fail
    refine (HJ.out _ _ _ _ (HT.out.1.later b_w4) (HT.out.2.later b_w4) HP.out).mono ?_
    rintro e w5 ⟨u5, rfl, b_w5, t5⟩
    have z_w5 := b_w5.below.size
    have a_w5 := a_w4.trans b_w5
    have s0_w5 := any_own b_w5 s0_w4
    have r0_w5 := own_row s0_w5
    have f0_w5 := own_free s0_w5
    have l0_w5 := own_lt s0_w5
    (try clear r0_w4); (try clear f0_w4)
    have HT5 := Lib.hid t5
    obtain ⟨q5, rfl⟩ := IsT.ptr t5
    clear t5
    go_wp2_with fail
    go_ret
    exact ⟨rfl, (But.of a_w5).setCell 0 _, _, heap_at s0_w5 rfl, IsT.far s0_w5 (by decide) (by decide) (by decide) HT5.out⟩

/-! ### a text made -/
set_option maxRecDepth 100000 in
theorem rnew_yes (u : Value) (b : List Int) (most : Int) (w : World) (hu : RN .u8 w u b) (hb : Bytes b) (h0 : 0 < b.length) (hm : (b.length : Int) ≤ most) (hmost : 0 ≤ most ∧ most ≤ 16777216) (hl : b.length ≤ 60000) :
    Calls Tryd.prog 14 #[u, .int .i64 most] w fun e w' => ∃ g, e = .returned (.tuple #[.pointer (some ⟨g, 0, none⟩), .int .i64 0]) ∧ AnyLater w w' ∧ w.heap.size ≤ g ∧ IsR w' g most (insT .nil 0 b) := by
  have HI : Hid (∀ w', AnyLater w w' → w'.heap[w.heap.size]? = some (.cells #[.pointer none, .int .i64 most] 53) → Calls Tryd.prog 25 #[.pointer (some ⟨w.heap.size, 0, none⟩), .int .i64 0, u] w' fun e w'' => e = .returned (.int .i64 0) ∧ But w.heap.size w' w'' ∧ IsR w'' w.heap.size most (insT .nil 0 b)) := Lib.hid (fun w' a hg => by
    have h : IsR w' w.heap.size most .nil := ⟨_, hg, rfl⟩
    exact rins_yes w.heap.size most .nil 0 u b w' h ⟨trivial, trivial, Nat.zero_le _⟩ (Nat.zero_le _) (hu.later a) hb h0 (by simp only [Tr.len]; omega) hmost (by simp only [Tr.len]; omega))
  obtain ⟨A, cap, rfl, -⟩ := hu.form
  obtain ⟨k1, k2⟩ := hmost
  have d1 : decide (most < 0) = false := decide_eq_false (by omega)
  have d2 : decide (16777216 < most) = false := decide_eq_false (by omega)
  clear hu h0 hm hb
  go_enter Tryd.func14, Tryd.ntmps14
  go_wp2_with fail
  have s0 : (w.alloc (.cells #[.pointer none, .int .i64 most] 53)).heap[w.heap.size]? = some (.cells #[.pointer none, .int .i64 most] 53) := heap_new rfl
  refine (HI.out _ (by repeat' (first | with_reducible assumption | with_reducible exact AnyLater.refl _ | with_reducible apply AnyLater.setCell | with_reducible apply AnyLater.later | with_reducible apply AnyLater.drewN | with_reducible apply AnyLater.drew | with_reducible apply AnyLater.alloc | ((try simp only [World.size_alloc, World.size_setCell, World.size_drew]); (try dsimp only); omega))) s0).mono ?_
  rintro e w2 ⟨rfl, b2, r2⟩
  have H2 : Hid (AnyLater w w2 ∧ IsR w2 w.heap.size most (insT .nil 0 b)) := Lib.hid ⟨b2.any (by repeat' (first | with_reducible assumption | with_reducible exact AnyLater.refl _ | with_reducible apply AnyLater.setCell | with_reducible apply AnyLater.later | with_reducible apply AnyLater.drewN | with_reducible apply AnyLater.drew | with_reducible apply AnyLater.alloc | ((try simp only [World.size_alloc, World.size_setCell, World.size_drew]); (try dsimp only); omega))) (Nat.le_refl _), r2⟩
  clear b2 r2 s0
  go_wp2_with fail
  refine bodyPost_ret (v := .tuple #[.pointer (some ⟨w.heap.size, 0, none⟩), .int .i64 0]) (by simp [results, Tryd.results14, go_sem]) rfl ?_
  exact ⟨_, rfl, H2.out.1, Nat.le_refl _, H2.out.2⟩
end Go.Proofs.YtkobnijjahpifaaDoor
namespace Go.Proofs.YtkobnijjahpifaaDoor
set_option linter.unusedSimpArgs false
set_option linter.unusedVariables false
set_option linter.unusedSectionVars false
open Go.RowKit

/-! ### few -/
set_option maxRecDepth 100000 in
theorem rfew_s (v : Value) (l : List Int) (k : Nat) (w : World) (hv : RN .u8 w v l) (hl : l.length ≤ k) (hk : k ≤ 60000) : Calls Tryd.prog 4 #[v, .int .i64 (k : Int)] w fun e w' => ∃ u, e = .returned u ∧ AnyLater w w' ∧ ON .u8 5 w' w.heap.size u l := by
  obtain ⟨u, w2, k1, k2, k3⟩ := copy8 hv (by omega)
  have HK := Lib.hid (And.intro k2 k3)
  have K1 := Lib.hid k1
  obtain ⟨A, cap, rfl, -⟩ := hv.form
  have d1 : decide ((k : Int) < (l.length : Int)) = false := decide_eq_false (by omega)
  have d2 : decide (k < l.length) = false := decide_eq_false (by omega)
  clear k1 k2 k3 hv hl
  generalize l.length = n at *
  go_enter Tryd.func4, Tryd.ntmps4
  go_wp2_with (at_builtin; refine Lib.wpList_append_run _ rfl _ _ _ _ rfl _ _ rfl rfl _ _ K1.out ?_)
  go_ret
  exact ⟨_, rfl, HK.out.1, HK.out.2⟩
set_option maxRecDepth 100000 in
theorem rfew_l (v : Value) (l : List Int) (k : Nat) (w : World) (hv : RN .u8 w v l) (hl : k < l.length) (hk : k ≤ 60000) : Calls Tryd.prog 4 #[v, .int .i64 (k : Int)] w fun e w' => ∃ u, e = .returned u ∧ AnyLater w w' ∧ ON .u8 5 w' w.heap.size u (l.take k) := by
  obtain ⟨A0, cap0, hr, hup⟩ := RN.upto hv k (by omega)
  obtain ⟨u, w2, k1, k2, k3⟩ := copy8 hr (by rw [List.length_take]; omega)
  have HK := Lib.hid (And.intro k2 k3)
  have K1 := Lib.hid k1
  obtain ⟨A, cap, rfl, -⟩ := hv.form
  have d1 : (k : Int) < (l.length : Int) := by omega
  clear k1 k2 k3 hv hl hr
  generalize l.length = n at *
  go_enter Tryd.func4, Tryd.ntmps4
  go_wp2_with (at_builtin; refine Lib.wpList_append_run _ rfl _ _ _ _ rfl _ _ rfl rfl _ _ K1.out ?_)
  go_ret
  exact ⟨_, rfl, HK.out.1, HK.out.2⟩
/-- the first k of any bytes -/
theorem few_any8 (v : Value) (l m : List Int) (k : Nat) (hm : l.take k = m) (w : World) (hv : RN .u8 w v l) (hk : k ≤ 60000) : Calls Tryd.prog 4 #[v, .int .i64 (k : Int)] w fun e w' => ∃ u, e = .returned u ∧ AnyLater w w' ∧ ON .u8 5 w' w.heap.size u m := by
  subst hm
  by_cases h : l.length ≤ k
  · rw [List.take_of_length_le h]
    exact rfew_s v l k w hv h hk
  · exact rfew_l v l k w hv (by omega) hk

/-! ### the document's text -/
/-- an append of the row -/
theorem chain_app {P : Program} {F : Act} {o : Oper} {v : Value} {w w' : World} {R : Value → World → Prop} (s x : Operand) (t tn : TypeId) (ho : o.op = .call { callee := .builtin .append, args := #[s, x], argTypes := #[t, tn] }) (vs vx : Value) (hs : F.eval s = vs) (hx : F.eval x = vx)
    (hr : (Builtin.append_ #[t, tn] o.type #[vs, vx]).run P w = .ok v w') (h : R v w') : ChainStep P F o w R := by
  refine chain_value (w' := w') ?_ h
  unfold execOp
  simp only [ho, resolve, invoke, builtin, Sem.run_bind, Sem.run_pure, Result.andThen_ok, List.map_toArray, List.map_cons, List.map_nil, hs, hx, hr]
def st4 (w0 w1 w2 w3 w4 : World) (j : Nat) (_ : Nat → Value) (x : World) : Prop := match j with
  | 0 => x = w0
  | 1 => x = w1
  | 2 => x = w2
  | 3 => x = w3
  | 4 => x = w4
  | _ => True
end Go.Proofs.YtkobnijjahpifaaDoor
namespace Go.Proofs.YtkobnijjahpifaaDoor
set_option linter.unusedSimpArgs false
set_option linter.unusedVariables false
set_option linter.unusedSectionVars false
open Go.RowKit

/-! ### bytes taken away -/
/-- what a text is behind bytes are taken away -/
def delT (t : Tr) (i m : Nat) : Tr := Tr.meet (Tr.split (Tr.split t (i + m)).1 i).1 (Tr.split t (i + m)).2
theorem delT_bs (t : Tr) (i m : Nat) : (delT t i m).bs = t.bs.take i ++ t.bs.drop (i + m) := by
  unfold delT
  rw [Tr.bs_meet, (Tr.bs_split _ i).1, (Tr.bs_split t (i + m)).1, (Tr.bs_split t (i + m)).2, List.take_take, Nat.min_eq_left (Nat.le_add_right i m)]
theorem delT_ok {t : Tr} {i m : Nat} (ok : t.Ok) : (delT t i m).Ok := by
  obtain ⟨f1, f2⟩ := Tr.fair_split t (i + m) ok.fair
  obtain ⟨e1, e2⟩ := Tr.even_split t (i + m) ok.even
  refine ⟨Tr.fair_meet (Tr.fair_split _ i f1).1 f2, Tr.even_meet _ _ (Tr.even_split _ i e1).1 e2, ?_⟩
  have := ok.len
  rw [← Tr.len_bs, delT_bs, List.length_append, List.length_take, List.length_drop, Tr.len_bs]; omega
end Go.Proofs.YtkobnijjahpifaaDoor
namespace Go.Proofs.YtkobnijjahpifaaDoor
set_option linter.unusedSimpArgs false
set_option linter.unusedVariables false
set_option linter.unusedSectionVars false
open Go.RowKit

theorem feN_getD (l : List Int) (i : Int) (k : Nat) (h : k < (feN 0 l).length) : (feN i l).getD k 0 = i + (feN 0 l).getD k 0 := by
  rw [feN_base l i]
  simp only [List.getD_eq_getElem?_getD, List.getElem?_map, List.getElem?_eq_getElem h, Option.map_some, Option.getD_some]
  omega
/-- the k-th line feed of a tree -/
def brk (t : Tr) (k : Nat) : Int := (feN 0 t.bs).getD k 0
theorem brk_node (a b : Tr) (p : Pc) (j : Nat) (hj : j < (Tr.node a p b).nf) : brk (Tr.node a p b) j = if j < a.nf then brk a j else if j < a.nf + p.fs.length then (a.len : Int) + (p.fs.getD (j - a.nf) 0 - p.base) else (a.len : Int) + (p.b.length : Int) + brk b (j - (a.nf + p.fs.length)) := by
  have h1 := Tr.nf_bs a
  have h2 : (feN ((0 : Int) + (a.bs.length : Int)) p.b).length = p.fs.length := by rw [feN_length, ← feN_length p.b p.base]; rfl
  have h3 : (feN 0 p.b).length = p.fs.length := (feN_length p.b p.base).symm
  have hj2 : j < a.nf + p.fs.length + b.nf := hj
  unfold brk
  rw [Tr.bs, feN_append, feN_append]
  simp only [List.getD_eq_getElem?_getD]
  split
  · rw [List.getElem?_append_left (by omega)]
  · rw [List.getElem?_append_right (by omega), h1]
    split
    · rw [List.getElem?_append_left (by omega)]
      have e1 := feN_getD p.b ((0 : Int) + (a.bs.length : Int)) (j - a.nf) (by omega)
      have e2 := feN_getD p.b p.base (j - a.nf) (by omega)
      simp only [List.getD_eq_getElem?_getD] at e1 e2
      unfold Pc.fs
      rw [e1, e2, Tr.len_bs]
      omega
    · rw [List.getElem?_append_right (by omega), h2, Nat.sub_sub]
      have e1 := feN_getD b.bs ((0 : Int) + (a.bs.length : Int) + (p.b.length : Int)) (j - (a.nf + p.fs.length)) (by rw [Tr.nf_bs]; omega)
      simp only [List.getD_eq_getElem?_getD] at e1
      rw [e1, Tr.len_bs]
      omega
/-! ### how many stand ahead -/
def rcnt (t : Tr) (j : Nat) : Nat := (feN 0 (t.bs.take j)).length
theorem cnt_node (a b : Tr) (p : Pc) (j : Nat) : rcnt (Tr.node a p b) j = if j < a.len then rcnt a j else if j < a.len + p.b.length then a.nf + (feN p.base (p.b.take (j - a.len))).length else a.nf + p.fs.length + rcnt b (j - (a.len + p.b.length)) := by
  have h1 := Tr.len_bs a
  unfold rcnt
  rw [Tr.bs]
  split
  · rw [List.take_append_of_le_length (by omega)]
  · split
    · rw [List.take_append, List.take_of_length_le (by omega), h1, List.take_append_of_le_length (by omega), feN_append, List.length_append, Tr.nf_bs, feN_length _ ((0 : Int) + _), feN_length _ p.base]
    · rw [List.take_append, List.take_of_length_le (by omega), h1, List.take_append, List.take_of_length_le (by omega), feN_append, feN_append, List.length_append, List.length_append, Tr.nf_bs, feN_length p.b ((0 : Int) + _), feN_length _ ((0 : Int) + _ + _), Nat.sub_sub]
      have e : p.fs.length = (feN 0 p.b).length := feN_length p.b p.base
      omega
theorem below_take (l : List Int) (i : Nat) (hi : i ≤ l.length) : (feN 0 (l.take i)).length = below (i : Int) (feN 0 l) := by
  have := feN_below l 0 i hi
  rw [Int.zero_add] at this
  exact this.symm
end Go.Proofs.YtkobnijjahpifaaDoor
namespace Go.Proofs.YtkobnijjahpifaaDoor
set_option linter.unusedSimpArgs false
set_option linter.unusedVariables false
set_option linter.unusedSectionVars false
open Go.RowKit

set_option maxRecDepth 100000 in
/-- v[lo:hi], also of none -/
theorem RN.part {w : World} {v : Value} {l : List Int} (h : RN .u8 w v l) (lo hi : Nat) (h1 : lo ≤ hi) (h2 : hi ≤ l.length) : ∃ A cap, RN .u8 w (.slice A (hi - lo) cap) ((l.drop lo).take (hi - lo)) ∧
    ∀ w', (Instr.sliceAt 22 v (some (.int .i64 (lo : Int))) (some (.int .i64 (hi : Int))) none).run Tryd.prog w' = .ok (.slice A (hi - lo) cap) w' := by
  rcases Nat.lt_or_ge lo hi with hlt | hge
  · exact h.mid lo hi hlt h2
  · obtain rfl : lo = hi := by omega
    obtain ⟨A, cap, rfl, h3, _⟩ := h
    refine ⟨(if cap = lo then A else A.map (fun x => x.add lo)), cap - lo, ⟨(if cap = lo then A else A.map (fun x => x.add lo)), cap - lo, by simp, by simp, fun h => by simp at h⟩, fun w' => ?_⟩
    · rw [run_sliceAt_slice w' _ _ _ _ _ Tryd.underlying22, run_slice_lh w' _ A l.length cap Tryd.underlying22 .i64 .i64 (lo : Int) (lo : Int) (by omega) (by omega) (by omega)]
      have hz : ∀ w, (Go.sizeOf (Tryd.prog.elem 22)).run Tryd.prog w = .ok 1 w := fun w => by simp [go_sem]
      rw [hz]
      simp only [Result.andThen, sliced, Int.toNat_natCast, Nat.mul_one, Nat.sub_self]
end Go.Proofs.YtkobnijjahpifaaDoor
namespace Go.Proofs.YtkobnijjahpifaaDoor
set_option linter.unusedSimpArgs false
set_option linter.unusedVariables false
set_option linter.unusedSectionVars false
open Go.RowKit

theorem isB_new {w w' : World} {g : Nat} (h : w'.heap[g]? = some (.cells #[] 5)) : isB [] (.slice (some ⟨g, 0, none⟩) 0 0) w' := ⟨_, 0, rfl, Nat.le_refl _, fun h => by simp at h⟩
end Go.Proofs.YtkobnijjahpifaaDoor
namespace Go.Proofs.YtkobnijjahpifaaDoor
set_option linter.unusedSimpArgs false
set_option linter.unusedVariables false
set_option linter.unusedSectionVars false
open Go.RowKit

def insC (n : Nat) (most x : Int) (m : Nat) : Int := if x < 0 ∨ (n : Int) < x then 1 else if most - n < m then 2 else 0
def insO (L : List Int) (most x : Int) (b : List Int) : List Int := if insC L.length most x b.length = 0 then L.take x.toNat ++ (b ++ L.drop x.toNat) else L
def insTT (t : Tr) (most x : Int) (b : List Int) : Tr := if insC t.len most x b.length = 0 ∧ 0 < b.length then insT t x.toNat b else t
theorem insTT_bs (t : Tr) (most x : Int) (b : List Int) : (insTT t most x b).bs = insO t.bs most x b := by
  unfold insTT insO
  rw [Tr.len_bs]
  by_cases h : insC t.len most x b.length = 0
  · rw [if_pos h]
    by_cases h2 : 0 < b.length
    · rw [if_pos ⟨h, h2⟩, insT_bs]
    · obtain rfl := List.eq_nil_of_length_eq_zero (Nat.eq_zero_of_not_pos h2)
      rw [if_neg (by simp)]; simp
  · rw [if_neg h, if_neg (fun q => h q.1)]
theorem insC_zero {n m : Nat} {most x : Int} (h : insC n most x m = 0) : 0 ≤ x ∧ x ≤ n ∧ (n : Int) + m ≤ most := by
  unfold insC at h
  split at h
  · cases h
  · split at h
    · cases h
    · omega
theorem insTT_ok {t : Tr} {most x : Int} {b : List Int} (ok : t.Ok) (hb : Bytes b) (hm : most ≤ 60000) : (insTT t most x b).Ok := by
  unfold insTT
  split
  · rename_i h
    have := insC_zero h.1
    exact insT_ok ok (by omega) h.2 hb (by omega)
  · exact ok
theorem insO_len {L : List Int} {most x : Int} {b : List Int} (h : (L.length : Int) ≤ most) : ((insO L most x b).length : Int) ≤ most := by
  unfold insO
  split
  · rename_i hc
    have := insC_zero hc
    rw [List.length_append, List.length_append, List.length_take, List.length_drop]; omega
  · exact h
theorem insO_bytes {L : List Int} {most x : Int} {b : List Int} (h : Bytes L) (hb : Bytes b) : Bytes (insO L most x b) := by
  unfold insO
  split
  · intro c hc
    rcases List.mem_append.1 hc with hc | hc
    · exact h c (List.mem_of_mem_take hc)
    · rcases List.mem_append.1 hc with hc | hc
      · exact hb c hc
      · exact h c (List.mem_of_mem_drop hc)
  · exact h
theorem IsR.but_of {w w' : World} {g : Nat} {most : Int} {t : Tr} (h : IsR w g most t) (a : AnyLater w w') : But g w w' ∧ IsR w' g most t := ⟨But.of a, h.later a⟩
/-- Insert, whatever is asked -/
theorem rins_all (g : Nat) (most x : Int) (t : Tr) (u : Value) (b : List Int) (w : World) (h : IsR w g most t) (ok : t.Ok) (hu : RN .u8 w u b) (hb : Bytes b) (hm : (t.len : Int) ≤ most ∧ most ≤ 60000) :
    Calls Tryd.prog 25 #[.pointer (some ⟨g, 0, none⟩), .int .i64 x, u] w fun e w' => e = .returned (.int .i64 (insC t.len most x b.length)) ∧ But g w w' ∧ IsR w' g most (insTT t most x b) := by
  have hlen := ok.len
  by_cases h1 : x < 0 ∨ (t.len : Int) < x
  · have e1 : insC t.len most x b.length = 1 := by unfold insC; rw [if_pos h1]
    have e2 : insTT t most x b = t := by unfold insTT; rw [if_neg (fun q => by rw [e1] at q; cases q.1)]
    rw [e1, e2]
    refine (rins_bad g most t x u w h h1).mono ?_
    rintro e w' ⟨rfl, a⟩
    exact ⟨rfl, h.but_of a⟩
  · obtain ⟨i, rfl⟩ := Int.eq_ofNat_of_zero_le (show 0 ≤ x by omega)
    by_cases h2 : most - t.len < b.length
    · have e1 : insC t.len most i b.length = 2 := by unfold insC; rw [if_neg h1, if_pos h2]
      have e2 : insTT t most i b = t := by unfold insTT; rw [if_neg (fun q => by rw [e1] at q; cases q.1)]
      rw [e1, e2]
      obtain ⟨A, cap, rfl, -⟩ := hu.form
      refine (rins_full g most t i b.length A cap w h ok (by omega) h2 ⟨by omega, by omega⟩).mono ?_
      rintro e w' ⟨rfl, a⟩
      exact ⟨rfl, h.but_of a⟩
    · have e1 : insC t.len most i b.length = 0 := by unfold insC; rw [if_neg h1, if_neg h2]
      rw [e1]
      by_cases h3 : 0 < b.length
      · have e2 : insTT t most i b = insT t i b := by unfold insTT; rw [if_pos ⟨e1, h3⟩]; rfl
        rw [e2]
        exact rins_yes g most t i u b w h ok (by omega) hu hb h3 (by omega) ⟨by omega, by omega⟩ (by omega)
      · have e2 : insTT t most i b = t := by unfold insTT; rw [if_neg (fun q => h3 q.2)]
        rw [e2]
        obtain ⟨A, cap, rfl, -⟩ := hu.form
        have e3 : b.length = 0 := by omega
        rw [e3]
        refine (rins_none g most t i A cap w h ok (by omega) hm.1 ⟨by omega, by omega⟩).mono ?_
        rintro e w' ⟨rfl, a⟩
        exact ⟨rfl, h.but_of a⟩
/-! ### taken away -/
noncomputable def delC (n : Nat) (x m : Int) : Int := open Classical in if In3 x m n then 0 else 1
noncomputable def delG (L : List Int) (x m : Int) : List Int := open Classical in if In3 x m L.length then (L.drop x.toNat).take m.toNat else []
noncomputable def rdelL (L : List Int) (x m : Int) : List Int := open Classical in if In3 x m L.length then L.take x.toNat ++ L.drop (x.toNat + m.toNat) else L
noncomputable def delTT (t : Tr) (x m : Int) : Tr := open Classical in if In3 x m t.len ∧ 0 < m then delT t x.toNat m.toNat else t
theorem delTT_bs (t : Tr) (x m : Int) : (delTT t x m).bs = rdelL t.bs x m := by
  unfold delTT rdelL
  rw [Tr.len_bs]
  by_cases h : In3 x m t.len
  · rw [if_pos h]
    by_cases h2 : 0 < m
    · rw [if_pos ⟨h, h2⟩, delT_bs]
    · have e : m.toNat = 0 := by omega
      rw [if_neg (fun q => h2 q.2), e, Nat.add_zero, List.take_append_drop]
  · rw [if_neg h, if_neg (fun q => h q.1)]
theorem delTT_ok {t : Tr} {x m : Int} (ok : t.Ok) : (delTT t x m).Ok := by
  unfold delTT
  split
  · exact delT_ok ok
  · exact ok
theorem delL_len (L : List Int) (x m : Int) : (rdelL L x m).length ≤ L.length := by
  unfold rdelL
  split
  · rw [List.length_append, List.length_take, List.length_drop]; omega
  · exact Nat.le_refl _
theorem delL_bytes {L : List Int} {x m : Int} (h : Bytes L) : Bytes (rdelL L x m) := by
  unfold rdelL
  split
  · intro c hc
    rcases List.mem_append.1 hc with hc | hc
    · exact h c (List.mem_of_mem_take hc)
    · exact h c (List.mem_of_mem_drop hc)
  · exact h
/-! ### rows that were written out; what is not touched; acts -/
theorem RN.lit {k : IntKind} {t : TypeId} {w : World} {g : Nat} {cs : Array Value} {m : Nat × Nat} (l : List Int) (h : w.heap[g]? = some (.cells cs t m)) (e : cs.toList = l.map (Value.int k)) : RN k w (.slice (some ⟨g, 0, none⟩) l.length l.length) l := by
  refine ⟨_, _, rfl, Nat.le_refl _, fun h0 => ⟨g, 0, rfl, own_lt h, fun j hj => ?_⟩⟩
  have : cs[0 + j]? = some (.int k l[j]) := by
    rw [Nat.zero_add, ← Array.getElem?_toList, e]
    simp [hj]
  simpa [World.cell?, h] using this
theorem isB.form {l : List Int} {v : Value} {w : World} (h : isB l v w) : ∃ A cap, v = .slice A l.length cap ∧ l.length ≤ cap := RT.form h
/-- an act -/
structure RAM where
  kind : Int
  at_ : Int
  n : Int
  v : Value
  b : List Int
def I64r (z : Int) : Prop := -9223372036854775808 ≤ z ∧ z ≤ 9223372036854775807
structure RAM.Ok (A : RAM) (w : World) : Prop where
  kind : I64r A.kind
  at_ : I64r A.at_
  n : I64r A.n
  row : RN .u8 w A.v A.b
  bytes : Bytes A.b
def ractV (A : RAM) : Value := .agg #[.int .i64 A.kind, .int .i64 A.at_, .int .i64 A.n, A.v]
/-- a slice of acts -/
def RAct (w : World) (v : Value) (l : List RAM) : Prop := ∃ (A : Option Addr) (cap : Nat), v = .slice A l.length cap ∧ (∀ (j : Nat) (h : j < l.length), l[j].Ok w) ∧
  (0 < l.length → ∃ b off, A = some ⟨b, off, none⟩ ∧ b < w.heap.size ∧ ∀ (j : Nat) (h : j < l.length), w.cell? ⟨b, off + j * 4, none⟩ = some (.int .i64 l[j].kind) ∧ w.cell? ⟨b, off + j * 4 + 1, none⟩ = some (.int .i64 l[j].at_) ∧ w.cell? ⟨b, off + j * 4 + 2, none⟩ = some (.int .i64 l[j].n) ∧ w.cell? ⟨b, off + j * 4 + 3, none⟩ = some l[j].v)
theorem RAM.Ok.later {A : RAM} {w w' : World} (h : A.Ok w) (a : AnyLater w w') : A.Ok w' := ⟨h.kind, h.at_, h.n, h.row.later a, h.bytes⟩
end Go.Proofs.YtkobnijjahpifaaDoor
