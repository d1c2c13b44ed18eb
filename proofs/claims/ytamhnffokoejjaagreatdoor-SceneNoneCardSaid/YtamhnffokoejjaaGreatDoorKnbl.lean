/- what the proof stands on: ScnC ScnK -/
import Derived.Deep.LoopGhost
import Derived.BigRegion
import Derived.Test.YtamhnffokoejjaaGreatDoorKnbk
import Derived.Test.YtamhnffokoejjaaGreatDoorKnan
import Derived.Test.YtamhnffokoejjaaGreatDoorKnaj
import Derived.Test.YtamhnffokoejjaaGreatDoorKnax
import Derived.Test.YtamhnffokoejjaaGreatDoorKnao
import Derived.BigQuiet
import Derived.Test.YtamhnffokoejjaaGreatDoorKnay
namespace Go.Proofs.YtamhnffokoejjaaGreatDoor
set_option linter.unusedSimpArgs false
set_option linter.unusedVariables false
set_option linter.unusedSectionVars false
open Go.RowKit
theorem scmpNaN (x : Int) (w : World) : Calls Tryz.prog 246 #[.int .i64 x] w fun e w' => e = .returned (.bool false) ∧ w = w' := by
  go_enter Tryz.func246, Tryz.ntmps246
  go_wp2
  go_ret
  exact ⟨ret_bool (by simp), rfl⟩
theorem ssliNaN (x : Int) (w : World) : Calls Tryz.prog 206 #[.int .i64 x] w fun e w' => e = .returned (.bool false) ∧ w = w' := by
  go_enter Tryz.func206, Tryz.ntmps206
  go_wp2
  go_ret
  exact ⟨ret_bool (by simp), rfl⟩
theorem sless_any (x y : Int) (c : Bool) (hc : decide (x < y) = c) (w : World) : Calls Tryz.prog 205 #[.int .i64 x, .int .i64 y] w fun e w' => e = .returned (.bool c) ∧ w = w' := by
  have HN := Lib.hid scmpNaN
  have HC := Lib.hid hc
  clear hc
  go_enter Tryz.func205, Tryz.ntmps205
  go_wp2_with (go_at_call 246; refine (HN.out _ _).mono ?_; rintro e w' ⟨rfl, rfl⟩)
  go_ret
  exact ⟨ret_bool (by rw [← HC.out]), rfl⟩
set_option maxRecDepth 100000 in
set_option maxHeartbeats 1600000 in
theorem isearch_some (b off n cap : Nat) (g : Nat → Int) (x : Int) (w : World) (hb : b < w.heap.size) (hcl : ∀ t, t < n → w.cell? ⟨b, off + t, none⟩ = some (.int .i64 (g t))) (hs : ∀ t u, t < u → u < n → g t < g u) (hn : n ≤ 90000) :
    Calls Tryz.prog 163 #[.slice (some ⟨b, off, none⟩) n cap, .int .i64 x] w fun e w' => (∃ (k : Nat) (c : Bool), e = .returned (.tuple #[.int .i64 (k : Int), .bool c]) ∧ k ≤ n ∧ (∀ t, t < k → g t < x) ∧ (k < n → x ≤ g k)) ∧ AnyLater w w' := by
  have HN := Lib.hid ssliNaN
  have HLs := Lib.hid sless_any
  have HS := Lib.hid hs
  have HC := Lib.hid hcl
  clear hs hcl
  go_enter Tryz.func163, Tryz.ntmps163
  go_wp2_with fail
  go_loopg [7, 8] n (fun kk iv jv wr => AnyLater w wr ∧ ∃ i j : Nat, kk = j - i ∧ i ≤ j ∧ j ≤ n ∧ iv = .int .i64 (i : Int) ∧ jv = .int .i64 (j : Int) ∧ (∀ t, t < i → g t < x) ∧ (∀ t, t < n → j ≤ t → x ≤ g t))
  case atStart => exact ⟨AnyLater.refl _, 0, n, by omega, by omega, by omega, rfl, rfl, fun t h => by omega, fun t h h' => by omega⟩
  case round =>
    obtain ⟨a_wr, i, j, hk, hij, hj, rfl, rfl, q1, q2⟩ := hrel
    have HA := Lib.hid a_wr
    have HQ := Lib.hid (And.intro q1 q2)
    clear q1 q2 a_wr
    by_cases hlt : i < j
    · have d0 : (i : Int) < (j : Int) := by omega
      obtain ⟨h, hh⟩ : ∃ h, (i + j) / 2 = h := ⟨_, rfl⟩
      have hi : i ≤ h ∧ h < j := by omega
      have c0 : wr.cell? ⟨b, off + h, none⟩ = some (.int .i64 (g h)) := (HA.out.below.cell hb).trans (HC.out h (by omega))
      by_cases hc : g h < x
      · have HL := Lib.hid (HLs.out (g h) x true (by simpa using hc))
        go_wp2_with fail
        refine (HL.out wr).mono ?_
        rintro e w' ⟨rfl, rfl⟩
        go_wp2_with fail
        go_roundg (j - (h + 1))
        case measure => omega
        case rel => exact ⟨HA.out, h + 1, j, rfl, by omega, hj, by (congr 1; omega), rfl, fun t ht => by
          rcases Nat.lt_or_ge t h with h1 | h1
          · have := HS.out t h h1 (by omega); omega
          · obtain rfl : t = h := by omega
            exact hc, HQ.out.2⟩
      · have HL := Lib.hid (HLs.out (g h) x false (by simpa using hc))
        go_wp2_with fail
        refine (HL.out wr).mono ?_
        rintro e w' ⟨rfl, rfl⟩
        go_wp2_with fail
        go_roundg (h - i)
        case measure => omega
        case rel => exact ⟨HA.out, i, h, rfl, by omega, by omega, rfl, by (congr 1; omega), HQ.out.1, fun t ht h1 => by
          rcases Nat.lt_or_ge h t with h2 | h2
          · have := HS.out h t h2 ht; omega
          · obtain rfl : t = h := by omega
            omega⟩
    · obtain rfl : i = j := by omega
      have hdone : Hid (∀ c : Bool, (∃ (k : Nat) (c' : Bool), Ending.returned (.tuple #[.int .i64 (i : Int), .bool c]) = .returned (.tuple #[.int .i64 (k : Int), .bool c']) ∧ k ≤ n ∧ (∀ t, t < k → g t < x) ∧ (k < n → x ≤ g k)) ∧ AnyLater w wr) := Lib.hid (fun c => ⟨⟨i, c, rfl, hj, HQ.out.1, fun h => HQ.out.2 i h (Nat.le_refl _)⟩, HA.out⟩)
      by_cases hin : i < n
      · have d0 : (i : Int) < (n : Int) := by omega
        have c0 : wr.cell? ⟨b, off + i, none⟩ = some (.int .i64 (g i)) := (HA.out.below.cell hb).trans (HC.out i hin)
        clear hlt hk
        by_cases he : g i = x
        · go_wp2_with fail
          refine bodyPost_ret (v := .tuple #[.int .i64 (i : Int), .bool true]) (by simp [results, Tryz.results163, go_sem]) rfl ?_
          exact hdone.out true
        · have he2 : (g i == x) = false := by simpa using he
          clear he
          go_wp2_with (go_at_call 206; refine (HN.out _ _).mono ?_; rintro e w' ⟨rfl, rfl⟩)
          refine bodyPost_ret (v := .tuple #[.int .i64 (i : Int), .bool false]) (by simp [results, Tryz.results163, go_sem]) rfl ?_
          exact hdone.out false
      · have d0 : decide ((i : Int) < (n : Int)) = false := decide_eq_false (by omega)
        clear hlt hk
        go_wp2_with fail
        refine bodyPost_ret (v := .tuple #[.int .i64 (i : Int), .bool false]) (by simp [results, Tryz.results163, go_sem]) rfl ?_
        exact hdone.out false
set_option maxRecDepth 100000 in
theorem isearch_none (A : Option Addr) (cap : Nat) (x : Int) (w : World) :
    Calls Tryz.prog 163 #[.slice A 0 cap, .int .i64 x] w fun e w' => e = .returned (.tuple #[.int .i64 0, .bool false]) ∧ AnyLater w w' := by
  go_enter Tryz.func163, Tryz.ntmps163
  go_wp2_with fail
  refine wp_loop_rounds 1 ?_
  rw [rounds_succ]
  go_wp2_with fail
  refine bodyPost_ret (v := .tuple #[.int .i64 0, .bool false]) (by simp [results, Tryz.results163, go_sem]) rfl ⟨rfl, ?_⟩
  repeat' (first | with_reducible assumption | with_reducible exact AnyLater.refl _ | with_reducible apply AnyLater.setCell | with_reducible apply AnyLater.later | with_reducible apply AnyLater.drewN | with_reducible apply AnyLater.drew | with_reducible apply AnyLater.alloc | ((try simp only [World.size_alloc, World.size_setCell, World.size_drew]); (try dsimp only); omega))
theorem isearch_any (v : Value) (l : List Int) (x : Int) (w : World) (k : Nat) (hk : below x l = k) (hv : RN .i64 w v l) (hs : l.Pairwise (· < ·)) (hn : l.length ≤ 90000) :
    Calls Tryz.prog 163 #[v, .int .i64 x] w fun e w' => (∃ c, e = .returned (.tuple #[.int .i64 (k : Int), .bool c])) ∧ AnyLater w w' := by
  subst hk
  obtain ⟨A, cap, rfl, h2, h3⟩ := hv
  rcases Nat.eq_zero_or_pos l.length with h0 | h0
  · obtain rfl := List.eq_nil_of_length_eq_zero h0
    refine (isearch_none A cap x w).mono ?_
    rintro e w' ⟨rfl, b⟩
    exact ⟨⟨false, rfl⟩, b⟩
  · obtain ⟨b, off, rfl, hb, hc⟩ := h3 h0
    have hs2 := List.pairwise_iff_getElem.1 hs
    have hg : ∀ t (h : t < l.length), l.getD t 0 = l[t] := fun t h => by simp [List.getD_eq_getElem?_getD, h]
    refine (isearch_some b off l.length cap (fun t => l.getD t 0) x w hb (fun t ht => by rw [hc t ht, hg t ht]) (fun t u h1 h2 => by rw [hg t (by omega), hg u h2]; exact hs2 t u _ _ h1) hn).mono ?_
    rintro e w' ⟨⟨k, c, rfl, q1, q2, q3⟩, bb⟩
    refine ⟨⟨c, ?_⟩, bb⟩
    rw [below_eq q1 (fun t h ht => by have := q2 t ht; rwa [hg t h] at this) (fun h => by have := q3 h; rwa [hg k h] at this)]
def fillE (r : Runs) (j : Nat) : List Int := (endsR r).take j ++ List.replicate (r.length - j) 0
theorem fillE_length {r : Runs} {j : Nat} (h : j ≤ r.length) : (fillE r j).length = r.length := by
  unfold fillE
  rw [List.length_append, List.length_take, endsR_length, List.length_replicate]; omega
theorem fillE_set {r : Runs} {j : Nat} (h : j < r.length) : (fillE r j).set j (enR r (j + 1)) = fillE r (j + 1) := by
  have hl : j < (endsR r).length := by rw [endsR_length]; exact h
  have e : (endsR r)[j] = (enR r (j + 1) : Int) := by simp [endsR]
  unfold fillE
  rw [List.set_append_right _ _ (by rw [List.length_take]; omega), List.length_take, Nat.min_eq_left (by omega), Nat.sub_self, show r.length - j = (r.length - (j + 1)) + 1 by omega, List.replicate_succ, List.set_cons_zero, List.take_succ_eq_append_getElem hl, e, List.append_assoc]
  rfl
theorem fillE_end (r : Runs) : fillE r r.length = endsR r := by
  unfold fillE
  rw [Nat.sub_self, List.replicate_zero, List.append_nil, List.take_of_length_le (by rw [endsR_length]; omega)]
theorem imade (n : Nat) (hn : n ≤ 90000) (w : World) : (Instr.makeSlice 42 (.int .i64 (n : Int)) (.int .i64 (n : Int))).run Tryz.prog w = .ok (.slice (some ⟨w.heap.size, 0, none⟩) n n) (w.alloc (.cells (madeCells #[.int .i64 0] n) 3)) :=
  run_make_row' (P := Tryz.prog) 42 3 (.int .i64 0) 8 Tryz.underlying42 info_i64 rfl .i64 .i64 n (by omega) (by omega) w
theorem imade_on (B n : Nat) (hn : n ≤ 90000) (w : World) (hB : B ≤ w.heap.size) : ON .i64 3 (w.alloc (.cells (madeCells #[.int .i64 0] n) 3)) B (.slice (some ⟨w.heap.size, 0, none⟩) n n) (List.replicate n 0) := by
  have := ON.of (B := B) (l := List.replicate n 0) (cap := n) (cur := madeCells #[.int .i64 0] n) hB (heap_new (w := w) rfl) (by simp) (by unfold maxLen; omega) (size_madeCells _ _) (fun j hj => by
    rw [← Array.getElem?_toList, toList_madeCells_one]
    rw [List.length_replicate] at hj
    simp [hj])
  simpa using this
set_option maxRecDepth 100000 in
set_option maxHeartbeats 1600000 in
theorem sof_any (v : Value) (r : Runs) (w : World) (hv : RRn w v r) (hf : Fairs r) (hn : r.length ≤ 60000) (hl : (stylesR r).length ≤ 60000) :
    Calls Tryz.prog 36 #[v] w fun e w' => ∃ u, e = .returned (.agg #[v, u]) ∧ AnyLater w w' ∧ ON .i64 3 w' w.heap.size u (endsR r) := by
  obtain ⟨A, cap, rfl, hcap, hc⟩ := hv
  have HC := Lib.hid hc
  have HF := Lib.hid hf
  obtain ⟨n, hnn⟩ : ∃ n, r.length = n := ⟨_, rfl⟩
  have HL := Lib.hid hnn
  have hnn' := hnn
  rw [hnn] at hcap hn ⊢
  have HM := fun w => imade n (by omega) w
  clear hc hf hnn
  have HO0 := imade_on w.heap.size n (by omega) (w.alloc (.cells #[.slice none 0 0, .slice none 0 0] 78)) (by simp)
  have e0 : fillE r 0 = List.replicate n 0 := by unfold fillE; rw [List.take_zero, Nat.sub_zero, hnn']; rfl
  rw [← e0] at HO0
  have HO0 := Lib.hid HO0
  have HR0 : Hid (((w.alloc (.cells #[.slice none 0 0, .slice none 0 0] 78)).alloc (.cells (madeCells #[.int .i64 0] n) 3)).heap[w.heap.size]? = some (.cells #[.slice none 0 0, .slice none 0 0] 78)) := Lib.hid (any_own ((AnyLater.refl _).alloc _) (heap_new rfl))
  have HA0 := Lib.hid (((AnyLater.refl w).alloc (.cells #[.slice none 0 0, .slice none 0 0] 78)).alloc (.cells (madeCells #[.int .i64 0] n) 3))
  have HS0 := Lib.hid (World.size_alloc w (.cells #[.slice none 0 0, .slice none 0 0] 78))
  go_enter Tryz.func36, Tryz.ntmps36
  go_wp2_with fail
  simp only [World.size_alloc] at HO0
  generalize (w.alloc (.cells #[.slice none 0 0, .slice none 0 0] 78)).alloc (.cells (madeCells #[.int .i64 0] n) 3) = w0 at *
  obtain ⟨G, hg⟩ : ∃ G, w.heap.size = G := ⟨_, rfl⟩
  rw [hg] at HO0 HR0 ⊢
  have HG := Lib.hid hg
  clear hg
  go_loopg [12, 4] n (fun kk iv ev wr => AnyLater w wr ∧ wr.heap[G]? = some (.cells #[.slice none 0 0, .slice none 0 0] 78) ∧ ∃ j : Nat, kk = n - j ∧ j ≤ n ∧ iv = .int .i64 j ∧ ev = .int .i64 (enR r j) ∧ ON .i64 3 wr G (.slice (some ⟨G + 1, 0, none⟩) n n) (fillE r j))
  case atStart => exact ⟨HA0.out, HR0.out, 0, by omega, by omega, rfl, rfl, HO0.out⟩
  case round =>
    obtain ⟨a_wr, hR, j, hk, hj, rfl, rfl, ho⟩ := hrel
    have HA := Lib.hid a_wr
    have HO := Lib.hid ho
    have HR := Lib.hid hR
    by_cases hlt : j < n
    · have lj : j < r.length := by rw [HL.out]; exact hlt
      have i0 : (j : Int) < (n : Int) := by omega
      have hs := enR_succ HF.out lj
      have hle := enR_le r (j + 1)
      obtain ⟨b, off, rfl, hb, hcc⟩ := HC.out (by omega)
      have c0 : wr.cell? ⟨b, off + j * 2, none⟩ = some (.int .i64 r[j].1) := (a_wr.below.cell hb).trans (hcc j lj).1
      have c1 : wr.cell? ⟨b, off + j * 2 + 1, none⟩ = some (.int .i64 r[j].2) := (a_wr.below.cell hb).trans (hcc j lj).2
      obtain ⟨G', cap', cur, e1, hB, hblk, q1, q2, q3, q4⟩ := ho.at (by rw [fillE_length (by omega)]; omega)
      rw [fillE_length (by omega), HL.out] at e1 q1
      cases e1
      have HBK := Lib.hid hblk
      have HFS := Lib.hid (fillE_set lj)
      obtain ⟨z, hz⟩ : ∃ z, cur[j]? = some (.int .i64 z) := ⟨_, q4 j (by rw [fillE_length (by omega)]; omega)⟩
      have HZ := Lib.hid hz
      generalize r[j] = rj at *
      obtain ⟨ra, rs⟩ := rj
      simp only at c0 c1 hs
      obtain ⟨x, hx⟩ : ∃ x : Int, (enR r j : Int) = x := ⟨_, rfl⟩
      obtain ⟨y, hy⟩ : ∃ y : Int, (enR r (j + 1) : Int) = y := ⟨_, rfl⟩
      have HY := Lib.hid hy
      have hxb : 0 ≤ x ∧ x ≤ 60000 := by have := enR_le r j; omega
      have hyb : 0 ≤ y ∧ y ≤ 60000 := by omega
      rw [hx, hy] at hs
      rw [hx]
      have hbb := Nat.lt_of_lt_of_le hb a_wr.below.size
      have hG0 := own_lt hR
      have hG1 := own_lt hblk
      have k1 : wr.cell? ⟨G + 1, j, none⟩ = some (.int .i64 z) := by rw [own_row hblk]; exact HZ.out
      have f1 := own_free hblk j
      clear hx hy hz q1 q2 q3 q4 ho hblk hcc hle
      go_wp2_with fail
      go_roundg (n - (j + 1))
      case measure => omega
      case rel =>
        have hgw : w.heap.size ≤ G + 1 := by rw [HG.out]; omega
        have a1 : AnyLater w (wr.setCell ⟨G + 1, j, none⟩ (.int .i64 (x + ra))) := HA.out.setCell (p := ⟨G + 1, j, none⟩) hgw _
        have h1 : (wr.setCell ⟨G + 1, j, none⟩ (.int .i64 (x + ra))).heap[G]? = some (.cells #[.slice none 0 0, .slice none 0 0] 78) := heap_far (by omega) HR.out
        have o1 := HO.out.set (i := j) (x + ra)
        rw [← hs, ← HY.out, HFS.out, HY.out] at o1
        have a2 := (AnyLater.refl (wr.setCell ⟨G + 1, j, none⟩ (.int .i64 (x + ra)))).alloc (.cells #[.int .i64 ra, .int .i64 rs] 76)
        exact ⟨a1.alloc _, any_own a2 h1, j + 1, rfl, by omega, by go_num, by rw [HY.out, hs], by rw [← hs] at a2 ⊢; exact ON.later a2 o1⟩
    · obtain rfl : j = n := by omega
      have k0 : wr.cell? ⟨G, 0, none⟩ = some (.slice none 0 0) := own_row hR 0
      have k1 : wr.cell? ⟨G, 1, none⟩ = some (.slice none 0 0) := own_row hR 1
      have f0 := own_free hR 0
      have f1 := own_free hR 1
      have a1 : AnyLater w ((wr.setCell ⟨G, 0, none⟩ (.slice A j cap)).setCell ⟨G, 1, none⟩ (.slice (some ⟨G + 1, 0, none⟩) j j)) := (a_wr.setCell (p := ⟨G, 0, none⟩) (by rw [HG.out]; exact Nat.le_refl _) _).setCell (p := ⟨G, 1, none⟩) (by rw [HG.out]; exact Nat.le_refl _) _
      have h1 : ((wr.setCell ⟨G, 0, none⟩ (.slice A j cap)).setCell ⟨G, 1, none⟩ (.slice (some ⟨G + 1, 0, none⟩) j j)).heap[G]? = some (.cells #[.slice A j cap, .slice (some ⟨G + 1, 0, none⟩) j j] 78) := heap_at (heap_at hR rfl) rfl
      have o1 : ON .i64 3 ((wr.setCell ⟨G, 0, none⟩ (.slice A j cap)).setCell ⟨G, 1, none⟩ (.slice (some ⟨G + 1, 0, none⟩) j j)) G (.slice (some ⟨G + 1, 0, none⟩) j j) (endsR r) := by
        have e := fillE_end r
        rw [HL.out] at e
        rw [← e]
        exact ho.stays (S := fun b => b = G) (((Stays.refl (fun b => b = G) wr).setCell (b := G) rfl _).setCell (b := G) rfl _) (fun k hk he => by
          have he2 : k = G := he
          have hk2 : some (G + 1) = some k := hk
          have := Option.some.inj hk2
          omega)
      have H1 := Lib.hid (And.intro a1 o1)
      have m0 := own_row h1 0
      have m1 := own_row h1 1
      clear a_wr hR ho a1 h1 o1
      go_wp2_with fail
      generalize (wr.setCell ⟨G, 0, none⟩ (.slice A j cap)).setCell ⟨G, 1, none⟩ (.slice (some ⟨G + 1, 0, none⟩) j j) = wF at *
      refine bodyPost_ret (v := .agg #[.slice A j cap, .slice (some ⟨G + 1, 0, none⟩) j j]) (by simp [results, Tryz.results36, go_sem, m0, m1]) rfl ⟨_, rfl, H1.out.1, ?_⟩
      rw [HG.out]
      exact H1.out.2
theorem endsR_get {r : Runs} {i : Nat} (h : i < r.length) : (endsR r)[i]'(by rw [endsR_length]; exact h) = (enR r (i + 1) : Int) := by simp [endsR]
theorem endsR_up {r : Runs} (h : Fairs r) : (endsR r).Pairwise (· < ·) := by
  rw [List.pairwise_iff_getElem]
  intro i j hi hj hij
  rw [endsR_length] at hi hj
  rw [endsR_get hi, endsR_get hj]
  have := enR_lt h hj
  have := enR_mono h (show i + 1 ≤ j by omega) (by omega)
  omega
theorem ends_below {r : Runs} (h : Fairs r) {f k : Nat} (hk : below ((f : Int) + 1) (endsR r) = k) : k ≤ r.length ∧ enR r k ≤ f ∧ (k < r.length → f < enR r (k + 1)) := by
  have hle := below_le (endsR r) ((f : Int) + 1)
  rw [hk, endsR_length] at hle
  refine ⟨hle, ?_, fun hlt => ?_⟩
  · rcases Nat.eq_zero_or_pos k with h0 | h0
    · subst h0; unfold enR; simp [stylesR]
    · have := (below_lt (endsR r) ((f : Int) + 1) (k - 1) (by omega)).2
      rw [getD_in (by rw [endsR_length]; omega), endsR_get (by omega), show k - 1 + 1 = k by omega] at this
      omega
  · have := below_at (endsR r) ((f : Int) + 1) (by rw [hk, endsR_length]; exact hlt)
    rw [hk, getD_in (by rw [endsR_length]; exact hlt), endsR_get hlt] at this
    omega
theorem owns_base' {B C : Nat} {w : World} {t : TypeId} {k n : Nat} {v : Value} {xs : List Value} (h : w.ownsRow B t k v n xs) (hC : C ≤ B) : w.ownsRow C t k v n xs := by
  refine ⟨h.1, ?_⟩
  rcases h.2 with q | ⟨g, cap, cur, h0, h1, h2⟩
  · exact .inl q
  · exact .inr ⟨g, cap, cur, h0, Nat.le_trans hC h1, h2⟩
set_option maxRecDepth 100000 in
set_option maxHeartbeats 3200000 in
theorem spart_any (v1 v2 : Value) (r : Runs) (f t : Nat) (w : World) (h1 : RRn w v1 r) (h2 : RI w v2 (endsR r)) (hf : Fairs r) (hft : f ≤ t) (ht : t ≤ (stylesR r).length) (hn : r.length ≤ 60000) (hl : (stylesR r).length ≤ 60000) :
    Calls Tryz.prog 117 #[.agg #[v1, v2], .int .i64 (f : Int), .int .i64 (t : Int)] w fun e w' => ∃ u Q, e = .returned u ∧ AnyLater w w' ∧ ORn w' w.heap.size u Q ∧ stylesR Q = cutZ (stylesR r) f t ∧ NumsR Q ∧ Q.length ≤ 60000 := by
  obtain ⟨k0, hk0⟩ : ∃ k, below ((f : Int) + 1) (endsR r) = k := ⟨_, rfl⟩
  obtain ⟨g1, g2, g3⟩ := ends_below hf hk0
  have HS := Lib.hid (fun (w' : World) (a : AnyLater w w') => isearch_any v2 (endsR r) ((f : Int) + 1) w' k0 hk0 (h2.later a) (endsR_up hf) (by rw [endsR_length]; omega))
  have HG := Lib.hid (And.intro g1 (And.intro g2 g3))
  have hall := enR_all r
  obtain ⟨A1, cap1, rfl, hcap1, hc1⟩ := h1
  obtain ⟨A2, cap2, rfl, hcap2, hc2⟩ := h2
  have HC1 := Lib.hid hc1
  have HC2 : Hid (∀ j, j < r.length → ∃ b off, A2 = some ⟨b, off, none⟩ ∧ b < w.heap.size ∧ w.cell? ⟨b, off + j, none⟩ = some (.int .i64 (enR r (j + 1)))) := Lib.hid (fun j hj => by
    obtain ⟨b, off, e, hb, hc⟩ := hc2 (by rw [endsR_length]; omega)
    have := hc j (by rw [endsR_length]; exact hj)
    rw [endsR_get hj] at this
    exact ⟨b, off, e, hb, this⟩)
  clear hc2
  obtain ⟨n2, hn2⟩ : ∃ n2, (endsR r).length = n2 := ⟨_, rfl⟩
  rw [hn2] at hcap2 HS ⊢
  rw [endsR_length] at hn2
  subst hn2
  have HF := Lib.hid hf
  obtain ⟨n, hnn⟩ : ∃ n, r.length = n := ⟨_, rfl⟩
  have HL := Lib.hid hnn
  rw [hnn] at hcap1 hcap2 hn hall HS ⊢
  have HALL := Lib.hid hall
  have HT := Lib.hid ht
  clear hc1 hf hnn hk0 g1 g2 g3 hall
  go_enter Tryz.func117, Tryz.ntmps117
  go_wp2_with fail
  refine (HS.out _ ((AnyLater.refl w).alloc _)).mono ?_
  rintro e w1 ⟨⟨c, rfl⟩, b1⟩
  obtain ⟨a_w1, hbx⟩ : AnyLater w w1 ∧ w1.heap[w.heap.size]? = some (.cells #[.slice A1 n cap1, .slice A2 n cap2] 78) := ⟨((AnyLater.refl w).alloc _).trans b1, any_own b1 (heap_new rfl)⟩
  clear b1
  have HA1 := Lib.hid a_w1
  have HBX := Lib.hid hbx
  clear a_w1 hbx
  go_wp2_with fail
  go_loopg [1, 7, 9] (n - k0) (fun kk fv iv lv wr => AnyLater w1 wr ∧ ∃ (i f' : Nat) (Q : Runs), kk = n - i ∧ i ≤ n ∧ fv = .int .i64 f' ∧ iv = .int .i64 i ∧ ORn wr w1.heap.size lv Q ∧ stylesR Q = cutZ (stylesR r) f f' ∧ f ≤ f' ∧ f' ≤ t ∧ (f' < t → i < n ∧ enR r i ≤ f' ∧ f' < enR r (i + 1)) ∧ NumsR Q ∧ Q.length ≤ i)
  case atStart =>
    obtain ⟨g1, g2, g3⟩ := HG.out
    rw [HL.out] at g1 g3
    refine ⟨AnyLater.refl _, k0, f, [], rfl, g1, rfl, rfl, orn_nil _ _, by rw [cutZ_nil]; rfl, Nat.le_refl _, hft, fun hlt => ?_, (fun r hr => by cases hr), Nat.zero_le _⟩
    have hlt2 : k0 < n := by
      rcases Nat.lt_or_ge k0 n with q | q
      · exact q
      · exfalso
        have e : k0 = n := by omega
        rw [e, HALL.out] at g2
        omega
    exact ⟨hlt2, g2, g3 hlt2⟩
  case round =>
    obtain ⟨a_wr, i, f', Q, hk, hi, rfl, rfl, ho, hQ, hff, hft', hin, hQN, hQl⟩ := hrel
    have HA := Lib.hid a_wr
    have hbx := any_own a_wr HBX.out
    have k0' : wr.cell? ⟨w.heap.size, 0, none⟩ = some (.slice A1 n cap1) := own_row hbx 0
    have k1' : wr.cell? ⟨w.heap.size, 1, none⟩ = some (.slice A2 n cap2) := own_row hbx 1
    have gl := own_lt hbx
    have hwr : AnyLater w wr := HA1.out.trans a_wr
    by_cases hlt : f' < t
    · obtain ⟨hin1, hen, hin2⟩ := hin hlt
      have d0 : (f' : Int) < (t : Int) := by omega
      have d1 : (i : Int) < (n : Int) := by omega
      have li : i < r.length := by rw [HL.out]; exact hin1
      obtain ⟨b1, o1, rfl, hb1, hc1⟩ := HC1.out (by omega)
      obtain ⟨b2, o2, rfl, hb2, hc2⟩ := HC2.out i li
      have c1 : wr.cell? ⟨b1, o1 + i * 2 + 1, none⟩ = some (.int .i64 r[i].2) := (hwr.below.cell hb1).trans (hc1 i li).2
      have c2 : wr.cell? ⟨b2, o2 + i, none⟩ = some (.int .i64 (enR r (i + 1))) := (hwr.below.cell hb2).trans hc2
      have hbb1 := Nat.lt_of_lt_of_le hb1 hwr.below.size
      have hbb2 := Nat.lt_of_lt_of_le hb2 hwr.below.size
      obtain ⟨e, he⟩ : ∃ e, min t (enR r (i + 1)) = e := ⟨_, rfl⟩
      have hfe : f' < e := by omega
      have het : e ≤ t := by omega
      have hee : e ≤ enR r (i + 1) := by omega
      have hcase : e = t ∨ e = enR r (i + 1) ∧ e < t := by omega
      have HST := Lib.hid (styles_more HF.out li hQ hff hen hfe hee)
      have hNr : I64s r[i].2 := by
        have := goodS_in (fairR_in (HF.out _ (List.getElem_mem li))).2.2
        constructor <;> omega
      have HNR := Lib.hid hNr
      generalize r[i].2 = rs at *
      obtain ⟨z, hz⟩ : ∃ z : Int, (enR r (i + 1) : Int) = z := ⟨_, rfl⟩
      rw [hz] at c2
      have hmn : min (t : Int) z = (e : Int) := by omega
      have hzb : 0 ≤ z ∧ z ≤ 60000 := by have := enR_le r (i + 1); omega
      have hQL9 : Q.length ≤ 90000 := by omega
      obtain ⟨A9, cb9, rfl, hcb, _⟩ := ho.reads
      have HO := Lib.hid ho
      have HQN := Lib.hid hQN
      have HQL := Lib.hid hQl
      have HK := Lib.hid (And.intro hin1 (And.intro hin2 (And.intro hff (And.intro hft' hen))))
      have HCS := Lib.hid hcase
      have HZ := Lib.hid hz
      have HT2 := Lib.hid ht
      clear hcb ho hQ hQN hQl hc1 hc2 hbx hcase hin hen hee he hNr hz
      obtain ⟨u2, w2, q1, o2, q3⟩ := appRun ((e : Int) - f', rs) HO.out HA.out.below.size hQL9
      have K1 := Lib.hid q1
      have K2 := Lib.hid (And.intro o2 (q3 w1 (Nat.le_refl _) HA.out))
      obtain ⟨A2', cb2', rfl, hcb2, -⟩ := o2.reads
      rw [List.length_append, List.length_singleton] at K1 K2
      clear q1 o2 q3 hcb2
      go_wp2_with (at_builtin; refine Lib.wpList_append_run _ rfl _ _ _ _ rfl _ _ rfl rfl _ _ K1.out ?_)
      go_roundg (n - (i + 1))
      case measure => omega
      case rel =>
        obtain ⟨m1, m2, m3, m4, m5⟩ := HK.out
        refine ⟨K2.out.2, i + 1, e, Q ++ [((e : Int) - f', rs)], rfl, m1, rfl, by go_num, K2.out.1, HST.out, by omega, het, fun q => ?_, fun x hx => ?_, by rw [List.length_append, List.length_singleton]; have := HQL.out; omega⟩
        · rcases HCS.out with q2 | ⟨q2, _⟩
          · omega
          · have q5 : i + 1 < n := by
              rcases Nat.lt_or_ge (i + 1) n with q6 | q6
              · exact q6
              · exfalso
                have q7 : i + 1 = n := by omega
                have q8 := HALL.out
                rw [← q7, ← q2] at q8
                omega
            exact ⟨q5, Nat.le_of_eq q2.symm, by rw [q2]; exact enR_lt HF.out (by rw [HL.out]; exact q5)⟩
        · rcases List.mem_append.1 hx with hx | hx
          · exact HQN.out x hx
          · rcases List.mem_singleton.1 hx with rfl
            exact ⟨by constructor <;> (show _) <;> omega, HNR.out⟩
    · have d0 : decide ((f' : Int) < (t : Int)) = false := decide_eq_false (by omega)
      have e : f' = t := by omega
      subst e
      have HQ := Lib.hid hQ
      have HO := Lib.hid ho
      obtain ⟨A9, cb9, rfl, hcb, _⟩ := ho.reads
      have HR := Lib.hid (And.intro hwr (And.intro hQN (show Q.length ≤ 60000 by omega)))
      clear hcb ho hQ hQN hQl hbx hin
      go_wp2_with fail
      go_ret
      exact ⟨_, Q, rfl, HR.out.1, owns_base' HO.out HA1.out.below.size, HQ.out, HR.out.2.1, HR.out.2.2⟩
end Go.Proofs.YtamhnffokoejjaaGreatDoor
namespace Go.Proofs.YtamhnffokoejjaaGreatDoor
set_option linter.unusedSimpArgs false
set_option linter.unusedVariables false
set_option linter.unusedSectionVars false
open Go.RowKit
def Smalls (l : Runs) : Prop := ∀ x ∈ l, 0 ≤ x.1 ∧ x.1 ≤ 16777216
theorem smalls_of {S : List Int} (hg : ∀ s ∈ S, goodS s = true) (hl : S.length ≤ 60000) : Smalls (ofR S) := fun x hx => by
  have := fairR_in (fairs_of hg (by omega) x hx)
  omega
end Go.Proofs.YtamhnffokoejjaaGreatDoor
