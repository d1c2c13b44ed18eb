/- cells: the program's Bytes; the law's lives: by contract. -/
import Derived.Test.YtimplngemjdodaaDoorCelD
import Derived.Lib.SlBytesConst
namespace Go.Proofs.YtimplngemjdodaaDoor
set_option linter.unusedSimpArgs false
set_option linter.unusedVariables false
set_option linter.unusedSectionVars false
open Go.RowKit

/-! ### Bytes -/
/-- the bytes that a cell has of a line -/
def byteC (l : List Int) (c : Cel) : List Int := if 0 ≤ c.1 ∧ c.1 ≤ (l.length : Int) ∧ 0 ≤ c.2.1 ∧ c.2.1 ≤ (l.length : Int) - c.1 then (l.drop c.1.toNat).take c.2.1.toNat else []
def bytesC (l : List Int) (L : Cels) : List Int := L.flatMap (byteC l)
theorem bytesC_nil (l : List Int) : bytesC l [] = [] := rfl
theorem bytesC_append (l : List Int) (a b : Cels) : bytesC l (a ++ b) = bytesC l a ++ bytesC l b := by unfold bytesC; rw [List.flatMap_append]
theorem bytesC_one (l : List Int) (c : Cel) : bytesC l [c] = byteC l c := by simp [bytesC]
theorem byteC_length (l : List Int) (c : Cel) : (byteC l c).length ≤ l.length := by
  unfold byteC
  split
  · rw [List.length_take, List.length_drop]; omega
  · exact Nat.zero_le _
theorem bytesC_length (l : List Int) : ∀ L : Cels, (bytesC l L).length ≤ L.length * l.length
  | [] => Nat.zero_le _
  | c :: L => by
    have h1 := byteC_length l c
    have h2 := bytesC_length l L
    show (byteC l c ++ bytesC l L).length ≤ _
    rw [List.length_append, List.length_cons, Nat.add_mul, Nat.one_mul]
    omega
/-- P17.4 -/
theorem bytesC_of {l : List Int} (hb : Bytes l) (sty : Nat → Int) : ∀ c, bytesC l (celsU l sty c) = l.take (it l c)
  | 0 => rfl
  | c + 1 => by
    have h1 := it_le hb c
    have h2 := dec_len (hb.drop (it l c))
    rw [List.length_drop] at h2
    rw [celsU_succ, bytesC_append, bytesC_of hb sty c, bytesC_one, it_succ]
    unfold byteC
    rw [if_pos (by simp only; omega)]
    simp only [Int.toNat_natCast]
    rw [List.take_add]
set_option maxRecDepth 100000 in
/-- v[a:a+n] -/
theorem RN.cut2 {w : World} {v : Value} {l : List Int} (h : RU8 w v l) (a n : Nat) (hn : a + n ≤ l.length) : ∃ A' c', RU8 w (.slice A' n c') ((l.drop a).take n) ∧ ∀ w', (Instr.sliceAt 22 v (some (.int .i64 (a : Int))) (some (.int .i64 ((a : Int) + (n : Int)))) none).run Tryd.prog w' = .ok (.slice A' n c') w' := by
  obtain ⟨A, cap, rfl, h2, h3⟩ := h
  have hd := RN.drop ⟨A, cap, rfl, h2, h3⟩ a (by omega)
  rw [← List.length_drop] at hd
  have ht := RN.take hd n (by rw [List.length_drop]; omega)
  refine ⟨_, _, ht, fun w' => ?_⟩
  rw [run_sliceAt_slice w' _ _ _ _ _ Tryd.underlying22, run_slice_lh w' _ A l.length cap Tryd.underlying22 .i64 .i64 (a : Int) ((a : Int) + (n : Int)) (by omega) (by omega) (by omega)]
  have hz : ∀ w, (Go.sizeOf (Tryd.prog.elem 22)).run Tryd.prog w = .ok 1 w := fun w => by simp [go_sem]
  rw [hz]
  simp only [Result.andThen, sliced, Int.toNat_natCast, Nat.mul_one]
  rw [show ((a : Int) + (n : Int)).toNat - a = n by omega]
set_option maxRecDepth 100000 in
set_option maxHeartbeats 1600000 in
theorem cbytes_any (v vb : Value) (L : Cels) (l : List Int) (w : World) (hv : FR celF w v L) (hb : RU8 w vb l) (hL : L.length ≤ 200) (hl : l.length ≤ 200) :
    Calls Tryd.prog 14 #[v, vb] w fun e w' => ∃ u, e = .returned u ∧ AnyLater w w' ∧ ON .u8 5 w' w.heap.size u (bytesC l L) := by
  obtain ⟨A, cap, rfl, hc⟩ := hv.form
  obtain ⟨A1, cap1, rfl, hc1⟩ := hb.form
  have HV := Lib.hid hv
  have HB := Lib.hid hb
  obtain ⟨n, hn⟩ : ∃ n, L.length = n := ⟨_, rfl⟩
  have HN := Lib.hid hn
  obtain ⟨m, hm⟩ : ∃ m, l.length = m := ⟨_, rfl⟩
  have HM := Lib.hid hm
  rw [hn] at HV hc hL ⊢
  rw [hm] at HB hc1 hl ⊢
  have HY := Lib.hid (fun a n w h => pspan_yes a n (m : Int) w h (by omega))
  have HZ := Lib.hid (fun a n w h => pspan_no a n (m : Int) w h (by omega) (by omega))
  clear hv hb hn hm
  go_enter Tryd.func14, Tryd.ntmps14
  go_wp2_with fail
  go_loopg [5, 13] n (fun kk ov iv wr => AnyLater w wr ∧ ∃ j : Nat, kk = n - j ∧ j ≤ n ∧ iv = .int .i64 j ∧ ON .u8 5 wr w.heap.size ov (bytesC l (L.take j)))
  case atStart => exact ⟨AnyLater.refl _, 0, by omega, by omega, rfl, rfl, .inl ⟨rfl, rfl⟩⟩
  case round =>
    obtain ⟨a_wr, j, hk, hj, rfl, ho⟩ := hrel
    have HA := Lib.hid a_wr
    have HO := Lib.hid ho
    obtain ⟨A3, cp3, rfl, h3⟩ := ho.form
    by_cases hlt : j < n
    · have lj : j < L.length := by rw [HN.out]; exact hlt
      have i0 : (j : Int) < (n : Int) := by omega
      obtain ⟨b, off, rfl, hb, c0, c1, c2, c3⟩ := celAt (HV.out.later a_wr) j lj
      have HT := Lib.hid (cels_take lj)
      have hlen : (bytesC l (L.take j)).length ≤ 40000 := by
        have := bytesC_length l (L.take j)
        rw [List.length_take, HN.out, HM.out] at this
        have h2 : min j n * m ≤ 200 * 200 := Nat.mul_le_mul (by omega) hl
        omega
      generalize L[j] = cel at *
      obtain ⟨ca, cn, cr, cs⟩ := cel
      simp only at c0 c1 c2 c3
      have HA0 := Lib.hid (a_wr.alloc (.cells #[.int .i64 ca, .int .i64 cn, .int .i32 cr, .int .i64 cs] 41))
      have HO0 := Lib.hid (ON.later ((AnyLater.refl wr).alloc (.cells #[.int .i64 ca, .int .i64 cn, .int .i32 cr, .int .i64 cs] 41)) ho)
      by_cases hs : Span3 ca cn (m : Int)
      · have HY2 := Lib.hid (fun w => HY.out ca cn w hs)
        obtain ⟨s1, s2, s3, s4⟩ := hs
        obtain ⟨a, rfl⟩ := Int.eq_ofNat_of_zero_le s1
        obtain ⟨q, rfl⟩ := Int.eq_ofNat_of_zero_le s3
        have hq : a + q ≤ l.length := by rw [HM.out]; omega
        have HE : Hid (bytesC l (L.take (j + 1)) = bytesC l (L.take j) ++ (l.drop a).take q) := Lib.hid (by
          rw [HT.out, bytesC_append, bytesC_one]
          unfold byteC
          rw [if_pos (by simp only; omega)]
          rfl)
        obtain ⟨A5, c5, h5, hcut⟩ := (HB.out.later HA0.out).cut2 a q hq
        have hl5 : ((l.drop a).take q).length = q := by rw [List.length_take, List.length_drop]; omega
        obtain ⟨u2, w6, k1, k2, k3⟩ := appN (s := 22) Tryd.underlying22 info_u8 (by decide) HO0.out h5 HA0.out.below.size (by rw [hl5]; omega)
        have K1 := Lib.hid k1
        have K3 := Lib.hid (ON.grown HO0.out (Nat.le_refl _) HA0.out k3)
        have K2 : Hid (ON .u8 5 w6 w.heap.size u2 (bytesC l (L.take (j + 1)))) := Lib.hid (by rw [HE.out]; exact k2)
        clear k1 k2 k3 ho a_wr h5 hlen hl5
        go_wp2_with fail
        refine (HY2.out _).mono ?_
        rintro e w4 ⟨rfl, rfl⟩
        go_wp2_with (at_builtin; refine Lib.wpList_append_run _ rfl _ _ _ _ rfl _ _ rfl rfl _ _ K1.out ?_)
        go_roundg (n - (j + 1))
        case measure => omega
        case rel => exact ⟨K3.out, j + 1, rfl, by omega, by go_num, K2.out⟩
      · have HZ2 := Lib.hid (fun w => HZ.out ca cn w hs)
        have HE : Hid (bytesC l (L.take (j + 1)) = bytesC l (L.take j)) := Lib.hid (by
          rw [HT.out, bytesC_append, bytesC_one]
          unfold byteC
          rw [if_neg (by simp only; rw [HM.out]; exact hs), List.append_nil])
        have K2 : Hid (ON .u8 5 (wr.alloc (.cells #[.int .i64 ca, .int .i64 cn, .int .i32 cr, .int .i64 cs] 41)) w.heap.size (.slice A3 (bytesC l (L.take j)).length cp3) (bytesC l (L.take (j + 1)))) := Lib.hid (by rw [HE.out]; exact HO0.out)
        clear ho a_wr hs
        go_wp2_with fail
        refine (HZ2.out _).mono ?_
        rintro e w4 ⟨rfl, rfl⟩
        go_wp2_with fail
        go_roundg (n - (j + 1))
        case measure => omega
        case rel => exact ⟨HA0.out, j + 1, rfl, by omega, by go_num, K2.out⟩
    · obtain rfl : j = n := by omega
      have HE : Hid (L.take j = L) := Lib.hid (List.take_of_length_le (by rw [HN.out]; exact Nat.le_refl _))
      have HF : Hid (ON .u8 5 wr w.heap.size (.slice A3 (bytesC l (L.take j)).length cp3) (bytesC l L)) := Lib.hid (by have h := HO.out; rw [HE.out] at h ⊢; exact h)
      clear a_wr ho
      go_wp2_with fail
      go_ret
      exact ⟨_, rfl, HA.out, HF.out⟩

/-! ### lives -/
theorem cnt_live : Cnt [97, 9, 98] 3 := ⟨by decide, fun j hj => by
  have : j = 0 ∨ j = 1 ∨ j = 2 := by omega
  rcases this with rfl | rfl | rfl <;> decide⟩
theorem cels_live : celsU [97, 9, 98] (fun p => (styD [] 0 ([97, 9, 98] : List Int).length).getD p 0) 3 = [(0, 1, 97, 0), (1, 1, 9, 0), (2, 1, 98, 0)] := by decide
set_option maxRecDepth 100000 in
set_option maxHeartbeats 3200000 in
theorem celives_any (w : World) (hg : GlobU w) : Calls Tryd.prog 9 #[] w fun e w' => e = .returned (.bool true) ∧ AnyLater w w' := by
  have kc := fun (w : World) (C : Array Value) (n c : Nat) => Lib.run_convert_bytes_const (P := Tryd.prog) w 22 5 C n c Tryd.underlying22 Tryd.underlying5
  obtain ⟨w4, hw4⟩ : ∃ w4, w.alloc (.cells #[.int .u8 97, .int .u8 9, .int .u8 98] 5 (3, 4)) = w4 := ⟨_, rfl⟩
  have a4 : AnyLater w w4 := by rw [← hw4]; exact (AnyLater.refl w).alloc _
  have o4 : RU8 w4 (.slice (some ⟨w.heap.size, 0, none⟩) 3 3) [97, 9, 98] := ⟨_, 3, rfl, by decide, fun _ => ⟨w.heap.size, 0, rfl, by rw [← hw4]; simp, fun j hj => by
    have hj2 : j = 0 ∨ j = 1 ∨ j = 2 := by simp at hj; omega
    have hh : w4.heap[w.heap.size]? = some (.cells #[.int .u8 97, .int .u8 9, .int .u8 98] 5 (3, 4)) := by rw [← hw4]; exact heap_new rfl
    rcases hj2 with rfl | rfl | rfl <;> simp [World.cell?, hh]⟩⟩
  have HO := Lib.hid (cof_any (.slice (some ⟨w.heap.size, 0, none⟩) 3 3) (.slice none 0 0) [97, 9, 98] [] 0 3 w4 o4 (by unfold Bytes; decide) (by decide) (hg.later a4) cnt_live ⟨none, 0, rfl, Nat.le_refl _, fun h => absurd h (by decide)⟩ (fun r hr => by cases hr) (by decide) (by constructor <;> omega))
  rw [cels_live] at HO
  have HA4 := Lib.hid a4
  clear o4 a4 hg
  go_enter Tryd.func9, Tryd.ntmps9
  go_wp2_with fail
  refine HO.out.mono ?_
  rintro e w5 ⟨u5, rfl, b5, o5⟩
  have HX := Lib.hid (cxs_any u5 _ w5 o5.fr (by
    intro c hc
    simp only [List.mem_cons, List.not_mem_nil, or_false] at hc
    rcases hc with rfl | rfl | rfl <;> exact ⟨by constructor <;> decide, by constructor <;> decide, by constructor <;> decide, by constructor <;> decide⟩) (by decide))
  have HA5 := Lib.hid (HA4.out.trans b5)
  clear b5 o5
  go_wp2_with fail
  refine HX.out.mono ?_
  rintro e w6 ⟨u6, rfl, b6, o6⟩
  have HA6 := Lib.hid (HA5.out.trans b6)
  have ex : xsC 0 [(0, 1, 97, 0), (1, 1, 9, 0), (2, 1, 98, 0)] = [0, 6, 48, 54] := by decide
  rw [ex] at o6
  obtain ⟨g, cap, cur, rfl, hB, hbk, -, -, -, k⟩ := ON.at o6 (by decide)
  have c1 : w6.cell? ⟨g, 1, none⟩ = some (.int .i64 6) := by rw [own_row hbk]; exact k 1 (by decide)
  have c2 : w6.cell? ⟨g, 2, none⟩ = some (.int .i64 48) := by rw [own_row hbk]; exact k 2 (by decide)
  have c3 : w6.cell? ⟨g, 3, none⟩ = some (.int .i64 54) := by rw [own_row hbk]; exact k 3 (by decide)
  clear b6 o6 k hbk ex
  simp only [List.length_cons, List.length_nil, Nat.zero_add, Nat.reduceAdd] at *
  go_wp2_with fail
  go_ret
  exact ⟨rfl, HA6.out⟩
end Go.Proofs.YtimplngemjdodaaDoor
