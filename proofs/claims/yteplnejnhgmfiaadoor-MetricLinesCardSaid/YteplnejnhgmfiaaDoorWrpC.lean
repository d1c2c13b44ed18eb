/- wrap: the document's End, Next and Rows, by contract. -/
import Derived.Test.YteplnejnhgmfiaaDoorWrpA
import Derived.Test.YteplnejnhgmfiaaDoorFree
import Derived.Deep.LoopGhost
import Derived.Deep.OwnRows
import Derived.Deep.QuietTactic
import Derived.Deep.CutBlock
namespace Go.Proofs.YteplnejnhgmfiaaDoor
set_option linter.unusedSimpArgs false
set_option linter.unusedVariables false
set_option linter.unusedSectionVars false
open Go.RowKit

set_option maxRecDepth 100000 in
set_option maxHeartbeats 1600000 in
theorem xend_any (v : Value) (l : Cels) (f t : Nat) (w : World) (hv : FR celF w v l) (hN : CelsOk l) (hl : l.length ≤ 4000) (hf : f ≤ t) (ht : t ≤ l.length) :
    Calls Tryd.prog 59 #[v, .int .i64 f, .int .i64 t] w fun e w' => e = .returned (.int .i64 (wEnd l f t)) ∧ AnyLater w w' := by
  obtain ⟨u, hu, hcut⟩ := hv.partF celFT f t hf ht
  have hlen : ((l.take t).drop f).length = t - f := by rw [List.length_drop, List.length_take]; omega
  have HX := Lib.hid (cxxs_any u ((l.take t).drop f) w hu (fun c hc => hN c (List.mem_of_mem_take (List.mem_of_mem_drop hc))) (by omega))
  have HLEN := Lib.hid hlen
  have hxl : (xsC 0 ((l.take t).drop f)).length = t - f + 1 := by rw [xsC_length, hlen]
  have hlast := xsC_last ((l.take t).drop f) 0
  rw [hlen] at hlast
  obtain ⟨z, hz⟩ : ∃ z, wEnd l f t = z := ⟨_, rfl⟩
  have hlast2 : (xsC 0 ((l.take t).drop f))[t - f]? = some z := by rw [← hz]; exact hlast
  rw [hz]
  generalize xsC 0 ((l.take t).drop f) = xs at *
  obtain ⟨q, hq⟩ : ∃ q, t - f = q := ⟨_, rfl⟩
  rw [hq] at hxl hlast2
  have HXL := Lib.hid (And.intro hxl hlast2)
  have hq4 : q ≤ 4000 := by omega
  obtain ⟨A, cap, rfl, hc⟩ := hv.form
  generalize l.length = n at *
  clear hv hu hN hlen hxl hlast hlast2 hz hq HLEN
  go_enter Tryd.func59, Tryd.ntmps59
  go_wp2_with fail
  refine HX.out.mono ?_
  rintro e w1 ⟨u1, rfl, b1, o1⟩
  have HA := Lib.hid b1
  obtain ⟨g, cap', cur, rfl, hB, hblk, q1, q2, q3, q4⟩ := ON.at o1 (by rw [HXL.out.1]; omega)
  rw [HXL.out.1] at q1 ⊢
  have d0 : w1.cell? ⟨g, q, none⟩ = some (.int .i64 z) := by
    rw [own_row hblk, q4 q (by rw [HXL.out.1]; omega)]
    have := HXL.out.2
    rw [List.getElem?_eq_getElem (by rw [HXL.out.1]; omega)] at this
    rw [Option.some.inj this]
  clear o1 b1 q4 hblk
  go_wp2_with fail
  go_ret
  exact ⟨rfl, HA.out⟩

set_option maxRecDepth 100000 in
set_option maxHeartbeats 1600000 in
theorem xnext_any (v : Value) (l : Cels) (f : Nat) (x : Int) (w : World) (hv : FR celF w v l) (hN : CelsOk l) (hl : l.length ≤ 4000) (hf : f ≤ l.length) (hx : I64s x) :
    Calls Tryd.prog 58 #[v, .int .i64 f, .int .i64 x] w fun e w' => e = .returned (.int .i64 (wNext l (max x 1) f)) ∧ AnyLater w w' := by
  obtain ⟨A, cap, rfl, hc⟩ := hv.form
  have HV := Lib.hid hv
  have HNN := Lib.hid hN
  obtain ⟨m, hm⟩ : ∃ m, max x 1 = m := ⟨_, rfl⟩
  have hcase : (x < 1 ∧ m = 1) ∨ (decide (x < 1) = false ∧ m = x) := by
    by_cases q : x < 1
    · exact .inl ⟨q, by omega⟩
    · exact .inr ⟨decide_eq_false q, by omega⟩
  rw [hm]
  have HX := Lib.hid (fun t (h : f ≤ t) (k : t ≤ l.length) w' (a : AnyLater w w') => xend_any (.slice A l.length cap) l f t w' (hv.later a) hN hl h k)
  obtain ⟨n, hn⟩ : ∃ n, l.length = n := ⟨_, rfl⟩
  obtain ⟨st, hst⟩ : ∃ st : Nat → Nat, (fun t => wStop l m f (n - t) t) = st := ⟨_, rfl⟩
  have HGO : Hid (∀ t, t < n → (t = f ∨ wEnd l f (t + 1) ≤ m) → st t = st (t + 1)) := Lib.hid (fun t h k => by
    rw [← hst, ← hn]; exact wStop_go (by omega) k)
  have HEND : Hid (∀ t, t ≠ f → m < wEnd l f (t + 1) → st t = t) := Lib.hid (fun t h k => by
    rw [← hst, ← hn]; exact wStop_end h k)
  have HALL : Hid (st n = n) := Lib.hid (by rw [← hst]; simp only [Nat.sub_self]; rfl)
  have HDEC : Hid (∀ z : Int, decide (z ≤ m) = true ∧ z ≤ m ∨ decide (z ≤ m) = false ∧ m < z) := Lib.hid (fun z => by
    by_cases q : z ≤ m
    · exact .inl ⟨decide_eq_true q, q⟩
    · exact .inr ⟨decide_eq_false q, by omega⟩)
  obtain ⟨N, hN2⟩ : ∃ N, wNext l m f = N := ⟨_, rfl⟩
  have HNA : Hid (st f = n → N = n) := Lib.hid (fun h => by
    rw [← hst, ← hn] at h
    rw [← hN2, ← hn]
    exact wNext_all h)
  have HNP : Hid (∀ t, st f = t → t < n → N = wBreak l f t) := Lib.hid (fun t h k => by
    rw [← hst, ← hn] at h
    rw [← hn] at k
    rw [← hN2]
    exact wNext_part h k)
  obtain ⟨T, hT⟩ : ∃ T, st f = T := ⟨_, rfl⟩
  have HT := Lib.hid hT
  have HL := Lib.hid hn
  rw [hN2]
  rw [hn] at HV hc hl hf HX ⊢
  obtain ⟨hx1, hx2⟩ := hx
  clear hv hN hn hm hT hst hN2
  go_enter Tryd.func58, Tryd.ntmps58
  rcases hcase with ⟨h1, rfl⟩ | ⟨h1, rfl⟩
  all_goals
    go_wp2_with fail
    go_loopg [7] (n - f) (fun kk tv wr => AnyLater w wr ∧ ∃ t : Nat, kk = n - t ∧ f ≤ t ∧ t ≤ n ∧ tv = .int .i64 t ∧ st t = T)
    case atStart => exact ⟨AnyLater.refl _, f, rfl, Nat.le_refl _, hf, rfl, HT.out⟩
    case round =>
      obtain ⟨a_wr, t, hk, hft, htn, rfl, hst⟩ := hrel
      have HA := Lib.hid a_wr
      have HST := Lib.hid hst
      clear hst a_wr
      by_cases hlt : t < n
      · have i0 : (t : Int) < (n : Int) := by omega
        by_cases hq : t = f
        · have d1 : ((t : Int) == (f : Int)) = true := by simp [hq]
          have HG : Hid (st (t + 1) = T) := Lib.hid (by rw [← HGO.out t hlt (.inl hq), HST.out])
          clear hq
          go_wp2_with fail
          go_roundg (n - (t + 1))
          case measure => omega
          case rel => exact ⟨HA.out, t + 1, rfl, by omega, by omega, by go_num, HG.out⟩
        · have d1 : ((t : Int) == (f : Int)) = false := by simpa using (by omega : (t : Int) ≠ (f : Int))
          have HXE : Hid (∀ w', AnyLater w w' → Calls Tryd.prog 59 #[.slice A n cap, .int .i64 f, .int .i64 ((t : Int) + 1)] w' fun e w'' => e = .returned (.int .i64 (wEnd l f (t + 1))) ∧ AnyLater w' w'') := Lib.hid (fun w' a => HX.out (t + 1) (by omega) (by omega) w' a)
          have HGT := Lib.hid (HGO.out t hlt)
          have HET := Lib.hid (HEND.out t hq)
          have hzb := wEnd_in l f (t + 1)
          obtain ⟨z, hz⟩ : ∃ z, wEnd l f (t + 1) = z := ⟨_, rfl⟩
          rw [hz] at HXE HGT HET hzb
          obtain ⟨z1, z2⟩ := hzb
          clear hz
          rcases HDEC.out z with ⟨d2, hle⟩ | ⟨d2, hgt⟩
          · have HG : Hid (st (t + 1) = T) := Lib.hid (by rw [← HGT.out (.inr hle), HST.out])
            clear hq hle
            go_wp2_with fail
            refine (HXE.out _ HA.out).mono ?_
            rintro e w4 ⟨rfl, b4⟩
            have HA4 := Lib.hid (HA.out.trans b4)
            clear b4
            go_wp2_with fail
            go_roundg (n - (t + 1))
            case measure => omega
            case rel => exact ⟨HA4.out, t + 1, rfl, by omega, by omega, by go_num, HG.out⟩
          · have HTt : Hid (T = t) := Lib.hid (by rw [← HST.out, HET.out hgt])
            have HNN2 : Hid (N = wBreak l f t) := Lib.hid (HNP.out t (by rw [HT.out, HTt.out]) hlt)
            have hft2 : f < t := by omega
            have d3 : decide ((n : Int) ≤ (t : Int)) = false := decide_eq_false (by omega)
            clear hq hgt
            go_wp2_with fail
            refine (HXE.out _ HA.out).mono ?_
            rintro e w4 ⟨rfl, b4⟩
            have HA4 := Lib.hid (HA.out.trans b4)
            clear b4
            go_wp2_with fail
            go_loopg [8] (t - f) (fun kk kv wr => AnyLater w wr ∧ ∃ k : Nat, kk = k - f ∧ f ≤ k ∧ k ≤ t ∧ kv = .int .i64 k ∧ wLast l f t = wLast l f k)
            case atStart => exact ⟨HA4.out, t, rfl, by omega, Nat.le_refl _, rfl, rfl⟩
            case round =>
              obtain ⟨a_wr, k, hk, hfk, hkt, rfl, hla⟩ := hrel
              have HA := Lib.hid a_wr
              have HLA := Lib.hid hla
              clear hla
              by_cases hkf : f < k
              · obtain ⟨j, rfl⟩ : ∃ j, k = j + 1 := ⟨k - 1, by omega⟩
                have i1 : (f : Int) < (j : Int) + 1 := by omega
                have lj : j < l.length := by rw [HL.out]; omega
                have hB := wBl_at lj
                obtain ⟨b, off, rfl, hb, c0, c1, c2, c3⟩ := celAt (HV.out.later a_wr) j lj
                have hok := HNN.out l[j] (List.getElem_mem lj)
                generalize l[j] = cel at *
                obtain ⟨ca, cn, cr, cs⟩ := cel
                simp only at c0 c1 c2 c3
                have HB := Lib.hid hB
                clear hB hok c0 c1 c3 a_wr lj
                rw [Int.natCast_add] at *
                by_cases hbl : wBl l j = true
                · have HR : Hid (N = j + 1) := Lib.hid (by
                    have e := wLast_yes (show f ≤ j by omega) hbl
                    rw [HNN2.out]; unfold wBreak; rw [HLA.out, e, if_neg (by omega)])
                  have hcr : cr = 9 ∨ cr = 32 := by
                    have := HB.out; rw [hbl] at this
                    simpa [blC] using this.symm
                  clear hbl
                  rcases hcr with rfl | rfl
                  all_goals
                    go_wp2_with fail
                    go_ret
                    exact ⟨ret_i64 (by rw [HR.out]; rfl), HA.out⟩
                · have hbf : wBl l j = false := by simpa using hbl
                  have HLN : Hid (wLast l f t = wLast l f j) := Lib.hid (by rw [HLA.out]; exact wLast_no (by omega) hbf)
                  have hcr : ¬ (cr = 9 ∨ cr = 32) := by
                    have := HB.out; rw [hbf] at this
                    simpa [blC] using this.symm
                  have e1 : (cr == 32) = false := by simpa using (by omega : cr ≠ 32)
                  have e2 : (cr == 9) = false := by simpa using (by omega : cr ≠ 9)
                  clear hbl hbf hcr
                  go_wp2_with fail
                  go_roundg (j - f)
                  case measure => omega
                  case rel => exact ⟨HA.out, j, rfl, by omega, by omega, by go_num, HLN.out⟩
              · obtain rfl : k = f := by omega
                have HR : Hid (N = t) := Lib.hid (by rw [HNN2.out]; unfold wBreak; rw [HLA.out, wLast_self, if_pos rfl])
                clear a_wr
                go_wp2_with fail
                go_ret
                exact ⟨ret_i64 (by rw [HR.out]), HA.out⟩
      · obtain rfl : t = n := by omega
        have HR : Hid (N = t) := Lib.hid (HNA.out (by rw [HT.out, ← HST.out, HALL.out]))
        go_wp2_with fail
        go_ret
        exact ⟨ret_i64 (by rw [HR.out]), HA.out⟩
end Go.Proofs.YteplnejnhgmfiaaDoor
