/- utf: the document's own Decode, by contract. -/
import Derived.Test.YtimplngemjdodaaDoorUtfF
import Derived.Test.YtimplngemjdodaaDoorFree
namespace Go.Proofs.YtimplngemjdodaaDoor
set_option linter.unusedSimpArgs false
set_option linter.unusedVariables false
set_option linter.unusedSectionVars false
open Go.RowKit

theorem ON.gives {k : IntKind} {t : TypeId} {w : World} {B : Nat} {v : Value} {l : List Int} (h : ON k t w B v l) : ∀ b, vblk v = some b → B ≤ b ∧ b < w.heap.size := by
  rcases h.2 with ⟨rfl, _⟩ | ⟨g, cap, cur, rfl, h1, h2, _⟩
  · intro b hb; cases hb
  · intro b hb
    simp only [vblk, Option.some.injEq] at hb
    subst hb
    exact ⟨h1, own_lt h2⟩
/-- what the document's own Decode reckons of the first n bytes, i of them taken -/
def xw (l : List Int) (n : Nat) : Nat → Int
  | 0 => if n = 2 then l.getD 0 0 % 32 else if n = 3 then l.getD 0 0 % 16 else if n = 4 then l.getD 0 0 % 8 else l.getD 0 0
  | 1 => if n = 2 then l.getD 0 0 % 32 else if n = 3 then l.getD 0 0 % 16 else if n = 4 then l.getD 0 0 % 8 else l.getD 0 0
  | i + 2 => xw l n (i + 1) * 64 + l.getD (i + 1) 0 % 64
theorem xw_succ (l : List Int) (n : Nat) {i : Nat} (h : 1 ≤ i) : xw l n (i + 1) = xw l n i * 64 + l.getD i 0 % 64 := by
  obtain ⟨j, rfl⟩ : ∃ j, i = j + 1 := ⟨i - 1, by omega⟩
  rfl
theorem getD_byte {l : List Int} (hb : Bytes l) (j : Nat) : 0 ≤ l.getD j 0 ∧ l.getD j 0 ≤ 255 := by
  by_cases q : j < l.length
  · rw [List.getD_eq_getElem?_getD, List.getElem?_eq_getElem q]; exact hb.get q
  · rw [List.getD_eq_getElem?_getD, List.getElem?_eq_none (by omega)]; simp
theorem xw_one {l : List Int} (hb : Bytes l) (n : Nat) : 0 ≤ xw l n 1 ∧ xw l n 1 ≤ 255 := by
  have := getD_byte hb 0
  show 0 ≤ (if n = 2 then l.getD 0 0 % 32 else if n = 3 then l.getD 0 0 % 16 else if n = 4 then l.getD 0 0 % 8 else l.getD 0 0) ∧ (if n = 2 then l.getD 0 0 % 32 else if n = 3 then l.getD 0 0 % 16 else if n = 4 then l.getD 0 0 % 8 else l.getD 0 0) ≤ 255
  repeat' (first | omega | split)
theorem xw_in {l : List Int} (hb : Bytes l) (n : Nat) {i : Nat} (h1 : 1 ≤ i) (h : i ≤ 4) : 0 ≤ xw l n i ∧ xw l n i ≤ 67108863 := by
  have x1 := xw_one hb n
  have x2 : xw l n 2 = xw l n 1 * 64 + l.getD 1 0 % 64 := rfl
  have x3 : xw l n 3 = xw l n 2 * 64 + l.getD 2 0 % 64 := rfl
  have x4 : xw l n 4 = xw l n 3 * 64 + l.getD 3 0 % 64 := rfl
  have : i = 1 ∨ i = 2 ∨ i = 3 ∨ i = 4 := by omega
  rcases this with rfl | rfl | rfl | rfl <;> omega
def tU (l : List Int) (n : Nat) : Bool := decide (xw l n n < 1114112) && decide (encU (xw l n n) = l.take n)
theorem xw_enc (a b c d : Int) (t : List Int) : xw (a :: t) 1 1 = a ∧ xw (a :: b :: t) 2 2 = a % 32 * 64 + b % 64 ∧ xw (a :: b :: c :: t) 3 3 = (a % 16 * 64 + b % 64) * 64 + c % 64 ∧ xw (a :: b :: c :: d :: t) 4 4 = ((a % 8 * 64 + b % 64) * 64 + c % 64) * 64 + d % 64 := by
  refine ⟨rfl, rfl, rfl, rfl⟩
/-- where the bytes are what was reckoned, it is told -/
theorem tU_yes {l : List Int} (hb : Bytes l) {n : Nat} (h1 : 1 ≤ n) (h4 : n ≤ 4) (hn : n ≤ l.length) (h : tU l n = true) : decU l = (xw l n n, n) := by
  unfold tU at h
  rw [Bool.and_eq_true] at h
  have e := of_decide_eq_true h.2
  have hl : (l.take n).length = n := by rw [List.length_take]; omega
  rcases hg : goodR (xw l n n)
  · exfalso
    rw [encU_bad hg] at e
    rw [← e] at hl
    obtain rfl : n = 3 := by simpa using hl.symm
    match l, hn, e, hg with
    | a :: b :: c :: t, _, e, hg =>
      have e2 : ([239, 191, 189] : List Int) = [a, b, c] := e
      simp only [List.cons.injEq, and_true] at e2
      obtain ⟨rfl, rfl, rfl⟩ := e2
      rw [(xw_enc 239 191 189 0 t).2.2.1] at hg
      revert hg
      decide
  · rw [encU_of hg] at e
    exact dec_of hg e.symm (by rw [e]; exact hl)
/-- where no bytes are, none is told -/
theorem tU_no {l : List Int} (hb : Bytes l) (h0 : l ≠ []) (h : ∀ n, 1 ≤ n → n ≤ 4 → n ≤ l.length → tU l n = false) : decU l = (65533, 1) := by
  rcases dec_cases l hb with ⟨e, _⟩ | ⟨r, rest, hg, rfl, e⟩ | ⟨_, e⟩
  · exact absurd e h0
  · exfalso
    have hl := encN_len hg
    have hf := h (encN r).length hl.1 hl.2 (by simp)
    have hx : xw (encN r ++ rest) (encN r).length (encN r).length = r := by
      rcases encN_shape hg with ⟨h1, e⟩ | ⟨a, b, e, h1, h2, h3, h4, h5⟩ | ⟨a, b, c, e, h1, h2, h3, h4, h5, h6, h7, h8, h9⟩ | ⟨a, b, c, d, e, h1, h2, h3, h4, h5, h6, h7, h8, h9, ha, hb⟩ <;> rw [e]
      · exact (xw_enc r 0 0 0 rest).1
      · refine (xw_enc a b 0 0 rest).2.1.trans ?_
        rw [h5]; unfold v2; omega
      · refine (xw_enc a b c 0 rest).2.2.1.trans ?_
        rw [h9]; unfold v3; omega
      · refine (xw_enc a b c d rest).2.2.2.trans ?_
        rw [hb]; unfold v4; omega
    unfold tU at hf
    rw [hx, encU_of hg, List.take_left' rfl] at hf
    have := goodR_in hg
    simp at hf
    omega
  · exact e
set_option maxRecDepth 100000 in
set_option maxHeartbeats 6400000 in
theorem refDec_any (v : Value) (l : List Int) (w : World) (r : Int) (k : Nat) (hc : decU l = (r, k)) (hv : RU8 w v l) (hb : Bytes l) (hl : l.length ≤ 1000) :
    Calls Tryd.prog 31 #[v] w fun e w' => e = .returned (.tuple #[.int .i32 r, .int .i64 (k : Int)]) ∧ AnyLater w w' := by
  have HV := Lib.hid hv
  obtain ⟨A, cap, rfl, hcap, hcell⟩ := hv
  by_cases h0 : l.length = 0
  · obtain rfl := List.eq_nil_of_length_eq_zero h0
    obtain ⟨rfl, rfl⟩ : (0 : Int) = r ∧ 0 = k := by have : ((0 : Int), (0 : Nat)) = (r, k) := hc
                                                    cases this; exact ⟨rfl, rfl⟩
    clear hc hb hcell HV
    simp only [List.length_nil] at *
    go_enter Tryd.func31, Tryd.ntmps31
    go_wp2_with fail
    go_ret2
    exact ⟨rfl, AnyLater.refl _⟩
  obtain ⟨b, off, rfl, hbl, hcl⟩ := hcell (by omega)
  obtain ⟨L, hL⟩ : ∃ L, l.length = L := ⟨_, rfl⟩
  have HLL := Lib.hid hL
  have HB := Lib.hid hb
  have HBL := Lib.hid hbl
  have HGD := Lib.hid (getD_byte hb)
  have HCJ : Hid (∀ j, j < L → w.cell? ⟨b, off + j, none⟩ = some (.int .u8 (l.getD j 0))) := Lib.hid (fun j hj => by
    rw [hcl j (by omega)]; simp [List.getD_eq_getElem?_getD, show j < l.length by omega])
  have HN0 : Hid ((∀ n, 1 ≤ n → n ≤ 4 → n ≤ L → tU l n = false) → 65533 = r ∧ 1 = k) := Lib.hid (fun h => by
    have := tU_no hb (by intro e; rw [e] at h0; exact h0 rfl) (by rw [hL]; exact h)
    rw [hc] at this
    cases this; exact ⟨rfl, rfl⟩)
  have HC := Lib.hid hc
  have cc0 := HCJ.out 0 (by omega)
  rw [Nat.add_zero] at cc0
  obtain ⟨a1, a2⟩ := HGD.out 0
  rw [hL] at hcap hl h0 HV ⊢
  clear hcl hcell hc hb hL
  obtain ⟨a, ha⟩ : ∃ a, l.getD 0 0 = a := ⟨_, rfl⟩
  have HA0 := Lib.hid ha
  rw [ha] at cc0 a1 a2
  clear ha
  have CC0 := Lib.hid cc0
  have d0 : ((L : Int) == 0) = false := by simpa using h0
  go_enter Tryd.func31, Tryd.ntmps31
  go_wp2_with fail
  go_loopg [4] 5 (fun kk nv wr => AnyLater w wr ∧ ∃ n : Nat, kk = 6 - n ∧ 1 ≤ n ∧ n ≤ 5 ∧ nv = .int .i64 n ∧ ∀ m, 1 ≤ m → m < n → m ≤ L → tU l m = false)
  case atStart => exact ⟨AnyLater.refl w, 1, by omega, by omega, by omega, rfl, fun m _ _ _ => by omega⟩
  case round =>
    obtain ⟨a_wr, n, hk, hn1, hn5, rfl, hno⟩ := hrel
    have HA := Lib.hid a_wr
    have HNo := Lib.hid hno
    have cc0w := (a_wr.below.cell hbl).trans cc0
    clear hno
    by_cases hle : n ≤ L ∧ n ≤ 4
    · obtain ⟨le1, le2⟩ := hle
      have hcs : n = 1 ∨ n = 2 ∨ n = 3 ∨ n = 4 := by omega
      clear a_wr cc0
      rcases hcs with rfl | rfl | rfl | rfl
      · have HX1 : Hid (xw l 1 1 = a) := Lib.hid (by rw [← HA0.out]; rfl)
        have hn1 : 1 ≤ L := by omega
        go_wp2_with fail
        go_loopg [5, 6] 1 (fun kk xv iv wr => AnyLater w wr ∧ ∃ i : Nat, kk = 1 + 1 - i ∧ 1 ≤ i ∧ i ≤ 1 ∧ iv = .int .i64 i ∧ xv = .int .i64 (xw l 1 i))
        case atStart => exact ⟨HA.out, 1, by omega, by omega, by omega, rfl, by rw [HX1.out]⟩
        case round =>
          obtain ⟨a_wr, i, hk2, hi1, hi2, rfl, rfl⟩ := hrel
          have HA2 := Lib.hid a_wr
          have xb := xw_in HB.out 1 hi1 (by omega)
          obtain ⟨z, hz⟩ : ∃ z, xw l 1 i = z := ⟨_, rfl⟩
          rw [hz] at xb ⊢
          have HZ := Lib.hid hz
          clear hz
          by_cases hli : i < 1
          · exfalso; omega
          · obtain rfl : i = 1 := by omega
            have HTU : Hid (tU l 1 = (decide (z < 1114112) && decide (encU z = l.take 1))) := Lib.hid (by unfold tU; rw [HZ.out])
            have HY : Hid (tU l 1 = true → decU l = (z, 1)) := Lib.hid (fun h => by rw [tU_yes HB.out (by decide) (by decide) (by rw [HLL.out]; omega) h, HZ.out])
            clear HX1
            by_cases hlt : z < 1114112
            · have hd : decide (z < 1114112) = true := decide_eq_true hlt
              obtain ⟨E, hE⟩ : ∃ E, encU z = E := ⟨_, rfl⟩
              obtain ⟨T, hT⟩ : ∃ T, l.take 1 = T := ⟨_, rfl⟩
              have hru : RU8 w (.slice (some ⟨b, off, none⟩) 1 cap) T := by
                have h := HV.out
                rw [← HLL.out] at h
                rw [← hT]
                exact RN.take h 1 (by rw [HLL.out]; omega)
              have HEnc : Hid (∀ w', Calls Tryd.prog 43 #[.int .i32 z] w' (Gives (fun u w => RU8 w u E) w')) := Lib.hid (fun w' => (refEnc_any z w' ⟨by omega, by omega⟩).mono fun e w'' ⟨u, h1, h2, h3⟩ => ⟨u, h1, h2, by rw [← hE]; exact h3.rn, h3.gives⟩)
              have HTk : Hid (∀ w', AnyLater wr w' → RU8 w' (.slice (some ⟨b, off, none⟩) 1 cap) T) := Lib.hid (fun w' h => hru.later (HA2.out.trans h))
              have hse := str_eq (a := E) (b := T) (by rw [← hE]; exact encU_bytes z) (by rw [← hT]; exact HB.out.take 1)
              rw [hE, hT, decide_eq_true hlt, Bool.true_and] at HTU
              clear hru hE hT
              rcases q : decide (E = T)
              · rw [q] at hse
                have HF : Hid (tU l 1 = false) := Lib.hid (by rw [HTU.out, q])
                clear q
                go_wp2_with fail
                apply wp_region_free (13) [⟨5, 55, undef, true, fun u w => RU8 w u E⟩, ⟨6, 56, .string (strOfNums E), false, fun v _ => v = .string (strOfNums E)⟩, ⟨10, 60, .string (strOfNums T), false, fun v _ => v = .string (strOfNums T)⟩] [⟨5, 55, fun u w => RU8 w u E⟩] rfl (by kernel_rfl) (by kernel_rfl) (by kernel_rfl) (by simp) (by kernel_rfl)
                case hstab =>
                  intro c hc
                  simp only [List.mem_cons, List.not_mem_nil, or_false] at hc
                  rcases hc with rfl | rfl | rfl
                  · intro v x y hxy hv; exact (fun h k => RN.later k h) hxy hv
                  · intro v x y hxy hv; exact hv
                  · intro v x y hxy hv; exact hv
                case hfix =>
                  intro c hc
                  simp only [List.mem_cons, List.not_mem_nil, or_false] at hc
                  rcases hc with rfl | rfl | rfl
                  · exact .inl rfl
                  · exact .inr fun u x h => h
                  · exact .inr fun u x h => h
                case hlex =>
                  intro U hU
                  simp only [List.map_cons, List.map_nil, CA.act, actFrom, actOp, List.lookup, Nat.reduceBEq, Nat.reduceLeDiff, Nat.reduceAdd, if_false, if_true]
                  repeat (go_big_quiet_step (first | fail))
                  exact wpQuiet_nil rfl
                case hstep =>
                  intro j hj o ho
                  have hj2 : j = 0 ∨ j = 1 ∨ j = 2 := by simp at hj; omega
                  rcases hj2 with rfl | rfl | rfl
                  · cases ho
                    refine ⟨rfl, fun g x hx hp => ?_⟩
                    clear hp
                    simp only [fillAll, Act.put, List.setIfInBounds_toArray, List.set_cons_zero, List.set_cons_succ]
                    refine chain_go ?_ (free_gives (HEnc.out x))
                    first | (simp [go_sem, execOp]; done) | simp [go_sem, execOp, hcf]
                  · cases ho
                    refine ⟨rfl, fun g x hx hp => ?_⟩
                    have p55 : (fun u w => RU8 w u E) (g 5) x := hp _ (List.mem_of_getElem? (i := 0) rfl) (List.contains_iff_mem.1 (by kernel_rfl))
                    clear hp
                    simp only [fillAll, Act.put, List.setIfInBounds_toArray, List.set_cons_zero, List.set_cons_succ]
                    refine free_op ?_
                    have hrun := p55.str
                    simp [go_sem, execOp, hrun]
                  · cases ho
                    refine ⟨rfl, fun g x hx hp => ?_⟩
                    clear hp
                    simp only [fillAll, Act.put, List.setIfInBounds_toArray, List.set_cons_zero, List.set_cons_succ]
                    refine free_op ?_
                    have hrun := (HTk.out x hx).str
                    simp [go_sem, execOp, hrun]
                case htail =>
                  intro g u hst hne
                  have b_w5 : AnyLater wr (later u) := ⟨u, rfl⟩
                  generalize later u = w5 at *
                  clear u
                  obtain ⟨p55_w5, o55_w5⟩ := hst _ (List.mem_of_getElem? (i := 0) rfl)
                  dsimp only at p55_w5 o55_w5
                  clear hst hne
                  simp only [fillAll, Act.put, List.setIfInBounds_toArray, List.set_cons_zero, List.set_cons_succ, List.drop_succ_cons, List.drop_zero, List.drop_nil]
                  generalize g 5 = v55 at *
                  have z_w5 := b_w5.below.size
                  have a_w5 := a_wr.trans b_w5
                  go_wp2_with fail
                  go_roundg (6 - 2)
                  case measure => omega
                  case rel => exact ⟨a_w5, 2, rfl, by omega, by omega, rfl, fun m m1 m2 m3 => by
                    by_cases e : m = 1
                    · subst e; exact HF.out
                    · exact HNo.out m m1 (by omega) m3⟩
              · rw [q] at hse
                have HR := Lib.hid (HY.out (by rw [HTU.out, q]))
                clear q
                go_wp2_with fail
                apply wp_region_free (13) [⟨5, 55, undef, true, fun u w => RU8 w u E⟩, ⟨6, 56, .string (strOfNums E), false, fun v _ => v = .string (strOfNums E)⟩, ⟨10, 60, .string (strOfNums T), false, fun v _ => v = .string (strOfNums T)⟩] [⟨5, 55, fun u w => RU8 w u E⟩] rfl (by kernel_rfl) (by kernel_rfl) (by kernel_rfl) (by simp) (by kernel_rfl)
                case hstab =>
                  intro c hc
                  simp only [List.mem_cons, List.not_mem_nil, or_false] at hc
                  rcases hc with rfl | rfl | rfl
                  · intro v x y hxy hv; exact (fun h k => RN.later k h) hxy hv
                  · intro v x y hxy hv; exact hv
                  · intro v x y hxy hv; exact hv
                case hfix =>
                  intro c hc
                  simp only [List.mem_cons, List.not_mem_nil, or_false] at hc
                  rcases hc with rfl | rfl | rfl
                  · exact .inl rfl
                  · exact .inr fun u x h => h
                  · exact .inr fun u x h => h
                case hlex =>
                  intro U hU
                  simp only [List.map_cons, List.map_nil, CA.act, actFrom, actOp, List.lookup, Nat.reduceBEq, Nat.reduceLeDiff, Nat.reduceAdd, if_false, if_true]
                  repeat (go_big_quiet_step (first | fail))
                  exact wpQuiet_nil rfl
                case hstep =>
                  intro j hj o ho
                  have hj2 : j = 0 ∨ j = 1 ∨ j = 2 := by simp at hj; omega
                  rcases hj2 with rfl | rfl | rfl
                  · cases ho
                    refine ⟨rfl, fun g x hx hp => ?_⟩
                    clear hp
                    simp only [fillAll, Act.put, List.setIfInBounds_toArray, List.set_cons_zero, List.set_cons_succ]
                    refine chain_go ?_ (free_gives (HEnc.out x))
                    first | (simp [go_sem, execOp]; done) | simp [go_sem, execOp, hcf]
                  · cases ho
                    refine ⟨rfl, fun g x hx hp => ?_⟩
                    have p55 : (fun u w => RU8 w u E) (g 5) x := hp _ (List.mem_of_getElem? (i := 0) rfl) (List.contains_iff_mem.1 (by kernel_rfl))
                    clear hp
                    simp only [fillAll, Act.put, List.setIfInBounds_toArray, List.set_cons_zero, List.set_cons_succ]
                    refine free_op ?_
                    have hrun := p55.str
                    simp [go_sem, execOp, hrun]
                  · cases ho
                    refine ⟨rfl, fun g x hx hp => ?_⟩
                    clear hp
                    simp only [fillAll, Act.put, List.setIfInBounds_toArray, List.set_cons_zero, List.set_cons_succ]
                    refine free_op ?_
                    have hrun := (HTk.out x hx).str
                    simp [go_sem, execOp, hrun]
                case htail =>
                  intro g u hst hne
                  have b_w5 : AnyLater wr (later u) := ⟨u, rfl⟩
                  generalize later u = w5 at *
                  clear u
                  obtain ⟨p55_w5, o55_w5⟩ := hst _ (List.mem_of_getElem? (i := 0) rfl)
                  dsimp only at p55_w5 o55_w5
                  clear hst hne
                  simp only [fillAll, Act.put, List.setIfInBounds_toArray, List.set_cons_zero, List.set_cons_succ, List.drop_succ_cons, List.drop_zero, List.drop_nil]
                  generalize g 5 = v55 at *
                  have z_w5 := b_w5.below.size
                  have a_w5 := a_wr.trans b_w5
                  go_wp2_with fail
                  go_ret2
                  exact ⟨by have h := HC.out.symm.trans HR.out; cases h; rfl, a_w5⟩
            · have HF : Hid (tU l 1 = false) := Lib.hid (by rw [HTU.out, decide_eq_false hlt]; rfl)
              have hd : decide (z < 1114112) = false := decide_eq_false hlt
              clear a_wr
              go_wp2_with fail
              go_quiet (fail)
              go_wp2_with fail
              go_roundg (6 - 2)
              case measure => omega
              case rel => exact ⟨HA2.out.drewN _, 2, rfl, by omega, by omega, rfl, fun m m1 m2 m3 => by
                by_cases e : m = 1
                · subst e; exact HF.out
                · exact HNo.out m m1 (by omega) m3⟩
      · have HX1 : Hid (xw l 2 1 = a % 32) := Lib.hid (by rw [← HA0.out]; rfl)
        have hn1 : 2 ≤ L := by omega
        go_wp2_with fail
        go_loopg [5, 6] 2 (fun kk xv iv wr => AnyLater w wr ∧ ∃ i : Nat, kk = 2 + 1 - i ∧ 1 ≤ i ∧ i ≤ 2 ∧ iv = .int .i64 i ∧ xv = .int .i64 (xw l 2 i))
        case atStart => exact ⟨HA.out, 1, by omega, by omega, by omega, rfl, by rw [HX1.out]⟩
        case round =>
          obtain ⟨a_wr, i, hk2, hi1, hi2, rfl, rfl⟩ := hrel
          have HA2 := Lib.hid a_wr
          have xb := xw_in HB.out 2 hi1 (by omega)
          obtain ⟨z, hz⟩ : ∃ z, xw l 2 i = z := ⟨_, rfl⟩
          rw [hz] at xb ⊢
          have HZ := Lib.hid hz
          clear hz
          by_cases hli : i < 2
          · have cci : wr.cell? ⟨b, off + i, none⟩ = some (.int .u8 (l.getD i 0)) := (a_wr.below.cell HBL.out).trans (HCJ.out i (by omega))
            obtain ⟨yb1, yb2⟩ := HGD.out i
            have HS : Hid (xw l 2 (i + 1) = z * 64 + l.getD i 0 % 64) := Lib.hid (by rw [xw_succ l 2 hi1, HZ.out])
            generalize l.getD i 0 = y at *
            clear a_wr
            go_wp2_with fail
            go_roundg (2 + 1 - (i + 1))
            case measure => omega
            case rel => exact ⟨HA2.out, i + 1, rfl, by omega, by omega, by go_num, by rw [HS.out]⟩
          · obtain rfl : i = 2 := by omega
            have HTU : Hid (tU l 2 = (decide (z < 1114112) && decide (encU z = l.take 2))) := Lib.hid (by unfold tU; rw [HZ.out])
            have HY : Hid (tU l 2 = true → decU l = (z, 2)) := Lib.hid (fun h => by rw [tU_yes HB.out (by decide) (by decide) (by rw [HLL.out]; omega) h, HZ.out])
            clear HX1
            by_cases hlt : z < 1114112
            · have hd : decide (z < 1114112) = true := decide_eq_true hlt
              obtain ⟨E, hE⟩ : ∃ E, encU z = E := ⟨_, rfl⟩
              obtain ⟨T, hT⟩ : ∃ T, l.take 2 = T := ⟨_, rfl⟩
              have hru : RU8 w (.slice (some ⟨b, off, none⟩) 2 cap) T := by
                have h := HV.out
                rw [← HLL.out] at h
                rw [← hT]
                exact RN.take h 2 (by rw [HLL.out]; omega)
              have HEnc : Hid (∀ w', Calls Tryd.prog 43 #[.int .i32 z] w' (Gives (fun u w => RU8 w u E) w')) := Lib.hid (fun w' => (refEnc_any z w' ⟨by omega, by omega⟩).mono fun e w'' ⟨u, h1, h2, h3⟩ => ⟨u, h1, h2, by rw [← hE]; exact h3.rn, h3.gives⟩)
              have HTk : Hid (∀ w', AnyLater wr w' → RU8 w' (.slice (some ⟨b, off, none⟩) 2 cap) T) := Lib.hid (fun w' h => hru.later (HA2.out.trans h))
              have hse := str_eq (a := E) (b := T) (by rw [← hE]; exact encU_bytes z) (by rw [← hT]; exact HB.out.take 2)
              rw [hE, hT, decide_eq_true hlt, Bool.true_and] at HTU
              clear hru hE hT
              rcases q : decide (E = T)
              · rw [q] at hse
                have HF : Hid (tU l 2 = false) := Lib.hid (by rw [HTU.out, q])
                clear q
                go_wp2_with fail
                apply wp_region_free (13) [⟨5, 55, undef, true, fun u w => RU8 w u E⟩, ⟨6, 56, .string (strOfNums E), false, fun v _ => v = .string (strOfNums E)⟩, ⟨10, 60, .string (strOfNums T), false, fun v _ => v = .string (strOfNums T)⟩] [⟨5, 55, fun u w => RU8 w u E⟩] rfl (by kernel_rfl) (by kernel_rfl) (by kernel_rfl) (by simp) (by kernel_rfl)
                case hstab =>
                  intro c hc
                  simp only [List.mem_cons, List.not_mem_nil, or_false] at hc
                  rcases hc with rfl | rfl | rfl
                  · intro v x y hxy hv; exact (fun h k => RN.later k h) hxy hv
                  · intro v x y hxy hv; exact hv
                  · intro v x y hxy hv; exact hv
                case hfix =>
                  intro c hc
                  simp only [List.mem_cons, List.not_mem_nil, or_false] at hc
                  rcases hc with rfl | rfl | rfl
                  · exact .inl rfl
                  · exact .inr fun u x h => h
                  · exact .inr fun u x h => h
                case hlex =>
                  intro U hU
                  simp only [List.map_cons, List.map_nil, CA.act, actFrom, actOp, List.lookup, Nat.reduceBEq, Nat.reduceLeDiff, Nat.reduceAdd, if_false, if_true]
                  repeat (go_big_quiet_step (first | fail))
                  exact wpQuiet_nil rfl
                case hstep =>
                  intro j hj o ho
                  have hj2 : j = 0 ∨ j = 1 ∨ j = 2 := by simp at hj; omega
                  rcases hj2 with rfl | rfl | rfl
                  · cases ho
                    refine ⟨rfl, fun g x hx hp => ?_⟩
                    clear hp
                    simp only [fillAll, Act.put, List.setIfInBounds_toArray, List.set_cons_zero, List.set_cons_succ]
                    refine chain_go ?_ (free_gives (HEnc.out x))
                    first | (simp [go_sem, execOp]; done) | simp [go_sem, execOp, hcf]
                  · cases ho
                    refine ⟨rfl, fun g x hx hp => ?_⟩
                    have p55 : (fun u w => RU8 w u E) (g 5) x := hp _ (List.mem_of_getElem? (i := 0) rfl) (List.contains_iff_mem.1 (by kernel_rfl))
                    clear hp
                    simp only [fillAll, Act.put, List.setIfInBounds_toArray, List.set_cons_zero, List.set_cons_succ]
                    refine free_op ?_
                    have hrun := p55.str
                    simp [go_sem, execOp, hrun]
                  · cases ho
                    refine ⟨rfl, fun g x hx hp => ?_⟩
                    clear hp
                    simp only [fillAll, Act.put, List.setIfInBounds_toArray, List.set_cons_zero, List.set_cons_succ]
                    refine free_op ?_
                    have hrun := (HTk.out x hx).str
                    simp [go_sem, execOp, hrun]
                case htail =>
                  intro g u hst hne
                  have b_w5 : AnyLater wr (later u) := ⟨u, rfl⟩
                  generalize later u = w5 at *
                  clear u
                  obtain ⟨p55_w5, o55_w5⟩ := hst _ (List.mem_of_getElem? (i := 0) rfl)
                  dsimp only at p55_w5 o55_w5
                  clear hst hne
                  simp only [fillAll, Act.put, List.setIfInBounds_toArray, List.set_cons_zero, List.set_cons_succ, List.drop_succ_cons, List.drop_zero, List.drop_nil]
                  generalize g 5 = v55 at *
                  have z_w5 := b_w5.below.size
                  have a_w5 := a_wr.trans b_w5
                  go_wp2_with fail
                  go_roundg (6 - 3)
                  case measure => omega
                  case rel => exact ⟨a_w5, 3, rfl, by omega, by omega, rfl, fun m m1 m2 m3 => by
                    by_cases e : m = 2
                    · subst e; exact HF.out
                    · exact HNo.out m m1 (by omega) m3⟩
              · rw [q] at hse
                have HR := Lib.hid (HY.out (by rw [HTU.out, q]))
                clear q
                go_wp2_with fail
                apply wp_region_free (13) [⟨5, 55, undef, true, fun u w => RU8 w u E⟩, ⟨6, 56, .string (strOfNums E), false, fun v _ => v = .string (strOfNums E)⟩, ⟨10, 60, .string (strOfNums T), false, fun v _ => v = .string (strOfNums T)⟩] [⟨5, 55, fun u w => RU8 w u E⟩] rfl (by kernel_rfl) (by kernel_rfl) (by kernel_rfl) (by simp) (by kernel_rfl)
                case hstab =>
                  intro c hc
                  simp only [List.mem_cons, List.not_mem_nil, or_false] at hc
                  rcases hc with rfl | rfl | rfl
                  · intro v x y hxy hv; exact (fun h k => RN.later k h) hxy hv
                  · intro v x y hxy hv; exact hv
                  · intro v x y hxy hv; exact hv
                case hfix =>
                  intro c hc
                  simp only [List.mem_cons, List.not_mem_nil, or_false] at hc
                  rcases hc with rfl | rfl | rfl
                  · exact .inl rfl
                  · exact .inr fun u x h => h
                  · exact .inr fun u x h => h
                case hlex =>
                  intro U hU
                  simp only [List.map_cons, List.map_nil, CA.act, actFrom, actOp, List.lookup, Nat.reduceBEq, Nat.reduceLeDiff, Nat.reduceAdd, if_false, if_true]
                  repeat (go_big_quiet_step (first | fail))
                  exact wpQuiet_nil rfl
                case hstep =>
                  intro j hj o ho
                  have hj2 : j = 0 ∨ j = 1 ∨ j = 2 := by simp at hj; omega
                  rcases hj2 with rfl | rfl | rfl
                  · cases ho
                    refine ⟨rfl, fun g x hx hp => ?_⟩
                    clear hp
                    simp only [fillAll, Act.put, List.setIfInBounds_toArray, List.set_cons_zero, List.set_cons_succ]
                    refine chain_go ?_ (free_gives (HEnc.out x))
                    first | (simp [go_sem, execOp]; done) | simp [go_sem, execOp, hcf]
                  · cases ho
                    refine ⟨rfl, fun g x hx hp => ?_⟩
                    have p55 : (fun u w => RU8 w u E) (g 5) x := hp _ (List.mem_of_getElem? (i := 0) rfl) (List.contains_iff_mem.1 (by kernel_rfl))
                    clear hp
                    simp only [fillAll, Act.put, List.setIfInBounds_toArray, List.set_cons_zero, List.set_cons_succ]
                    refine free_op ?_
                    have hrun := p55.str
                    simp [go_sem, execOp, hrun]
                  · cases ho
                    refine ⟨rfl, fun g x hx hp => ?_⟩
                    clear hp
                    simp only [fillAll, Act.put, List.setIfInBounds_toArray, List.set_cons_zero, List.set_cons_succ]
                    refine free_op ?_
                    have hrun := (HTk.out x hx).str
                    simp [go_sem, execOp, hrun]
                case htail =>
                  intro g u hst hne
                  have b_w5 : AnyLater wr (later u) := ⟨u, rfl⟩
                  generalize later u = w5 at *
                  clear u
                  obtain ⟨p55_w5, o55_w5⟩ := hst _ (List.mem_of_getElem? (i := 0) rfl)
                  dsimp only at p55_w5 o55_w5
                  clear hst hne
                  simp only [fillAll, Act.put, List.setIfInBounds_toArray, List.set_cons_zero, List.set_cons_succ, List.drop_succ_cons, List.drop_zero, List.drop_nil]
                  generalize g 5 = v55 at *
                  have z_w5 := b_w5.below.size
                  have a_w5 := a_wr.trans b_w5
                  go_wp2_with fail
                  go_ret2
                  exact ⟨by have h := HC.out.symm.trans HR.out; cases h; rfl, a_w5⟩
            · have HF : Hid (tU l 2 = false) := Lib.hid (by rw [HTU.out, decide_eq_false hlt]; rfl)
              have hd : decide (z < 1114112) = false := decide_eq_false hlt
              clear a_wr
              go_wp2_with fail
              go_quiet (fail)
              go_wp2_with fail
              go_roundg (6 - 3)
              case measure => omega
              case rel => exact ⟨HA2.out.drewN _, 3, rfl, by omega, by omega, rfl, fun m m1 m2 m3 => by
                by_cases e : m = 2
                · subst e; exact HF.out
                · exact HNo.out m m1 (by omega) m3⟩
      · have HX1 : Hid (xw l 3 1 = a % 16) := Lib.hid (by rw [← HA0.out]; rfl)
        have hn1 : 3 ≤ L := by omega
        go_wp2_with fail
        go_loopg [5, 6] 3 (fun kk xv iv wr => AnyLater w wr ∧ ∃ i : Nat, kk = 3 + 1 - i ∧ 1 ≤ i ∧ i ≤ 3 ∧ iv = .int .i64 i ∧ xv = .int .i64 (xw l 3 i))
        case atStart => exact ⟨HA.out, 1, by omega, by omega, by omega, rfl, by rw [HX1.out]⟩
        case round =>
          obtain ⟨a_wr, i, hk2, hi1, hi2, rfl, rfl⟩ := hrel
          have HA2 := Lib.hid a_wr
          have xb := xw_in HB.out 3 hi1 (by omega)
          obtain ⟨z, hz⟩ : ∃ z, xw l 3 i = z := ⟨_, rfl⟩
          rw [hz] at xb ⊢
          have HZ := Lib.hid hz
          clear hz
          by_cases hli : i < 3
          · have cci : wr.cell? ⟨b, off + i, none⟩ = some (.int .u8 (l.getD i 0)) := (a_wr.below.cell HBL.out).trans (HCJ.out i (by omega))
            obtain ⟨yb1, yb2⟩ := HGD.out i
            have HS : Hid (xw l 3 (i + 1) = z * 64 + l.getD i 0 % 64) := Lib.hid (by rw [xw_succ l 3 hi1, HZ.out])
            generalize l.getD i 0 = y at *
            clear a_wr
            go_wp2_with fail
            go_roundg (3 + 1 - (i + 1))
            case measure => omega
            case rel => exact ⟨HA2.out, i + 1, rfl, by omega, by omega, by go_num, by rw [HS.out]⟩
          · obtain rfl : i = 3 := by omega
            have HTU : Hid (tU l 3 = (decide (z < 1114112) && decide (encU z = l.take 3))) := Lib.hid (by unfold tU; rw [HZ.out])
            have HY : Hid (tU l 3 = true → decU l = (z, 3)) := Lib.hid (fun h => by rw [tU_yes HB.out (by decide) (by decide) (by rw [HLL.out]; omega) h, HZ.out])
            clear HX1
            by_cases hlt : z < 1114112
            · have hd : decide (z < 1114112) = true := decide_eq_true hlt
              obtain ⟨E, hE⟩ : ∃ E, encU z = E := ⟨_, rfl⟩
              obtain ⟨T, hT⟩ : ∃ T, l.take 3 = T := ⟨_, rfl⟩
              have hru : RU8 w (.slice (some ⟨b, off, none⟩) 3 cap) T := by
                have h := HV.out
                rw [← HLL.out] at h
                rw [← hT]
                exact RN.take h 3 (by rw [HLL.out]; omega)
              have HEnc : Hid (∀ w', Calls Tryd.prog 43 #[.int .i32 z] w' (Gives (fun u w => RU8 w u E) w')) := Lib.hid (fun w' => (refEnc_any z w' ⟨by omega, by omega⟩).mono fun e w'' ⟨u, h1, h2, h3⟩ => ⟨u, h1, h2, by rw [← hE]; exact h3.rn, h3.gives⟩)
              have HTk : Hid (∀ w', AnyLater wr w' → RU8 w' (.slice (some ⟨b, off, none⟩) 3 cap) T) := Lib.hid (fun w' h => hru.later (HA2.out.trans h))
              have hse := str_eq (a := E) (b := T) (by rw [← hE]; exact encU_bytes z) (by rw [← hT]; exact HB.out.take 3)
              rw [hE, hT, decide_eq_true hlt, Bool.true_and] at HTU
              clear hru hE hT
              rcases q : decide (E = T)
              · rw [q] at hse
                have HF : Hid (tU l 3 = false) := Lib.hid (by rw [HTU.out, q])
                clear q
                go_wp2_with fail
                apply wp_region_free (13) [⟨5, 55, undef, true, fun u w => RU8 w u E⟩, ⟨6, 56, .string (strOfNums E), false, fun v _ => v = .string (strOfNums E)⟩, ⟨10, 60, .string (strOfNums T), false, fun v _ => v = .string (strOfNums T)⟩] [⟨5, 55, fun u w => RU8 w u E⟩] rfl (by kernel_rfl) (by kernel_rfl) (by kernel_rfl) (by simp) (by kernel_rfl)
                case hstab =>
                  intro c hc
                  simp only [List.mem_cons, List.not_mem_nil, or_false] at hc
                  rcases hc with rfl | rfl | rfl
                  · intro v x y hxy hv; exact (fun h k => RN.later k h) hxy hv
                  · intro v x y hxy hv; exact hv
                  · intro v x y hxy hv; exact hv
                case hfix =>
                  intro c hc
                  simp only [List.mem_cons, List.not_mem_nil, or_false] at hc
                  rcases hc with rfl | rfl | rfl
                  · exact .inl rfl
                  · exact .inr fun u x h => h
                  · exact .inr fun u x h => h
                case hlex =>
                  intro U hU
                  simp only [List.map_cons, List.map_nil, CA.act, actFrom, actOp, List.lookup, Nat.reduceBEq, Nat.reduceLeDiff, Nat.reduceAdd, if_false, if_true]
                  repeat (go_big_quiet_step (first | fail))
                  exact wpQuiet_nil rfl
                case hstep =>
                  intro j hj o ho
                  have hj2 : j = 0 ∨ j = 1 ∨ j = 2 := by simp at hj; omega
                  rcases hj2 with rfl | rfl | rfl
                  · cases ho
                    refine ⟨rfl, fun g x hx hp => ?_⟩
                    clear hp
                    simp only [fillAll, Act.put, List.setIfInBounds_toArray, List.set_cons_zero, List.set_cons_succ]
                    refine chain_go ?_ (free_gives (HEnc.out x))
                    first | (simp [go_sem, execOp]; done) | simp [go_sem, execOp, hcf]
                  · cases ho
                    refine ⟨rfl, fun g x hx hp => ?_⟩
                    have p55 : (fun u w => RU8 w u E) (g 5) x := hp _ (List.mem_of_getElem? (i := 0) rfl) (List.contains_iff_mem.1 (by kernel_rfl))
                    clear hp
                    simp only [fillAll, Act.put, List.setIfInBounds_toArray, List.set_cons_zero, List.set_cons_succ]
                    refine free_op ?_
                    have hrun := p55.str
                    simp [go_sem, execOp, hrun]
                  · cases ho
                    refine ⟨rfl, fun g x hx hp => ?_⟩
                    clear hp
                    simp only [fillAll, Act.put, List.setIfInBounds_toArray, List.set_cons_zero, List.set_cons_succ]
                    refine free_op ?_
                    have hrun := (HTk.out x hx).str
                    simp [go_sem, execOp, hrun]
                case htail =>
                  intro g u hst hne
                  have b_w5 : AnyLater wr (later u) := ⟨u, rfl⟩
                  generalize later u = w5 at *
                  clear u
                  obtain ⟨p55_w5, o55_w5⟩ := hst _ (List.mem_of_getElem? (i := 0) rfl)
                  dsimp only at p55_w5 o55_w5
                  clear hst hne
                  simp only [fillAll, Act.put, List.setIfInBounds_toArray, List.set_cons_zero, List.set_cons_succ, List.drop_succ_cons, List.drop_zero, List.drop_nil]
                  generalize g 5 = v55 at *
                  have z_w5 := b_w5.below.size
                  have a_w5 := a_wr.trans b_w5
                  go_wp2_with fail
                  go_roundg (6 - 4)
                  case measure => omega
                  case rel => exact ⟨a_w5, 4, rfl, by omega, by omega, rfl, fun m m1 m2 m3 => by
                    by_cases e : m = 3
                    · subst e; exact HF.out
                    · exact HNo.out m m1 (by omega) m3⟩
              · rw [q] at hse
                have HR := Lib.hid (HY.out (by rw [HTU.out, q]))
                clear q
                go_wp2_with fail
                apply wp_region_free (13) [⟨5, 55, undef, true, fun u w => RU8 w u E⟩, ⟨6, 56, .string (strOfNums E), false, fun v _ => v = .string (strOfNums E)⟩, ⟨10, 60, .string (strOfNums T), false, fun v _ => v = .string (strOfNums T)⟩] [⟨5, 55, fun u w => RU8 w u E⟩] rfl (by kernel_rfl) (by kernel_rfl) (by kernel_rfl) (by simp) (by kernel_rfl)
                case hstab =>
                  intro c hc
                  simp only [List.mem_cons, List.not_mem_nil, or_false] at hc
                  rcases hc with rfl | rfl | rfl
                  · intro v x y hxy hv; exact (fun h k => RN.later k h) hxy hv
                  · intro v x y hxy hv; exact hv
                  · intro v x y hxy hv; exact hv
                case hfix =>
                  intro c hc
                  simp only [List.mem_cons, List.not_mem_nil, or_false] at hc
                  rcases hc with rfl | rfl | rfl
                  · exact .inl rfl
                  · exact .inr fun u x h => h
                  · exact .inr fun u x h => h
                case hlex =>
                  intro U hU
                  simp only [List.map_cons, List.map_nil, CA.act, actFrom, actOp, List.lookup, Nat.reduceBEq, Nat.reduceLeDiff, Nat.reduceAdd, if_false, if_true]
                  repeat (go_big_quiet_step (first | fail))
                  exact wpQuiet_nil rfl
                case hstep =>
                  intro j hj o ho
                  have hj2 : j = 0 ∨ j = 1 ∨ j = 2 := by simp at hj; omega
                  rcases hj2 with rfl | rfl | rfl
                  · cases ho
                    refine ⟨rfl, fun g x hx hp => ?_⟩
                    clear hp
                    simp only [fillAll, Act.put, List.setIfInBounds_toArray, List.set_cons_zero, List.set_cons_succ]
                    refine chain_go ?_ (free_gives (HEnc.out x))
                    first | (simp [go_sem, execOp]; done) | simp [go_sem, execOp, hcf]
                  · cases ho
                    refine ⟨rfl, fun g x hx hp => ?_⟩
                    have p55 : (fun u w => RU8 w u E) (g 5) x := hp _ (List.mem_of_getElem? (i := 0) rfl) (List.contains_iff_mem.1 (by kernel_rfl))
                    clear hp
                    simp only [fillAll, Act.put, List.setIfInBounds_toArray, List.set_cons_zero, List.set_cons_succ]
                    refine free_op ?_
                    have hrun := p55.str
                    simp [go_sem, execOp, hrun]
                  · cases ho
                    refine ⟨rfl, fun g x hx hp => ?_⟩
                    clear hp
                    simp only [fillAll, Act.put, List.setIfInBounds_toArray, List.set_cons_zero, List.set_cons_succ]
                    refine free_op ?_
                    have hrun := (HTk.out x hx).str
                    simp [go_sem, execOp, hrun]
                case htail =>
                  intro g u hst hne
                  have b_w5 : AnyLater wr (later u) := ⟨u, rfl⟩
                  generalize later u = w5 at *
                  clear u
                  obtain ⟨p55_w5, o55_w5⟩ := hst _ (List.mem_of_getElem? (i := 0) rfl)
                  dsimp only at p55_w5 o55_w5
                  clear hst hne
                  simp only [fillAll, Act.put, List.setIfInBounds_toArray, List.set_cons_zero, List.set_cons_succ, List.drop_succ_cons, List.drop_zero, List.drop_nil]
                  generalize g 5 = v55 at *
                  have z_w5 := b_w5.below.size
                  have a_w5 := a_wr.trans b_w5
                  go_wp2_with fail
                  go_ret2
                  exact ⟨by have h := HC.out.symm.trans HR.out; cases h; rfl, a_w5⟩
            · have HF : Hid (tU l 3 = false) := Lib.hid (by rw [HTU.out, decide_eq_false hlt]; rfl)
              have hd : decide (z < 1114112) = false := decide_eq_false hlt
              clear a_wr
              go_wp2_with fail
              go_quiet (fail)
              go_wp2_with fail
              go_roundg (6 - 4)
              case measure => omega
              case rel => exact ⟨HA2.out.drewN _, 4, rfl, by omega, by omega, rfl, fun m m1 m2 m3 => by
                by_cases e : m = 3
                · subst e; exact HF.out
                · exact HNo.out m m1 (by omega) m3⟩
      · have HX1 : Hid (xw l 4 1 = a % 8) := Lib.hid (by rw [← HA0.out]; rfl)
        have hn1 : 4 ≤ L := by omega
        go_wp2_with fail
        go_loopg [5, 6] 4 (fun kk xv iv wr => AnyLater w wr ∧ ∃ i : Nat, kk = 4 + 1 - i ∧ 1 ≤ i ∧ i ≤ 4 ∧ iv = .int .i64 i ∧ xv = .int .i64 (xw l 4 i))
        case atStart => exact ⟨HA.out, 1, by omega, by omega, by omega, rfl, by rw [HX1.out]⟩
        case round =>
          obtain ⟨a_wr, i, hk2, hi1, hi2, rfl, rfl⟩ := hrel
          have HA2 := Lib.hid a_wr
          have xb := xw_in HB.out 4 hi1 (by omega)
          obtain ⟨z, hz⟩ : ∃ z, xw l 4 i = z := ⟨_, rfl⟩
          rw [hz] at xb ⊢
          have HZ := Lib.hid hz
          clear hz
          by_cases hli : i < 4
          · have cci : wr.cell? ⟨b, off + i, none⟩ = some (.int .u8 (l.getD i 0)) := (a_wr.below.cell HBL.out).trans (HCJ.out i (by omega))
            obtain ⟨yb1, yb2⟩ := HGD.out i
            have HS : Hid (xw l 4 (i + 1) = z * 64 + l.getD i 0 % 64) := Lib.hid (by rw [xw_succ l 4 hi1, HZ.out])
            generalize l.getD i 0 = y at *
            clear a_wr
            go_wp2_with fail
            go_roundg (4 + 1 - (i + 1))
            case measure => omega
            case rel => exact ⟨HA2.out, i + 1, rfl, by omega, by omega, by go_num, by rw [HS.out]⟩
          · obtain rfl : i = 4 := by omega
            have HTU : Hid (tU l 4 = (decide (z < 1114112) && decide (encU z = l.take 4))) := Lib.hid (by unfold tU; rw [HZ.out])
            have HY : Hid (tU l 4 = true → decU l = (z, 4)) := Lib.hid (fun h => by rw [tU_yes HB.out (by decide) (by decide) (by rw [HLL.out]; omega) h, HZ.out])
            clear HX1
            by_cases hlt : z < 1114112
            · have hd : decide (z < 1114112) = true := decide_eq_true hlt
              obtain ⟨E, hE⟩ : ∃ E, encU z = E := ⟨_, rfl⟩
              obtain ⟨T, hT⟩ : ∃ T, l.take 4 = T := ⟨_, rfl⟩
              have hru : RU8 w (.slice (some ⟨b, off, none⟩) 4 cap) T := by
                have h := HV.out
                rw [← HLL.out] at h
                rw [← hT]
                exact RN.take h 4 (by rw [HLL.out]; omega)
              have HEnc : Hid (∀ w', Calls Tryd.prog 43 #[.int .i32 z] w' (Gives (fun u w => RU8 w u E) w')) := Lib.hid (fun w' => (refEnc_any z w' ⟨by omega, by omega⟩).mono fun e w'' ⟨u, h1, h2, h3⟩ => ⟨u, h1, h2, by rw [← hE]; exact h3.rn, h3.gives⟩)
              have HTk : Hid (∀ w', AnyLater wr w' → RU8 w' (.slice (some ⟨b, off, none⟩) 4 cap) T) := Lib.hid (fun w' h => hru.later (HA2.out.trans h))
              have hse := str_eq (a := E) (b := T) (by rw [← hE]; exact encU_bytes z) (by rw [← hT]; exact HB.out.take 4)
              rw [hE, hT, decide_eq_true hlt, Bool.true_and] at HTU
              clear hru hE hT
              rcases q : decide (E = T)
              · rw [q] at hse
                have HF : Hid (tU l 4 = false) := Lib.hid (by rw [HTU.out, q])
                clear q
                go_wp2_with fail
                apply wp_region_free (13) [⟨5, 55, undef, true, fun u w => RU8 w u E⟩, ⟨6, 56, .string (strOfNums E), false, fun v _ => v = .string (strOfNums E)⟩, ⟨10, 60, .string (strOfNums T), false, fun v _ => v = .string (strOfNums T)⟩] [⟨5, 55, fun u w => RU8 w u E⟩] rfl (by kernel_rfl) (by kernel_rfl) (by kernel_rfl) (by simp) (by kernel_rfl)
                case hstab =>
                  intro c hc
                  simp only [List.mem_cons, List.not_mem_nil, or_false] at hc
                  rcases hc with rfl | rfl | rfl
                  · intro v x y hxy hv; exact (fun h k => RN.later k h) hxy hv
                  · intro v x y hxy hv; exact hv
                  · intro v x y hxy hv; exact hv
                case hfix =>
                  intro c hc
                  simp only [List.mem_cons, List.not_mem_nil, or_false] at hc
                  rcases hc with rfl | rfl | rfl
                  · exact .inl rfl
                  · exact .inr fun u x h => h
                  · exact .inr fun u x h => h
                case hlex =>
                  intro U hU
                  simp only [List.map_cons, List.map_nil, CA.act, actFrom, actOp, List.lookup, Nat.reduceBEq, Nat.reduceLeDiff, Nat.reduceAdd, if_false, if_true]
                  repeat (go_big_quiet_step (first | fail))
                  exact wpQuiet_nil rfl
                case hstep =>
                  intro j hj o ho
                  have hj2 : j = 0 ∨ j = 1 ∨ j = 2 := by simp at hj; omega
                  rcases hj2 with rfl | rfl | rfl
                  · cases ho
                    refine ⟨rfl, fun g x hx hp => ?_⟩
                    clear hp
                    simp only [fillAll, Act.put, List.setIfInBounds_toArray, List.set_cons_zero, List.set_cons_succ]
                    refine chain_go ?_ (free_gives (HEnc.out x))
                    first | (simp [go_sem, execOp]; done) | simp [go_sem, execOp, hcf]
                  · cases ho
                    refine ⟨rfl, fun g x hx hp => ?_⟩
                    have p55 : (fun u w => RU8 w u E) (g 5) x := hp _ (List.mem_of_getElem? (i := 0) rfl) (List.contains_iff_mem.1 (by kernel_rfl))
                    clear hp
                    simp only [fillAll, Act.put, List.setIfInBounds_toArray, List.set_cons_zero, List.set_cons_succ]
                    refine free_op ?_
                    have hrun := p55.str
                    simp [go_sem, execOp, hrun]
                  · cases ho
                    refine ⟨rfl, fun g x hx hp => ?_⟩
                    clear hp
                    simp only [fillAll, Act.put, List.setIfInBounds_toArray, List.set_cons_zero, List.set_cons_succ]
                    refine free_op ?_
                    have hrun := (HTk.out x hx).str
                    simp [go_sem, execOp, hrun]
                case htail =>
                  intro g u hst hne
                  have b_w5 : AnyLater wr (later u) := ⟨u, rfl⟩
                  generalize later u = w5 at *
                  clear u
                  obtain ⟨p55_w5, o55_w5⟩ := hst _ (List.mem_of_getElem? (i := 0) rfl)
                  dsimp only at p55_w5 o55_w5
                  clear hst hne
                  simp only [fillAll, Act.put, List.setIfInBounds_toArray, List.set_cons_zero, List.set_cons_succ, List.drop_succ_cons, List.drop_zero, List.drop_nil]
                  generalize g 5 = v55 at *
                  have z_w5 := b_w5.below.size
                  have a_w5 := a_wr.trans b_w5
                  go_wp2_with fail
                  go_roundg (6 - 5)
                  case measure => omega
                  case rel => exact ⟨a_w5, 5, rfl, by omega, by omega, rfl, fun m m1 m2 m3 => by
                    by_cases e : m = 4
                    · subst e; exact HF.out
                    · exact HNo.out m m1 (by omega) m3⟩
              · rw [q] at hse
                have HR := Lib.hid (HY.out (by rw [HTU.out, q]))
                clear q
                go_wp2_with fail
                apply wp_region_free (13) [⟨5, 55, undef, true, fun u w => RU8 w u E⟩, ⟨6, 56, .string (strOfNums E), false, fun v _ => v = .string (strOfNums E)⟩, ⟨10, 60, .string (strOfNums T), false, fun v _ => v = .string (strOfNums T)⟩] [⟨5, 55, fun u w => RU8 w u E⟩] rfl (by kernel_rfl) (by kernel_rfl) (by kernel_rfl) (by simp) (by kernel_rfl)
                case hstab =>
                  intro c hc
                  simp only [List.mem_cons, List.not_mem_nil, or_false] at hc
                  rcases hc with rfl | rfl | rfl
                  · intro v x y hxy hv; exact (fun h k => RN.later k h) hxy hv
                  · intro v x y hxy hv; exact hv
                  · intro v x y hxy hv; exact hv
                case hfix =>
                  intro c hc
                  simp only [List.mem_cons, List.not_mem_nil, or_false] at hc
                  rcases hc with rfl | rfl | rfl
                  · exact .inl rfl
                  · exact .inr fun u x h => h
                  · exact .inr fun u x h => h
                case hlex =>
                  intro U hU
                  simp only [List.map_cons, List.map_nil, CA.act, actFrom, actOp, List.lookup, Nat.reduceBEq, Nat.reduceLeDiff, Nat.reduceAdd, if_false, if_true]
                  repeat (go_big_quiet_step (first | fail))
                  exact wpQuiet_nil rfl
                case hstep =>
                  intro j hj o ho
                  have hj2 : j = 0 ∨ j = 1 ∨ j = 2 := by simp at hj; omega
                  rcases hj2 with rfl | rfl | rfl
                  · cases ho
                    refine ⟨rfl, fun g x hx hp => ?_⟩
                    clear hp
                    simp only [fillAll, Act.put, List.setIfInBounds_toArray, List.set_cons_zero, List.set_cons_succ]
                    refine chain_go ?_ (free_gives (HEnc.out x))
                    first | (simp [go_sem, execOp]; done) | simp [go_sem, execOp, hcf]
                  · cases ho
                    refine ⟨rfl, fun g x hx hp => ?_⟩
                    have p55 : (fun u w => RU8 w u E) (g 5) x := hp _ (List.mem_of_getElem? (i := 0) rfl) (List.contains_iff_mem.1 (by kernel_rfl))
                    clear hp
                    simp only [fillAll, Act.put, List.setIfInBounds_toArray, List.set_cons_zero, List.set_cons_succ]
                    refine free_op ?_
                    have hrun := p55.str
                    simp [go_sem, execOp, hrun]
                  · cases ho
                    refine ⟨rfl, fun g x hx hp => ?_⟩
                    clear hp
                    simp only [fillAll, Act.put, List.setIfInBounds_toArray, List.set_cons_zero, List.set_cons_succ]
                    refine free_op ?_
                    have hrun := (HTk.out x hx).str
                    simp [go_sem, execOp, hrun]
                case htail =>
                  intro g u hst hne
                  have b_w5 : AnyLater wr (later u) := ⟨u, rfl⟩
                  generalize later u = w5 at *
                  clear u
                  obtain ⟨p55_w5, o55_w5⟩ := hst _ (List.mem_of_getElem? (i := 0) rfl)
                  dsimp only at p55_w5 o55_w5
                  clear hst hne
                  simp only [fillAll, Act.put, List.setIfInBounds_toArray, List.set_cons_zero, List.set_cons_succ, List.drop_succ_cons, List.drop_zero, List.drop_nil]
                  generalize g 5 = v55 at *
                  have z_w5 := b_w5.below.size
                  have a_w5 := a_wr.trans b_w5
                  go_wp2_with fail
                  go_ret2
                  exact ⟨by have h := HC.out.symm.trans HR.out; cases h; rfl, a_w5⟩
            · have HF : Hid (tU l 4 = false) := Lib.hid (by rw [HTU.out, decide_eq_false hlt]; rfl)
              have hd : decide (z < 1114112) = false := decide_eq_false hlt
              clear a_wr
              go_wp2_with fail
              go_quiet (fail)
              go_wp2_with fail
              go_roundg (6 - 5)
              case measure => omega
              case rel => exact ⟨HA2.out.drewN _, 5, rfl, by omega, by omega, rfl, fun m m1 m2 m3 => by
                by_cases e : m = 4
                · subst e; exact HF.out
                · exact HNo.out m m1 (by omega) m3⟩
    · have HZ := Lib.hid (HN0.out (fun m m1 m2 m3 => HNo.out m m1 (by omega) m3))
      clear a_wr cc0 cc0w
      by_cases q4 : n ≤ 4
      · have qL : ¬ (n : Int) ≤ (L : Int) := by omega
        go_wp2_with fail
        go_ret2
        exact ⟨ret_two HZ.out.1 (by rw [← HZ.out.2]; rfl), HA.out⟩
      · go_wp2_with fail
        go_ret2
        exact ⟨ret_two HZ.out.1 (by rw [← HZ.out.2]; rfl), HA.out⟩
end Go.Proofs.YtimplngemjdodaaDoor
