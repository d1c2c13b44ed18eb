/- text: lives; a text made by some edits, and its bytes: by contract. -/
import Derived.Test.YtdhgombgbjldgaaDoorTxtC
import Derived.Test.YtdhgombgbjldgaaDoorChain
import Derived.Deep.DeepCutAuto
import Derived.Deep.CutBlock
import Derived.Deep.RegionWith
import Derived.Deep.QuietTactic
namespace Go.Proofs.YtdhgombgbjldgaaDoor
set_option linter.unusedSimpArgs false
set_option linter.unusedVariables false
set_option linter.unusedSectionVars false
open Go.RowKit

set_option maxRecDepth 100000 in
set_option maxHeartbeats 1600000 in
theorem tlives (w : World) : Calls Tryd.prog 24 #[] w fun e w' => e = .returned (.bool true) ∧ AnyLater w w' := by
  have ok1 : (newT [97, 98, 10, 99]).Ok := newT_ok (by unfold Bytes; decide) (by decide)
  have bs1 : (newT [97, 98, 10, 99]).bs = [97, 98, 10, 99] := newT_bs _
  have ln1 : (newT [97, 98, 10, 99]).len = 4 := by rw [← Tr.len_bs, bs1]; rfl
  have fd1 : fds (newT [97, 98, 10, 99]) = [2] := by unfold fds; rw [bs1]; rfl
  have nf1 : (newT [97, 98, 10, 99]).nf = 1 := by rw [← fds_len, fd1]; rfl
  have HN : Hid (∀ (w' : World) (u : Value), RN .u8 w' u [97, 98, 10, 99] → Calls Tryd.prog 40 #[u, .int .i64 9] w' fun e w'' => ∃ tg g, e = .returned (.tuple #[.pointer (some ⟨tg, 0, none⟩), .int .i64 0]) ∧ AnyLater w' w'' ∧ w'.heap.size ≤ g ∧ w'.heap.size ≤ tg ∧ tg ≠ g ∧ IsTx w'' tg g 9 (newT [97, 98, 10, 99])) :=
    Lib.hid (fun w' u hu => tnew_yes u [97, 98, 10, 99] 9 w' hu (by unfold Bytes; decide) (by decide) ⟨by decide, by decide⟩ (by decide))
  generalize newT [97, 98, 10, 99] = t1 at *
  have HP : Hid (∀ (w' : World) (tg g : Nat), IsTx w' tg g 9 t1 → Calls Tryd.prog 25 #[.pointer (some ⟨tg, 0, none⟩), .int .i64 3] w' fun e w'' => e = .returned (.tuple #[.int .i64 1, .int .i64 0, .bool true]) ∧ AnyLater w' w'') :=
    Lib.hid (fun w' tg g h => tplace_yes tg g 9 t1 3 1 3 w' h ok1 (by omega) (by rw [fd1]; rfl) (by rw [fd1]; rfl) (by decide) (by omega))
  have HL : Hid (∀ (w' : World) (tg g : Nat), IsTx w' tg g 9 t1 → Calls Tryd.prog 30 #[.pointer (some ⟨tg, 0, none⟩)] w' fun e w'' => e = .returned (.int .i64 2) ∧ AnyLater w' w'') :=
    Lib.hid (fun w' tg g h => by
      have := tlines_some tg g 9 t1 w' h (by omega)
      rwa [nf1] at this)
  clear ok1 bs1 ln1 fd1 nf1
  have kc := fun (w : World) (C : Array Value) (n c : Nat) => Lib.run_convert_bytes_const (P := Tryd.prog) w 22 5 C n c Tryd.underlying22 Tryd.underlying5
  go_enter Tryd.func24, Tryd.ntmps24
  go_wp2_with fail
  refine (HN.out _ _ (RN.lit [97, 98, 10, 99] (heap_new rfl) rfl)).mono ?_
  rintro e w1 ⟨tg, g, rfl, b1, -, -, -, r1⟩
  have A1 : Hid (AnyLater w w1) := Lib.hid (AnyLater.trans (by repeat' (first | with_reducible assumption | with_reducible exact AnyLater.refl _ | with_reducible apply AnyLater.setCell | with_reducible apply AnyLater.later | with_reducible apply AnyLater.drewN | with_reducible apply AnyLater.drew | with_reducible apply AnyLater.alloc | ((try simp only [World.size_alloc, World.size_setCell, World.size_drew]); (try dsimp only); omega))) b1)
  have R1 := Lib.hid r1
  clear b1 r1
  go_wp2_with fail
  refine (HP.out _ tg g R1.out).mono ?_
  rintro e w2 ⟨rfl, b2⟩
  have A2 := Lib.hid (A1.out.trans b2)
  have R2 := Lib.hid (R1.out.later b2)
  clear b2
  go_wp2_with fail
  refine (HL.out _ tg g R2.out).mono ?_
  rintro e w3 ⟨rfl, b3⟩
  have A3 := Lib.hid (A2.out.trans b3)
  clear b3
  go_wp2_with fail
  go_ret
  exact ⟨rfl, A3.out⟩

/-! ### made -/
def stT (w0 w1 w2 : World) (P3 P4 : World → Prop) (j : Nat) (_ : Nat → Value) (x : World) : Prop := match j with
  | 0 => x = w0
  | 1 => x = w1
  | 2 => x = w2
  | 3 => P3 x
  | 4 => P4 x
  | _ => True
/-- the program's text at tg (its rope at g) and the document's at xg are the same -/
def TMid (w : World) (tg g xg : Nat) (L : List Int) (n : Nat) : Prop := ∃ t, IsTx w tg g 2000 t ∧ t.Ok ∧ t.bs = L ∧ IsX w xg 2000 L ∧ Bytes L ∧ L.length ≤ n
theorem TMid.later {w w' : World} {tg g xg n : Nat} {L : List Int} (h : TMid w tg g xg L n) (a : AnyLater w w') : TMid w' tg g xg L n := by
  obtain ⟨t, h1, h2, h3, h4, h5⟩ := h
  exact ⟨t, h1.later a, h2, h3, h4.later a, h5⟩
theorem IsTx.but {w w' : World} {tg g xg : Nat} {most : Int} {t : Tr} {cs : Array Value} (h : IsTx w tg g most t) (hb : But xg w w') (hx : w.heap[xg]? = some (.cells cs 63)) : IsTx w' tg g most t := by
  refine ⟨hb.own h.1 (fun e => ?_), IsR.but h.2 hb hx⟩
  rw [← e, h.1] at hx
  cases hx
theorem IsTx.put {w w' : World} {tg g : Nat} {most : Int} {t t2 : Tr} (h : IsTx w tg g most t) (hb : But g w w') (h2 : IsR w' g most t2) : IsTx w' tg g most t2 := by
  refine ⟨hb.own h.1 (fun e => ?_), h2⟩
  obtain ⟨rv, q, _⟩ := h.2
  rw [← e, h.1] at q
  cases q
theorem RAct.later {w w' : World} {v : Value} {l : List AM} (h : RAct w v l) (a : AnyLater w w') : RAct w' v l := by
  obtain ⟨A, cap, e, h1, h2⟩ := h
  refine ⟨A, cap, e, fun j hj => (h1 j hj).later a, fun h0 => ?_⟩
  obtain ⟨b, off, e2, hb, hc⟩ := h2 h0
  refine ⟨b, off, e2, Nat.lt_of_lt_of_le hb a.below.size, fun j hj => ?_⟩
  obtain ⟨q0, q1, q2, q3⟩ := hc j hj
  exact ⟨cell_on a q0, cell_on a q1, cell_on a q2, cell_on a q3⟩
set_option maxRecDepth 100000 in
set_option maxHeartbeats 6400000 in
theorem tmade_any (w : World) (v lv : Value) (b : List Int) (l : List AM) (hb : RN .u8 w v b) (hby : Bytes b) (hv : RAct w lv l) :
    Calls Tryd.prog 17 #[v, lv] w fun e w' => ∃ tg g xb, e = .returned (.tuple #[.pointer (some ⟨tg, 0, none⟩), xb, .bool true]) ∧ AnyLater w w' ∧ ∃ t L, IsTx w' tg g 2000 t ∧ t.Ok ∧ t.bs = L ∧ RT .u8 5 w' xb L ∧ Bytes L ∧ L.length ≤ 1000 := by
  obtain ⟨B, hB⟩ : ∃ B, b.take 100 = B := ⟨_, rfl⟩
  have hB1 : B.length ≤ 100 := by rw [← hB, List.length_take]; omega
  have hBy : Bytes B := by rw [← hB]; exact fun c hc => hby c (List.mem_of_mem_take hc)
  have HF := Lib.hid (fun (w' : World) (e : AnyLater w w') => few_any8 v b B 100 hB w' (hb.later e) (by omega))
  have HBy := Lib.hid (And.intro hB1 hBy)
  obtain ⟨Ab, capb, rfl, -⟩ := hb.form
  obtain ⟨Av, capv, rfl, hok, hcells⟩ := hv
  have HOk := Lib.hid (And.intro hok hcells)
  obtain ⟨nl, hnl⟩ : ∃ nl, l.length = nl := ⟨_, rfl⟩
  have HNL := Lib.hid hnl
  have HNw := Lib.hid (fun (w' : World) (u : Value) (hu : RN .u8 w' u B) => tnew_yes u B 2000 w' hu hBy (by omega) ⟨by decide, by decide⟩ (by omega))
  rw [hnl]
  clear hok hcells hnl hb hby hB hB1 hBy
  generalize b.length = nb at *
  go_enter Tryd.func17, Tryd.ntmps17
  go_wp2_with fail
  refine (HF.out _ (AnyLater.refl _)).mono ?_
  rintro e w1 ⟨u1, rfl, b1, o1⟩
  have H1 := Lib.hid (And.intro b1 o1.rn)
  obtain ⟨A1, cap1, rfl, -⟩ := o1.form
  clear b1 o1
  go_wp2_with fail
  refine (HNw.out _ _ H1.out.2).mono ?_
  rintro e w2 ⟨tg, g, rfl, b2, hg, htg, hne, h2⟩
  have H2 := Lib.hid (And.intro (H1.out.1.trans b2) (And.intro h2 (And.intro (Nat.le_trans H1.out.1.below.size hg) (And.intro (Nat.le_trans H1.out.1.below.size htg) hne))))
  clear b2 hg htg hne h2
  go_wp2_with fail
  refine (HF.out _ H2.out.1).mono ?_
  rintro e w3 ⟨u3, rfl, b3, o3⟩
  have H3 := Lib.hid (And.intro b3 o3.rt)
  obtain ⟨A3, cap3, rfl, -⟩ := o3.form
  clear b3 o3
  go_wp2_with fail
  obtain ⟨w4, hw4⟩ : ∃ w4, w3.alloc (.cells #[.slice A3 B.length cap3, .int .i64 2000] 63) = w4 := ⟨_, rfl⟩
  have a4 : AnyLater w3 w4 := by rw [← hw4]; exact (AnyLater.refl w3).alloc _
  have hx4 : w4.heap[w3.heap.size]? = some (.cells #[.slice A3 B.length cap3, .int .i64 2000] 63) := by rw [← hw4]; exact heap_new rfl
  have HM : Hid (TMid w4 tg g w3.heap.size B 100) := Lib.hid ⟨_, (H2.out.2.1.later H3.out.1).later a4, newT_ok HBy.out.2 (by have := HBy.out.1; omega), newT_bs B, ⟨_, hx4, H3.out.2.later a4⟩, HBy.out.2, HBy.out.1⟩
  have H4 := Lib.hid (H2.out.1.trans (H3.out.1.trans a4))
  have hxs : w.heap.size ≤ w3.heap.size := (H2.out.1.trans H3.out.1).below.size
  have HG := Lib.hid (And.intro H2.out.2.2.1 (And.intro H2.out.2.2.2.1 hxs))
  simp only [hw4]
  generalize w3.heap.size = xg at *
  clear hw4 a4 hx4 hxs H1 H2 H3 HF HNw HBy
  generalize B.length = nB at *
  go_loopg [10] nl (fun kk iv wr => AnyLater w wr ∧ ∃ (i : Nat) (L : List Int), kk = nl - i ∧ i ≤ nl ∧ i ≤ 30 ∧ iv = .int .i64 (i : Int) ∧ TMid wr tg g xg L (100 + 30 * i))
  case atStart => exact ⟨H4.out, 0, B, by omega, by omega, by omega, rfl, HM.out⟩
  case round =>
    obtain ⟨a_wr, i, L, hk, hi, hi30, rfl, hmid⟩ := hrel
    have HBo := Lib.hid hmid
    have HAr := Lib.hid a_wr
    clear hmid a_wr
    by_cases hlt : i < nl ∧ i < 30
    · obtain ⟨h1, h2⟩ := hlt
      have hil : i < l.length := by rw [HNL.out]; exact h1
      obtain ⟨b0, off, rfl, hb0, hcs⟩ := HOk.out.2 (by omega)
      obtain ⟨c0, c1, c2, c3⟩ := hcs i hil
      have d0 : (i : Int) < (nl : Int) := by omega
      have d1 : (i : Int) < 30 := by omega
      have HAi := Lib.hid (HOk.out.1 i hil)
      generalize l[i] = Ai at *
      obtain ⟨k4, a4, n4, v4, b4⟩ := Ai
      simp only at c0 c1 c2 c3
      obtain ⟨A4, cap4, e4, -⟩ := HAi.out.row.form
      simp only at e4
      subst e4
      have HF4 := Lib.hid (few_any8 _ b4 (b4.take 30) 30 rfl wr (HAi.out.row.later HAr.out) (by omega))
      have HB4 : Hid ((b4.take 30).length ≤ 30 ∧ Bytes (b4.take 30)) := Lib.hid ⟨by rw [List.length_take]; omega, fun c hc => HAi.out.bytes c (List.mem_of_mem_take hc)⟩
      generalize b4.take 30 = C at *
      have HC := Lib.hid (And.intro c0 (And.intro c1 (And.intro c2 c3)))
      clear hcs hil
      generalize b4.length = m4 at *
      have c0 := cell_on HAr.out c0
      have c1 := cell_on HAr.out c1
      have c2 := cell_on HAr.out c2
      have c3 := cell_on HAr.out c3
      by_cases hk1 : k4 = 1
      · subst hk1
        go_wp2_with fail
        refine HF4.out.mono ?_
        rintro e w5 ⟨u5, rfl, b5, o5⟩
        obtain ⟨A5, cap5, rfl, -⟩ := o5.form
        have H5 := Lib.hid (HAr.out.trans b5)
        have M5 := Lib.hid (HBo.out.later b5)
        clear b5 o5 c0 c1 c2 c3
        have c0 := cell_on H5.out HC.out.1
        generalize C.length = nC at *
        go_wp2_with fail
        obtain ⟨t, hx, ok, hbs, hX, hby, hlen⟩ := M5.out
        have htl : t.len = L.length := by rw [← Tr.len_bs, hbs]
        have HD : Hid (∀ w', AnyLater w5 w' → Calls Tryd.prog 28 #[.pointer (some ⟨tg, 0, none⟩), .int .i64 a4, .int .i64 n4] w' fun e w'' => ∃ u, e = .returned (.tuple #[u, .int .i64 (delC L.length a4 n4)]) ∧ But g w' w'' ∧ IsR w'' g 2000 (delTT t a4 n4) ∧ isB (delG L a4 n4) u w'') := Lib.hid (fun w' a => tdel_any tg g 2000 t a4 n4 _ _ (fun x => IsR x g 2000 (delTT t a4 n4)) w' (hx.later a) (Lib.hid fun w'' a2 => by
          have := rdel_all g 2000 a4 n4 t w'' ((hx.later a).later a2).2 ok
          rwa [htl, hbs] at this))
        have HX : Hid (∀ w', IsX w' xg 2000 L → Calls Tryd.prog 41 #[.pointer (some ⟨xg, 0, none⟩), .int .i64 a4, .int .i64 n4] w' fun e w'' => ∃ u, e = .returned (.tuple #[u, .int .i64 (delC L.length a4 n4)]) ∧ But xg w' w'' ∧ IsX w'' xg 2000 (delL L a4 n4) ∧ isB (delG L a4 n4) u w'') := Lib.hid (fun w' h => xdel_all xg 2000 a4 n4 L w' h (by omega))
        have HE : Hid (∀ w', IsTx w' tg g 2000 (delTT t a4 n4) → IsX w' xg 2000 (delL L a4 n4) → TMid w' tg g xg (delL L a4 n4) (100 + 30 * (i + 1))) := Lib.hid (fun w' h1 h2 => ⟨_, h1, delTT_ok ok, by rw [delTT_bs, hbs], h2, delL_bytes hby, by have := delL_len L a4 n4; omega⟩)
        have HO := Lib.hid (And.intro hx hX)
        obtain ⟨rv5, q5, -⟩ := id hx.2
        have HQ := Lib.hid q5
        generalize delC L.length a4 n4 = c at *
        obtain ⟨G, hG⟩ : ∃ G, delG L a4 n4 = G := ⟨_, rfl⟩
        rw [hG] at HD HX
        clear hx ok hbs hX hby hlen htl q5 hG c0
        generalize delTT t a4 n4 = t2 at *
        generalize delL L a4 n4 = L2 at *
        have c1 := cell_on H5.out HC.out.2.1
        have c2 := cell_on H5.out HC.out.2.2.1
        go_region_with (go_at_call 28; refine (HD.out _ ?_).mono ?_; exact (AnyLater.refl w5).drew; rintro e w6 ⟨u6, rfl, bb6, r6, hu6⟩; have W6 := Lib.hid (But.any H5.out.drew HG.out.1 bb6); have T6 := Lib.hid (IsTx.put (HO.out.1.later (AnyLater.refl w5).drew) bb6 r6); have X6 := Lib.hid (IsX.but (HO.out.2.later (AnyLater.refl w5).drew) bb6 (heap_drew HQ.out)); have U6 := Lib.hid hu6; obtain ⟨A6, cap6, rfl, -⟩ := isB.form hu6; clear bb6 r6 hu6)
        all_goals
          clear c1 c2
          have c1 := cell_on W6.out HC.out.2.1
          have c2 := cell_on W6.out HC.out.2.2.1
          obtain ⟨xv6, x6, -⟩ := id X6.out
          have HX6 := Lib.hid (heap_drew x6)
          clear x6
          go_wp2_with fail
          go_region_with (go_at_call 41; refine (HX.out _ ?_).mono ?_; exact X6.out.later (AnyLater.refl w6).drew; rintro e w7 ⟨u7, rfl, bb7, x7, hu7⟩; have W7 := Lib.hid (But.any W6.out.drew HG.out.2.2 bb7); have T7 := Lib.hid (IsTx.but (T6.out.later (AnyLater.refl w6).drew) bb7 HX6.out); have M7 := Lib.hid (HE.out _ T7.out x7); have hs6 := RN.str (RT.rn (RT.but (RT.later U6.out (AnyLater.refl w6).drew) bb7 HX6.out (by decide))); have hs7 := RN.str (RT.rn hu7); obtain ⟨A7, cap7, rfl, -⟩ := isB.form hu7; clear bb7 x7 hu7)
        all_goals
          clear c1 c2
          generalize strOfNums G = S at *
          generalize G.length = nG at *
          go_wp2_with fail
          go_roundg (nl - (i + 1))
          case measure => omega
          case rel => exact ⟨W7.out, i + 1, L2, rfl, by omega, by omega, by go_num, M7.out⟩
      · have k1 : (k4 == 1) = false := by simpa using hk1
        go_wp2_with fail
        refine HF4.out.mono ?_
        rintro e w5 ⟨u5, rfl, b5, o5⟩
        have HFV := Lib.hid o5.rt
        obtain ⟨A5, cap5, rfl, -⟩ := o5.form
        have H5 := Lib.hid (HAr.out.trans b5)
        have M5 := Lib.hid (HBo.out.later b5)
        obtain ⟨u8, w8, q1, q2, q3⟩ := copy8 (w := w5.drew) (o5.rn.later (AnyLater.refl w5).drew) (by have := HB4.out.1; omega)
        have C1 := Lib.hid q1
        have C2 := Lib.hid (And.intro ((AnyLater.refl w5).drew.trans q2) q3.rn)
        have HU8 := Lib.hid q3.form
        clear b5 o5 c0 c1 c2 c3 q1 q2 q3 hk1
        have c0 := cell_on H5.out HC.out.1
        obtain ⟨t, hx, ok, hbs, hX, hby, hlen⟩ := M5.out
        have htl : t.len = L.length := by rw [← Tr.len_bs, hbs]
        have HI : Hid (∀ w', IsTx w' tg g 2000 t → RN .u8 w' u8 C → Calls Tryd.prog 29 #[.pointer (some ⟨tg, 0, none⟩), .int .i64 a4, u8] w' fun e w'' => e = .returned (.int .i64 (insC L.length 2000 a4 C.length)) ∧ But g w' w'' ∧ IsR w'' g 2000 (insTT t 2000 a4 C)) := Lib.hid (fun w' h hu => by
          obtain ⟨A8, cap8, e8, -⟩ := HU8.out
          subst e8
          exact tins_any tg g 2000 t a4 _ A8 _ cap8 (fun x => IsR x g 2000 (insTT t 2000 a4 C)) w' h (Lib.hid fun w'' a2 => by
            have := rins_all g 2000 a4 t _ C w'' (h.later a2).2 ok (hu.later a2) HB4.out.2 (by omega)
            rwa [htl] at this))
        have HX : Hid (∀ (w' : World) (u : Value), IsX w' xg 2000 L → RN .u8 w' u C → Calls Tryd.prog 42 #[.pointer (some ⟨xg, 0, none⟩), .int .i64 a4, u] w' fun e w'' => e = .returned (.int .i64 (insC L.length 2000 a4 C.length)) ∧ But xg w' w'' ∧ IsX w'' xg 2000 (insO L 2000 a4 C)) := Lib.hid (fun w' u h hu => xins_all xg 2000 a4 L u C w' h hu (by omega))
        have HE : Hid (∀ w', IsTx w' tg g 2000 (insTT t 2000 a4 C) → IsX w' xg 2000 (insO L 2000 a4 C) → TMid w' tg g xg (insO L 2000 a4 C) (100 + 30 * (i + 1))) := Lib.hid (fun w' h1 h2 => ⟨_, h1, insTT_ok ok HB4.out.2 (by decide), by rw [insTT_bs, hbs], h2, insO_bytes hby HB4.out.2, by
          have := HB4.out.1
          unfold insO
          split
          · rename_i hz
            have hz2 := insC_zero hz
            rw [List.length_append, List.length_append, List.length_take, List.length_drop]; omega
          · omega⟩)
        have HO := Lib.hid (And.intro hx hX)
        generalize insC L.length 2000 a4 C.length = c at *
        clear hx ok hbs hX hby hlen htl
        generalize insTT t 2000 a4 C = t2 at *
        generalize insO L 2000 a4 C = L2 at *
        generalize C.length = nC at *
        go_wp2_with fail
        apply wp_region_chain 18 [(6, .slice (some ⟨w5.heap.size, 0, none⟩) 0 0), (8, u8), (9, .int .i64 c), (17, .int .i64 c)] [] (AnyLater w)
          (stT w5.drew (w5.drew.alloc (.cells #[] 5)) w8 (fun x => IsTx x tg g 2000 t2 ∧ IsX x xg 2000 L ∧ RN .u8 x (.slice A5 nC cap5) C) (fun x => IsTx x tg g 2000 t2 ∧ IsX x xg 2000 L2)) (by kernel_rfl) (by kernel_rfl) (by kernel_rfl) (by simp) (by kernel_rfl) H5.out.drew (fun _ => rfl)
        case hlex =>
          intro U hU
          have q1 := cell_on hU HC.out.2.1
          simp only [actFrom, actOp, List.lookup, Nat.reduceBEq, Nat.reduceLeDiff, Nat.reduceAdd, if_false, if_true]
          repeat (go_big_quiet_step (fail))
          exact wpQuiet_nil rfl
        case hact =>
          intro i hi o ho
          have hj3 : i = 0 ∨ i = 1 ∨ i = 2 ∨ i = 3 := by simp at hi; omega
          rcases hj3 with rfl | rfl | rfl | rfl
          · cases ho
            refine ⟨rfl, fun gv x hC hS => ?_⟩
            obtain rfl : x = w5.drew := hS
            exact chain_value (w' := w5.drew.alloc (.cells #[] 5)) (by simp [go_sem, execOp]) ⟨hC.alloc _, .inr rfl, rfl⟩
          · cases ho
            refine ⟨rfl, fun gv x hC hS => ?_⟩
            obtain rfl : x = w5.drew.alloc (.cells #[] 5) := hS
            simp only [fillAll, Act.put, List.setIfInBounds_toArray, List.set_cons_zero, List.set_cons_succ]
            exact chain_app _ _ _ _ rfl _ _ rfl rfl C1.out ⟨H5.out.trans C2.out.1, .inr rfl, rfl⟩
          · cases ho
            refine ⟨rfl, fun gv x hC hS => ?_⟩
            obtain rfl : x = w8 := hS
            simp only [fillAll, Act.put, List.setIfInBounds_toArray, List.set_cons_zero, List.set_cons_succ]
            have hR := HO.out.1.later C2.out.1
            have hXx := HO.out.2.later C2.out.1
            obtain ⟨rv, q1, _⟩ := id hR.2
            refine chain_go ?_ ((HI.out x hR C2.out.2).mono fun e w'' ⟨h1, h2, h3⟩ => ⟨_, h1, But.any hC HG.out.1 h2, .inr rfl, hR.put h2 h3, hXx.but h2 q1, RT.rn (RT.but (RT.later HFV.out C2.out.1) h2 q1 (by decide))⟩)
            simp [go_sem, execOp]
          · cases ho
            refine ⟨rfl, fun gv x hC hS => ?_⟩
            obtain ⟨hR, hXx, hfx⟩ : IsTx x tg g 2000 t2 ∧ IsX x xg 2000 L ∧ RN .u8 x (.slice A5 nC cap5) C := hS
            obtain ⟨xv, q1, _⟩ := id hXx
            simp only [fillAll, Act.put, List.setIfInBounds_toArray, List.set_cons_zero, List.set_cons_succ]
            refine chain_go ?_ ((HX.out x _ hXx hfx).mono fun e w'' ⟨h1, h2, h3⟩ => ⟨_, h1, But.any hC HG.out.2.2 h2, .inr rfl, hR.but h2 q1, h3⟩)
            simp [go_sem, execOp]
        case htail =>
          intro gz wz hC hS
          obtain ⟨hR, hXx⟩ : IsTx wz tg g 2000 t2 ∧ IsX wz xg 2000 L2 := hS
          have HZ := Lib.hid (And.intro hC (HE.out wz hR hXx))
          clear hC hR hXx c0
          simp only [fillAll, Act.put, List.setIfInBounds_toArray, List.set_cons_zero, List.set_cons_succ, List.drop_succ_cons, List.drop_zero, List.drop_nil]
          go_wp2_with fail
          go_roundg (nl - (i + 1))
          case measure => omega
          case rel => exact ⟨HZ.out.1, i + 1, L2, rfl, by omega, by omega, by go_num, HZ.out.2⟩
    · obtain ⟨t, hx, ok, hbs, hX, hby, hlen⟩ := HBo.out
      obtain ⟨xv, q1, hxv⟩ := hX
      have r0 := own_row q1
      have HZ := Lib.hid (And.intro hx (And.intro ok (And.intro hbs (And.intro hxv (And.intro hby (show L.length ≤ 1000 by omega))))))
      clear hx ok hbs hby hlen hxv q1
      by_cases h1 : i < nl
      case' pos =>
        have d0 : (i : Int) < (nl : Int) := by omega
        have d1 : decide ((i : Int) < 30) = false := decide_eq_false (by omega)
        have d2 : decide (i < 30) = false := decide_eq_false (by omega)
        clear hlt hk
        go_wp2_with fail
      case' neg =>
        have d0 : decide ((i : Int) < (nl : Int)) = false := decide_eq_false (by omega)
        have d1 : decide (i < nl) = false := decide_eq_false (by omega)
        clear hlt hk
        go_wp2_with fail
      all_goals
        go_quiet (fail)
        go_wp2_with fail
        refine bodyPost_ret (v := .tuple #[.pointer (some ⟨tg, 0, none⟩), xv, .bool true]) (by simp [results, Tryd.results17, go_sem]) rfl ?_
        have a9 := AnyLater.drewN (AnyLater.refl wr) nq
        exact ⟨tg, g, xv, rfl, HAr.out.drewN _, t, L, HZ.out.1.later a9, HZ.out.2.1, HZ.out.2.2.1, HZ.out.2.2.2.1.later a9, HZ.out.2.2.2.2.1, HZ.out.2.2.2.2.2⟩
end Go.Proofs.YtdhgombgbjldgaaDoor
