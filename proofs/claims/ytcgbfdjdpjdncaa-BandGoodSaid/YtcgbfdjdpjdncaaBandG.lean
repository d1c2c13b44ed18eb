/- band: the law on the good bands of any rows, on what the program's functions are to tell. -/
import Derived.Test.YtcgbfdjdpjdncaaBandF
namespace Go.Proofs.Ytcgbfdjdpjdncaa
set_option linter.unusedSimpArgs false
set_option linter.unusedVariables false
set_option linter.unusedSectionVars false
open Go.RowKit

theorem info_bool : (Try.prog.info? 4).map (fun i => (i.zero, i.size, i.bytes)) = some (some (.bool false), 1, 1) := by kernel_rfl
/-- the first rows, as cells -/
def upB (f : Nat → Bool) (j : Nat) : List Value := (List.range j).map fun i => .bool (f i)
theorem upB_succ (f : Nat → Bool) (j : Nat) : upB f (j + 1) = upB f j ++ [.bool (f j)] := by unfold upB; rw [List.range_succ, List.map_append]; rfl
theorem upB_get (f : Nat → Bool) (j i : Nat) (h : i < j) : (upB f j)[i]? = some (.bool (f i)) := by unfold upB; simp [h]
/-- rows that a call made itself, no two in one block -/
def Apart (w : World) (B : Nat) (e : TypeId) (rs : List (Value × Nat × List Value)) : Prop := (∀ r ∈ rs, w.ownsRow B e 1 r.1 r.2.1 r.2.2 ∧ ∃ g c, r.1 = .slice (some ⟨g, 0, none⟩) r.2.1 c) ∧ rs.Pairwise fun r s => r.1.ownBlock ≠ s.1.ownBlock
theorem Apart.later {w w' : World} {B : Nat} {e : TypeId} {rs : List (Value × Nat × List Value)} (h : Apart w B e rs) (ha : AnyLater w w') : Apart w' B e rs :=
  ⟨fun r hr => ⟨owns_later ha (h.1 r hr).1, (h.1 r hr).2⟩, h.2⟩
theorem own_size {w : World} {B : Nat} {e : TypeId} {n g c : Nat} {xs : List Value} (o : w.ownsRow B e 1 (.slice (some ⟨g, 0, none⟩) n c) n xs) : g < w.heap.size := by
  rcases o.2 with ⟨h, _⟩ | ⟨g', c', cur, h1, _, h3, _⟩
  · cases h
  · cases h1; exact own_lt h3
theorem owns_grown {w w' : World} {B : Nat} {e : TypeId} {v : Value} {n : Nat} {xs : List Value} {row : Option Nat} (o : w.ownsRow B e 1 v n xs) (hg : w.grownBy w' row) (hne : row ≠ v.ownBlock) : w'.ownsRow B e 1 v n xs := by
  refine ⟨o.1, ?_⟩
  rcases o.2 with k | ⟨g, cap, cur, h1, h2, h3, h4⟩
  · exact .inl k
  · exact .inr ⟨g, cap, cur, h1, h2, grown_block hg h3 (by rw [h1] at hne; exact hne), h4⟩
/-- one more element in one of the rows -/
theorem Apart.step {w w' : World} {B : Nat} {e : TypeId} {pre post : List (Value × Nat × List Value)} {v : Value} {n g c : Nat} {xs : List Value} {x : Value} (h : Apart w B e (pre ++ (v, n, xs) :: post)) (o : Obj)
    (hown : w'.ownsRow B e 1 (.slice (some ⟨g, 0, none⟩) (n + 1) c) (n + 1) (xs ++ [x])) (hg : (w.alloc o).grownBy w' v.ownBlock) (hat : v.ownBlock = some g ∨ g = w.heap.size + 1) :
    Apart w' B e (pre ++ (.slice (some ⟨g, 0, none⟩) (n + 1) c, n + 1, xs ++ [x]) :: post) := by
  obtain ⟨h1, h2⟩ := h
  obtain ⟨p1, p2, p3⟩ := List.pairwise_append.1 h2
  obtain ⟨q1, q2⟩ := List.pairwise_cons.1 p2
  have other : ∀ r, r ∈ pre ++ (v, n, xs) :: post → v.ownBlock ≠ r.1.ownBlock → (w'.ownsRow B e 1 r.1 r.2.1 r.2.2 ∧ ∃ g c, r.1 = .slice (some ⟨g, 0, none⟩) r.2.1 c) ∧ some g ≠ r.1.ownBlock := by
    intro r hr hne
    obtain ⟨k1, g2, c2, k2⟩ := h1 r hr
    have k3 := owns_later ((AnyLater.refl w).alloc o) k1
    refine ⟨⟨owns_grown k3 hg hne, g2, c2, k2⟩, ?_⟩
    rcases hat with hat | hat
    · rw [← hat]; exact hne
    · rw [k2] at k1 ⊢
      have := own_size k1
      intro e2
      have : g = g2 := by simpa [Value.ownBlock] using e2
      omega
  have hpre : ∀ r ∈ pre, v.ownBlock ≠ r.1.ownBlock := fun r hr => (p3 r hr (v, n, xs) List.mem_cons_self).symm
  have hpost : ∀ r ∈ post, v.ownBlock ≠ r.1.ownBlock := fun r hr => q1 r hr
  refine ⟨fun r hr => ?_, List.pairwise_append.2 ⟨p1, List.pairwise_cons.2 ⟨fun r hr => ?_, q2⟩, fun r hr s hs => ?_⟩⟩
  · rcases List.mem_append.1 hr with hr | hr
    · exact (other r (List.mem_append_left _ hr) (hpre r hr)).1
    · rcases List.mem_cons.1 hr with rfl | hr
      · exact ⟨hown, g, c, rfl⟩
      · exact (other r (List.mem_append_right _ (List.mem_cons_of_mem _ hr)) (hpost r hr)).1
  · exact (other r (List.mem_append_right _ (List.mem_cons_of_mem _ hr)) (hpost r hr)).2
  · rcases List.mem_cons.1 hs with rfl | hs
    · exact (other r (List.mem_append_left _ hr) (hpre r hr)).2.symm
    · exact p3 r hr s (List.mem_cons_of_mem _ hs)
theorem Apart.base {w : World} {B : Nat} {e : TypeId} {rs : List (Value × Nat × List Value)} (h : Apart w B e rs) {r : Value × Nat × List Value} (hr : r ∈ rs) : ∀ k, r.1.ownBlock = some k → B ≤ k := owns_base (h.1 r hr).1
/-- the first rows that a row of bools holds, read -/
theorem Apart.bools {w : World} {B : Nat} {rs : List (Value × Nat × List Value)} {v : Value} {n : Nat} {f : Nat → Bool} (h : Apart w B 4 rs) (hr : (v, n, upB f n) ∈ rs) : ∃ g c, v = .slice (some ⟨g, 0, none⟩) n c ∧ g < w.heap.size ∧ ∀ j, j < n → w.cell? ⟨g, j, none⟩ = some (.bool (f j)) := by
  obtain ⟨k1, g, c, k2⟩ := h.1 _ hr
  simp only at k1 k2
  subst k2
  refine ⟨g, c, rfl, own_size k1, fun j hj => ?_⟩
  rcases k1.2 with ⟨h, _⟩ | ⟨g', c', cur, e1, _, h3, h4, h5, h6, h7⟩
  · cases h
  · cases e1
    rw [own_row h3 j]
    have : (cur.toList.take (n * 1))[j]? = (upB f n)[j]? := by rw [h7]
    rw [List.getElem?_take_of_lt (by omega), upB_get f n j hj] at this
    simpa using this
/-- rows that are told by a function of near rows alone -/
theorem near_fn (f : Nat → Bool) (F : Int → Bool) (hf : ∀ i : Nat, f i = F ((i : Int) - 100)) (hF : ∀ y, F y = true → -100 ≤ y ∧ y < 300) (y : Int) : inB (ofL f 400) y = F y := by
  rw [ofL_rows _ _ (by decide)]
  cases hy : F y with
  | true =>
    have := hF y hy
    refine decide_eq_true ⟨this.1, by omega, ?_⟩
    rw [hf, show (((y + 100).toNat : Nat) : Int) - 100 = y by omega]
    exact hy
  | false =>
    refine decide_eq_false (fun ⟨h1, h2, h3⟩ => ?_)
    rw [hf, show (((y + 100).toNat : Nat) : Int) - 100 = y by omega, hy] at h3
    cases h3

theorem Apart.start {w : World} : Apart ((((w.alloc (.cells #[] 4)).alloc (.cells #[] 4)).alloc (.cells #[] 4)).alloc (.cells #[] 4)) w.heap.size 4 [(.slice (some ⟨w.heap.size, 0, none⟩) 0 0, 0, []), (.slice (some ⟨w.heap.size + 1, 0, none⟩) 0 0, 0, []), (.slice (some ⟨w.heap.size + 1 + 1, 0, none⟩) 0 0, 0, []), (.slice (some ⟨w.heap.size + 1 + 1 + 1, 0, none⟩) 0 0, 0, [])] := by
  have one : ∀ k : Nat, ∀ W : World, w.heap.size ≤ k → W.heap[k]? = some (.cells #[] 4) → W.ownsRow w.heap.size 4 1 (.slice (some ⟨k, 0, none⟩) 0 0) 0 [] ∧ ∃ g c, Value.slice (some ⟨k, 0, none⟩) 0 0 = .slice (some ⟨g, 0, none⟩) 0 c :=
    fun k W hk h => ⟨⟨rfl, .inr ⟨k, 0, #[], rfl, hk, h, Nat.le_refl _, Nat.zero_le _, rfl, rfl⟩⟩, k, 0, rfl⟩
  refine ⟨?_, ?_⟩
  · intro r hr
    simp only [List.mem_cons, List.not_mem_nil, or_false] at hr
    rcases hr with rfl | rfl | rfl | rfl
    · exact one _ _ (by omega) (heap_old (by simp only [World.size_alloc]; omega) (heap_old (by simp only [World.size_alloc]; omega) (heap_old (by simp only [World.size_alloc]; omega) (heap_new rfl))))
    · exact one _ _ (by omega) (heap_old (by simp only [World.size_alloc]; omega) (heap_old (by simp only [World.size_alloc]; omega) (heap_new (by simp only [World.size_alloc]))))
    · exact one _ _ (by omega) (heap_old (by simp only [World.size_alloc]; omega) (heap_new (by simp only [World.size_alloc])))
    · exact one _ _ (by omega) (heap_new (by simp only [World.size_alloc]))
  · simp [Value.ownBlock, List.pairwise_cons]
    omega

set_option maxRecDepth 100000 in
set_option maxHeartbeats 6400000 in
theorem sets_law (S : Says) (v1 v2 : Value) (l1 l2 : Bands) (w : World) (h1 : RB w v1 l1) (h2 : RB w v2 l2) (n1 : Nums l1) (n2 : Nums l2) :
    Calls Try.prog 3 #[v1, v2] w fun e w' => e = .returned (.bool true) ∧ AnyLater w w' := by
  obtain ⟨i0, hi0, hz0, hz1, hz2⟩ := info_parts info_bool
  have F1 := Lib.hid (few_any v1 l1 w h1)
  have F3 := Lib.hid (fun w' (ha : AnyLater w w') => few_any v2 l2 w' (h2.later ha))
  have HS := Lib.hid S
  have HK : Hid ((l1.take 30).length ≤ 30 ∧ (l2.take 30).length ≤ 30) := Lib.hid ⟨by rw [List.length_take]; omega, by rw [List.length_take]; omega⟩
  have HM := Lib.hid (And.intro (nums_take n1 30) (nums_take n2 30))
  clear h1 h2 S n1 n2
  generalize l1.take 30 = a at *
  generalize l2.take 30 = b at *
  have K1 : Hid (a.length ≤ 1000) := Lib.hid (by have := HK.out.1; omega)
  have K2 : Hid (b.length ≤ 1000) := Lib.hid (by have := HK.out.2; omega)
  have k5 : Hid (a.length ≤ 100000 ∧ b.length ≤ 100000) := Lib.hid ⟨by have := HK.out.1; omega, by have := HK.out.2; omega⟩
  go_enter Try.func3, Try.ntmps3
  go_wp2_with fail
  refine F1.out.mono ?_
  rintro e w1 ⟨va, rfl, a_w1, o1⟩
  go_wp2_with fail
  refine (F3.out w1 a_w1).mono ?_
  rintro e w2 ⟨vb, rfl, b_w2, o2⟩
  have a_w2 := a_w1.trans b_w2
  have c_w2 := AnyLater.refl w2
  have RA := Lib.hid (fun w' (ha : AnyLater w2 w') => (o1.reads.later b_w2).later ha)
  have RBb := Lib.hid (fun w' (ha : AnyLater w2 w') => o2.reads.later ha)
  clear o1 o2 b_w2 F1 F3
  have N1 := near_any va a w2 (RA.out w2 c_w2) k5.out.1
  have N2 := near_any vb b w2 (RBb.out w2 c_w2) k5.out.2
  have I1 := Lib.hid (fun (w' : World) (y : Int) (ha : AnyLater w2 w') => in_any va a y w' (RA.out w' ha) k5.out.1)
  have I2 := Lib.hid (fun (w' : World) (y : Int) (ha : AnyLater w2 w') => in_any vb b y w' (RBb.out w' ha) k5.out.2)
  cases hn1 : nearB a with
  | false =>
    rw [hn1] at N1
    have M1 := Lib.hid N1
    clear N1 N2 hn1
    go_wp2_with fail
    refine M1.out.mono ?_
    rintro e w9 ⟨rfl, rfl⟩
    go_wp2_with fail
    refine (lives_any HS.out _).mono ?_
    rintro e w3 ⟨rfl, b_w3⟩
    have z_w3 := b_w3.below.size
    have a_w3 := a_w2.trans b_w3
    go_wp2_with fail
    go_ret
    exact ⟨rfl, a_w3⟩
  | true =>
    rw [hn1] at N1
    have M1 := Lib.hid N1
    have NA := Lib.hid hn1
    clear N1 hn1
    cases hn2 : nearB b with
    | false =>
      rw [hn2] at N2
      have M2 := Lib.hid N2
      clear N2 hn2
      go_wp2_with fail
      refine M1.out.mono ?_
      rintro e w9 ⟨rfl, rfl⟩
      go_wp2_with fail
      refine M2.out.mono ?_
      rintro e w9 ⟨rfl, rfl⟩
      go_wp2_with fail
      refine (lives_any HS.out _).mono ?_
      rintro e w3 ⟨rfl, b_w3⟩
      have z_w3 := b_w3.below.size
      have a_w3 := a_w2.trans b_w3
      go_wp2_with fail
      go_ret
      exact ⟨rfl, a_w3⟩
    | true =>
      rw [hn2] at N2
      have M2 := Lib.hid N2
      have NB := Lib.hid hn2
      clear N2 hn2
      go_wp2_with fail
      refine M1.out.mono ?_
      rintro e w9 ⟨rfl, rfl⟩
      go_wp2_with fail
      refine M2.out.mono ?_
      rintro e w9 ⟨rfl, rfl⟩
      go_wp2_with fail
      go_loopg [5, 6, 7, 8, 9] 400 (fun k p q r s i wr => ∃ j : Nat, k = 400 - j ∧ j ≤ 400 ∧ i = .int .i64 ((j : Int) - 100) ∧ AnyLater w2 wr ∧ Apart wr w2.heap.size 4 [(p, j, upB (rowsOf a) j), (q, j, upB (fun i => rowsOf a i || rowsOf b i) j), (r, j, upB (fun i => rowsOf a i && rowsOf b i) j), (s, j, upB (fun i => rowsOf a i && !rowsOf b i) j)])
      case atStart => exact ⟨0, by omega, by omega, rfl, ((((AnyLater.refl w2).alloc _).alloc _).alloc _).alloc _, Apart.start⟩
      case round =>
        obtain ⟨j, hk, hj, rfl, ha, hp⟩ := hrel
        have HA := Lib.hid ha
        have HP := Lib.hid hp
        clear ha hp
        by_cases hlt : j < 400
        · have hd : (j : Int) - 100 < 300 := by omega
          cases hx : inB a ((j : Int) - 100) with
          | true =>
            cases hz : inB b ((j : Int) - 100) with
            | true =>
              have U : Hid (upB (rowsOf a) (j + 1) = upB (rowsOf a) j ++ [.bool true] ∧ upB (fun i => rowsOf a i || rowsOf b i) (j + 1) = upB (fun i => rowsOf a i || rowsOf b i) j ++ [.bool true] ∧ upB (fun i => rowsOf a i && rowsOf b i) (j + 1) = upB (fun i => rowsOf a i && rowsOf b i) j ++ [.bool true] ∧ upB (fun i => rowsOf a i && !rowsOf b i) (j + 1) = upB (fun i => rowsOf a i && !rowsOf b i) j ++ [.bool false]) := Lib.hid (by
                have q1 : rowsOf a j = true := hx
                have q2 : rowsOf b j = true := hz
                refine ⟨?_, ?_, ?_, ?_⟩ <;> (rw [upB_succ]; simp [q1, q2]))
              have C1 := Lib.hid (I1.out wr ((j : Int) - 100) HA.out)
              have C2 := Lib.hid (I2.out wr ((j : Int) - 100) HA.out)
              rw [hx] at C1
              rw [hz] at C2
              clear hx hz
              go_wp2_with fail
              refine C1.out.mono ?_
              rintro e w9 ⟨rfl, rfl⟩
              go_wp2_with fail
              refine C2.out.mono ?_
              rintro e w9 ⟨rfl, rfl⟩
              go_wp2_with (first | (at_builtin; refine wpList_append_lies _ rfl (.tmp 39) (.tmp 41) 26 rfl w2.heap.size 4 i0 (.bool false) 1 1 Try.underlying26 hi0 hz0 hz1 hz2 rfl (by decide) u5 j (upB (rowsOf a) j) rfl (owns_later ((AnyLater.refl wr).alloc (.cells #[.bool true] 4)) (HP.out.1 (u5, j, upB (rowsOf a) j) (by simp)).1) ⟨wr.heap.size, 0, none⟩ 1 1 [.bool true] rfl rfl (World.news_of_block (w := wr.alloc (.cells #[.bool true] 4)) (cs := #[.bool true]) (t := 4) (fr := (0, 0)) (heap_new rfl)) (by simp [Value.oneCell']) (by omega) (by unfold maxLen; omega) (by omega) ((HA.out.alloc _).below.size) (wr.heap.size + 1) (by simp) ?_; intro g1 c1 x1 o1 gr1 at1 lt1; have P1 := Lib.hid (Apart.step (pre := []) HP.out (.cells #[.bool true] 4) o1 gr1 at1); have A1 := Lib.hid (grown_later (HA.out.alloc _) gr1 (HP.out.base (r := (u5, j, upB (rowsOf a) j)) (by simp))); clear o1 gr1 at1 lt1) | (at_builtin; refine wpList_append_lies _ rfl (.tmp 43) (.tmp 48) 26 rfl w2.heap.size 4 i0 (.bool false) 1 1 Try.underlying26 hi0 hz0 hz1 hz2 rfl (by decide) u6 j (upB (fun i => rowsOf a i || rowsOf b i) j) rfl (owns_later ((AnyLater.refl x1).alloc (.cells #[.bool true] 4)) (P1.out.1 (u6, j, upB (fun i => rowsOf a i || rowsOf b i) j) (by simp)).1) ⟨x1.heap.size, 0, none⟩ 1 1 [.bool true] rfl rfl (World.news_of_block (w := x1.alloc (.cells #[.bool true] 4)) (cs := #[.bool true]) (t := 4) (fr := (0, 0)) (heap_new rfl)) (by simp [Value.oneCell']) (by omega) (by unfold maxLen; omega) (by omega) ((A1.out.alloc _).below.size) (x1.heap.size + 1) (by simp) ?_; intro g2 c2 x2 o2 gr2 at2 lt2; have P2 := Lib.hid (Apart.step (pre := [(.slice (some ⟨g1, 0, none⟩) (j + 1) c1, j + 1, upB (rowsOf a) j ++ [.bool true])]) P1.out (.cells #[.bool true] 4) o2 gr2 at2); have A2 := Lib.hid (grown_later (A1.out.alloc _) gr2 (P1.out.base (r := (u6, j, upB (fun i => rowsOf a i || rowsOf b i) j)) (by simp))); clear o2 gr2 at2 lt2) | (at_builtin; refine wpList_append_lies _ rfl (.tmp 50) (.tmp 55) 26 rfl w2.heap.size 4 i0 (.bool false) 1 1 Try.underlying26 hi0 hz0 hz1 hz2 rfl (by decide) u7 j (upB (fun i => rowsOf a i && rowsOf b i) j) rfl (owns_later ((AnyLater.refl x2).alloc (.cells #[.bool true] 4)) (P2.out.1 (u7, j, upB (fun i => rowsOf a i && rowsOf b i) j) (by simp)).1) ⟨x2.heap.size, 0, none⟩ 1 1 [.bool true] rfl rfl (World.news_of_block (w := x2.alloc (.cells #[.bool true] 4)) (cs := #[.bool true]) (t := 4) (fr := (0, 0)) (heap_new rfl)) (by simp [Value.oneCell']) (by omega) (by unfold maxLen; omega) (by omega) ((A2.out.alloc _).below.size) (x2.heap.size + 1) (by simp) ?_; intro g3 c3 x3 o3 gr3 at3 lt3; have P3 := Lib.hid (Apart.step (pre := [(.slice (some ⟨g1, 0, none⟩) (j + 1) c1, j + 1, upB (rowsOf a) j ++ [.bool true]), (.slice (some ⟨g2, 0, none⟩) (j + 1) c2, j + 1, upB (fun i => rowsOf a i || rowsOf b i) j ++ [.bool true])]) P2.out (.cells #[.bool true] 4) o3 gr3 at3); have A3 := Lib.hid (grown_later (A2.out.alloc _) gr3 (P2.out.base (r := (u7, j, upB (fun i => rowsOf a i && rowsOf b i) j)) (by simp))); clear o3 gr3 at3 lt3) | (at_builtin; refine wpList_append_lies _ rfl (.tmp 57) (.tmp 63) 26 rfl w2.heap.size 4 i0 (.bool false) 1 1 Try.underlying26 hi0 hz0 hz1 hz2 rfl (by decide) u8 j (upB (fun i => rowsOf a i && !rowsOf b i) j) rfl (owns_later ((AnyLater.refl x3).alloc (.cells #[.bool false] 4)) (P3.out.1 (u8, j, upB (fun i => rowsOf a i && !rowsOf b i) j) (by simp)).1) ⟨x3.heap.size, 0, none⟩ 1 1 [.bool false] rfl rfl (World.news_of_block (w := x3.alloc (.cells #[.bool false] 4)) (cs := #[.bool false]) (t := 4) (fr := (0, 0)) (heap_new rfl)) (by simp [Value.oneCell']) (by omega) (by unfold maxLen; omega) (by omega) ((A3.out.alloc _).below.size) (x3.heap.size + 1) (by simp) ?_; intro g4 c4 x4 o4 gr4 at4 lt4; have P4 := Lib.hid (Apart.step (pre := [(.slice (some ⟨g1, 0, none⟩) (j + 1) c1, j + 1, upB (rowsOf a) j ++ [.bool true]), (.slice (some ⟨g2, 0, none⟩) (j + 1) c2, j + 1, upB (fun i => rowsOf a i || rowsOf b i) j ++ [.bool true]), (.slice (some ⟨g3, 0, none⟩) (j + 1) c3, j + 1, upB (fun i => rowsOf a i && rowsOf b i) j ++ [.bool true])]) P3.out (.cells #[.bool false] 4) o4 gr4 at4); have A4 := Lib.hid (grown_later (A3.out.alloc _) gr4 (P3.out.base (r := (u8, j, upB (fun i => rowsOf a i && !rowsOf b i) j)) (by simp))); clear o4 gr4 at4 lt4))
              go_roundg (400 - (j + 1))
              case measure => omega
              case rel => exact ⟨j + 1, rfl, hlt, by congr 1; omega, A4.out, by rw [U.out.1, U.out.2.1, U.out.2.2.1, U.out.2.2.2]; exact P4.out⟩
            | false =>
              have U : Hid (upB (rowsOf a) (j + 1) = upB (rowsOf a) j ++ [.bool true] ∧ upB (fun i => rowsOf a i || rowsOf b i) (j + 1) = upB (fun i => rowsOf a i || rowsOf b i) j ++ [.bool true] ∧ upB (fun i => rowsOf a i && rowsOf b i) (j + 1) = upB (fun i => rowsOf a i && rowsOf b i) j ++ [.bool false] ∧ upB (fun i => rowsOf a i && !rowsOf b i) (j + 1) = upB (fun i => rowsOf a i && !rowsOf b i) j ++ [.bool true]) := Lib.hid (by
                have q1 : rowsOf a j = true := hx
                have q2 : rowsOf b j = false := hz
                refine ⟨?_, ?_, ?_, ?_⟩ <;> (rw [upB_succ]; simp [q1, q2]))
              have C1 := Lib.hid (I1.out wr ((j : Int) - 100) HA.out)
              have C2 := Lib.hid (I2.out wr ((j : Int) - 100) HA.out)
              rw [hx] at C1
              rw [hz] at C2
              clear hx hz
              go_wp2_with fail
              refine C1.out.mono ?_
              rintro e w9 ⟨rfl, rfl⟩
              go_wp2_with fail
              refine C2.out.mono ?_
              rintro e w9 ⟨rfl, rfl⟩
              go_wp2_with (first | (at_builtin; refine wpList_append_lies _ rfl (.tmp 39) (.tmp 41) 26 rfl w2.heap.size 4 i0 (.bool false) 1 1 Try.underlying26 hi0 hz0 hz1 hz2 rfl (by decide) u5 j (upB (rowsOf a) j) rfl (owns_later ((AnyLater.refl wr).alloc (.cells #[.bool true] 4)) (HP.out.1 (u5, j, upB (rowsOf a) j) (by simp)).1) ⟨wr.heap.size, 0, none⟩ 1 1 [.bool true] rfl rfl (World.news_of_block (w := wr.alloc (.cells #[.bool true] 4)) (cs := #[.bool true]) (t := 4) (fr := (0, 0)) (heap_new rfl)) (by simp [Value.oneCell']) (by omega) (by unfold maxLen; omega) (by omega) ((HA.out.alloc _).below.size) (wr.heap.size + 1) (by simp) ?_; intro g1 c1 x1 o1 gr1 at1 lt1; have P1 := Lib.hid (Apart.step (pre := []) HP.out (.cells #[.bool true] 4) o1 gr1 at1); have A1 := Lib.hid (grown_later (HA.out.alloc _) gr1 (HP.out.base (r := (u5, j, upB (rowsOf a) j)) (by simp))); clear o1 gr1 at1 lt1) | (at_builtin; refine wpList_append_lies _ rfl (.tmp 43) (.tmp 48) 26 rfl w2.heap.size 4 i0 (.bool false) 1 1 Try.underlying26 hi0 hz0 hz1 hz2 rfl (by decide) u6 j (upB (fun i => rowsOf a i || rowsOf b i) j) rfl (owns_later ((AnyLater.refl x1).alloc (.cells #[.bool true] 4)) (P1.out.1 (u6, j, upB (fun i => rowsOf a i || rowsOf b i) j) (by simp)).1) ⟨x1.heap.size, 0, none⟩ 1 1 [.bool true] rfl rfl (World.news_of_block (w := x1.alloc (.cells #[.bool true] 4)) (cs := #[.bool true]) (t := 4) (fr := (0, 0)) (heap_new rfl)) (by simp [Value.oneCell']) (by omega) (by unfold maxLen; omega) (by omega) ((A1.out.alloc _).below.size) (x1.heap.size + 1) (by simp) ?_; intro g2 c2 x2 o2 gr2 at2 lt2; have P2 := Lib.hid (Apart.step (pre := [(.slice (some ⟨g1, 0, none⟩) (j + 1) c1, j + 1, upB (rowsOf a) j ++ [.bool true])]) P1.out (.cells #[.bool true] 4) o2 gr2 at2); have A2 := Lib.hid (grown_later (A1.out.alloc _) gr2 (P1.out.base (r := (u6, j, upB (fun i => rowsOf a i || rowsOf b i) j)) (by simp))); clear o2 gr2 at2 lt2) | (at_builtin; refine wpList_append_lies _ rfl (.tmp 50) (.tmp 55) 26 rfl w2.heap.size 4 i0 (.bool false) 1 1 Try.underlying26 hi0 hz0 hz1 hz2 rfl (by decide) u7 j (upB (fun i => rowsOf a i && rowsOf b i) j) rfl (owns_later ((AnyLater.refl x2).alloc (.cells #[.bool false] 4)) (P2.out.1 (u7, j, upB (fun i => rowsOf a i && rowsOf b i) j) (by simp)).1) ⟨x2.heap.size, 0, none⟩ 1 1 [.bool false] rfl rfl (World.news_of_block (w := x2.alloc (.cells #[.bool false] 4)) (cs := #[.bool false]) (t := 4) (fr := (0, 0)) (heap_new rfl)) (by simp [Value.oneCell']) (by omega) (by unfold maxLen; omega) (by omega) ((A2.out.alloc _).below.size) (x2.heap.size + 1) (by simp) ?_; intro g3 c3 x3 o3 gr3 at3 lt3; have P3 := Lib.hid (Apart.step (pre := [(.slice (some ⟨g1, 0, none⟩) (j + 1) c1, j + 1, upB (rowsOf a) j ++ [.bool true]), (.slice (some ⟨g2, 0, none⟩) (j + 1) c2, j + 1, upB (fun i => rowsOf a i || rowsOf b i) j ++ [.bool true])]) P2.out (.cells #[.bool false] 4) o3 gr3 at3); have A3 := Lib.hid (grown_later (A2.out.alloc _) gr3 (P2.out.base (r := (u7, j, upB (fun i => rowsOf a i && rowsOf b i) j)) (by simp))); clear o3 gr3 at3 lt3) | (at_builtin; refine wpList_append_lies _ rfl (.tmp 57) (.tmp 63) 26 rfl w2.heap.size 4 i0 (.bool false) 1 1 Try.underlying26 hi0 hz0 hz1 hz2 rfl (by decide) u8 j (upB (fun i => rowsOf a i && !rowsOf b i) j) rfl (owns_later ((AnyLater.refl x3).alloc (.cells #[.bool true] 4)) (P3.out.1 (u8, j, upB (fun i => rowsOf a i && !rowsOf b i) j) (by simp)).1) ⟨x3.heap.size, 0, none⟩ 1 1 [.bool true] rfl rfl (World.news_of_block (w := x3.alloc (.cells #[.bool true] 4)) (cs := #[.bool true]) (t := 4) (fr := (0, 0)) (heap_new rfl)) (by simp [Value.oneCell']) (by omega) (by unfold maxLen; omega) (by omega) ((A3.out.alloc _).below.size) (x3.heap.size + 1) (by simp) ?_; intro g4 c4 x4 o4 gr4 at4 lt4; have P4 := Lib.hid (Apart.step (pre := [(.slice (some ⟨g1, 0, none⟩) (j + 1) c1, j + 1, upB (rowsOf a) j ++ [.bool true]), (.slice (some ⟨g2, 0, none⟩) (j + 1) c2, j + 1, upB (fun i => rowsOf a i || rowsOf b i) j ++ [.bool true]), (.slice (some ⟨g3, 0, none⟩) (j + 1) c3, j + 1, upB (fun i => rowsOf a i && rowsOf b i) j ++ [.bool false])]) P3.out (.cells #[.bool true] 4) o4 gr4 at4); have A4 := Lib.hid (grown_later (A3.out.alloc _) gr4 (P3.out.base (r := (u8, j, upB (fun i => rowsOf a i && !rowsOf b i) j)) (by simp))); clear o4 gr4 at4 lt4))
              go_roundg (400 - (j + 1))
              case measure => omega
              case rel => exact ⟨j + 1, rfl, hlt, by congr 1; omega, A4.out, by rw [U.out.1, U.out.2.1, U.out.2.2.1, U.out.2.2.2]; exact P4.out⟩
          | false =>
            cases hz : inB b ((j : Int) - 100) with
            | true =>
              have U : Hid (upB (rowsOf a) (j + 1) = upB (rowsOf a) j ++ [.bool false] ∧ upB (fun i => rowsOf a i || rowsOf b i) (j + 1) = upB (fun i => rowsOf a i || rowsOf b i) j ++ [.bool true] ∧ upB (fun i => rowsOf a i && rowsOf b i) (j + 1) = upB (fun i => rowsOf a i && rowsOf b i) j ++ [.bool false] ∧ upB (fun i => rowsOf a i && !rowsOf b i) (j + 1) = upB (fun i => rowsOf a i && !rowsOf b i) j ++ [.bool false]) := Lib.hid (by
                have q1 : rowsOf a j = false := hx
                have q2 : rowsOf b j = true := hz
                refine ⟨?_, ?_, ?_, ?_⟩ <;> (rw [upB_succ]; simp [q1, q2]))
              have C1 := Lib.hid (I1.out wr ((j : Int) - 100) HA.out)
              have C2 := Lib.hid (I2.out wr ((j : Int) - 100) HA.out)
              rw [hx] at C1
              rw [hz] at C2
              clear hx hz
              go_wp2_with fail
              refine C1.out.mono ?_
              rintro e w9 ⟨rfl, rfl⟩
              go_wp2_with fail
              refine C2.out.mono ?_
              rintro e w9 ⟨rfl, rfl⟩
              go_wp2_with (first | (at_builtin; refine wpList_append_lies _ rfl (.tmp 39) (.tmp 41) 26 rfl w2.heap.size 4 i0 (.bool false) 1 1 Try.underlying26 hi0 hz0 hz1 hz2 rfl (by decide) u5 j (upB (rowsOf a) j) rfl (owns_later ((AnyLater.refl wr).alloc (.cells #[.bool false] 4)) (HP.out.1 (u5, j, upB (rowsOf a) j) (by simp)).1) ⟨wr.heap.size, 0, none⟩ 1 1 [.bool false] rfl rfl (World.news_of_block (w := wr.alloc (.cells #[.bool false] 4)) (cs := #[.bool false]) (t := 4) (fr := (0, 0)) (heap_new rfl)) (by simp [Value.oneCell']) (by omega) (by unfold maxLen; omega) (by omega) ((HA.out.alloc _).below.size) (wr.heap.size + 1) (by simp) ?_; intro g1 c1 x1 o1 gr1 at1 lt1; have P1 := Lib.hid (Apart.step (pre := []) HP.out (.cells #[.bool false] 4) o1 gr1 at1); have A1 := Lib.hid (grown_later (HA.out.alloc _) gr1 (HP.out.base (r := (u5, j, upB (rowsOf a) j)) (by simp))); clear o1 gr1 at1 lt1) | (at_builtin; refine wpList_append_lies _ rfl (.tmp 43) (.tmp 48) 26 rfl w2.heap.size 4 i0 (.bool false) 1 1 Try.underlying26 hi0 hz0 hz1 hz2 rfl (by decide) u6 j (upB (fun i => rowsOf a i || rowsOf b i) j) rfl (owns_later ((AnyLater.refl x1).alloc (.cells #[.bool true] 4)) (P1.out.1 (u6, j, upB (fun i => rowsOf a i || rowsOf b i) j) (by simp)).1) ⟨x1.heap.size, 0, none⟩ 1 1 [.bool true] rfl rfl (World.news_of_block (w := x1.alloc (.cells #[.bool true] 4)) (cs := #[.bool true]) (t := 4) (fr := (0, 0)) (heap_new rfl)) (by simp [Value.oneCell']) (by omega) (by unfold maxLen; omega) (by omega) ((A1.out.alloc _).below.size) (x1.heap.size + 1) (by simp) ?_; intro g2 c2 x2 o2 gr2 at2 lt2; have P2 := Lib.hid (Apart.step (pre := [(.slice (some ⟨g1, 0, none⟩) (j + 1) c1, j + 1, upB (rowsOf a) j ++ [.bool false])]) P1.out (.cells #[.bool true] 4) o2 gr2 at2); have A2 := Lib.hid (grown_later (A1.out.alloc _) gr2 (P1.out.base (r := (u6, j, upB (fun i => rowsOf a i || rowsOf b i) j)) (by simp))); clear o2 gr2 at2 lt2) | (at_builtin; refine wpList_append_lies _ rfl (.tmp 50) (.tmp 55) 26 rfl w2.heap.size 4 i0 (.bool false) 1 1 Try.underlying26 hi0 hz0 hz1 hz2 rfl (by decide) u7 j (upB (fun i => rowsOf a i && rowsOf b i) j) rfl (owns_later ((AnyLater.refl x2).alloc (.cells #[.bool false] 4)) (P2.out.1 (u7, j, upB (fun i => rowsOf a i && rowsOf b i) j) (by simp)).1) ⟨x2.heap.size, 0, none⟩ 1 1 [.bool false] rfl rfl (World.news_of_block (w := x2.alloc (.cells #[.bool false] 4)) (cs := #[.bool false]) (t := 4) (fr := (0, 0)) (heap_new rfl)) (by simp [Value.oneCell']) (by omega) (by unfold maxLen; omega) (by omega) ((A2.out.alloc _).below.size) (x2.heap.size + 1) (by simp) ?_; intro g3 c3 x3 o3 gr3 at3 lt3; have P3 := Lib.hid (Apart.step (pre := [(.slice (some ⟨g1, 0, none⟩) (j + 1) c1, j + 1, upB (rowsOf a) j ++ [.bool false]), (.slice (some ⟨g2, 0, none⟩) (j + 1) c2, j + 1, upB (fun i => rowsOf a i || rowsOf b i) j ++ [.bool true])]) P2.out (.cells #[.bool false] 4) o3 gr3 at3); have A3 := Lib.hid (grown_later (A2.out.alloc _) gr3 (P2.out.base (r := (u7, j, upB (fun i => rowsOf a i && rowsOf b i) j)) (by simp))); clear o3 gr3 at3 lt3) | (at_builtin; refine wpList_append_lies _ rfl (.tmp 57) (.tmp 63) 26 rfl w2.heap.size 4 i0 (.bool false) 1 1 Try.underlying26 hi0 hz0 hz1 hz2 rfl (by decide) u8 j (upB (fun i => rowsOf a i && !rowsOf b i) j) rfl (owns_later ((AnyLater.refl x3).alloc (.cells #[.bool false] 4)) (P3.out.1 (u8, j, upB (fun i => rowsOf a i && !rowsOf b i) j) (by simp)).1) ⟨x3.heap.size, 0, none⟩ 1 1 [.bool false] rfl rfl (World.news_of_block (w := x3.alloc (.cells #[.bool false] 4)) (cs := #[.bool false]) (t := 4) (fr := (0, 0)) (heap_new rfl)) (by simp [Value.oneCell']) (by omega) (by unfold maxLen; omega) (by omega) ((A3.out.alloc _).below.size) (x3.heap.size + 1) (by simp) ?_; intro g4 c4 x4 o4 gr4 at4 lt4; have P4 := Lib.hid (Apart.step (pre := [(.slice (some ⟨g1, 0, none⟩) (j + 1) c1, j + 1, upB (rowsOf a) j ++ [.bool false]), (.slice (some ⟨g2, 0, none⟩) (j + 1) c2, j + 1, upB (fun i => rowsOf a i || rowsOf b i) j ++ [.bool true]), (.slice (some ⟨g3, 0, none⟩) (j + 1) c3, j + 1, upB (fun i => rowsOf a i && rowsOf b i) j ++ [.bool false])]) P3.out (.cells #[.bool false] 4) o4 gr4 at4); have A4 := Lib.hid (grown_later (A3.out.alloc _) gr4 (P3.out.base (r := (u8, j, upB (fun i => rowsOf a i && !rowsOf b i) j)) (by simp))); clear o4 gr4 at4 lt4))
              go_roundg (400 - (j + 1))
              case measure => omega
              case rel => exact ⟨j + 1, rfl, hlt, by congr 1; omega, A4.out, by rw [U.out.1, U.out.2.1, U.out.2.2.1, U.out.2.2.2]; exact P4.out⟩
            | false =>
              have U : Hid (upB (rowsOf a) (j + 1) = upB (rowsOf a) j ++ [.bool false] ∧ upB (fun i => rowsOf a i || rowsOf b i) (j + 1) = upB (fun i => rowsOf a i || rowsOf b i) j ++ [.bool false] ∧ upB (fun i => rowsOf a i && rowsOf b i) (j + 1) = upB (fun i => rowsOf a i && rowsOf b i) j ++ [.bool false] ∧ upB (fun i => rowsOf a i && !rowsOf b i) (j + 1) = upB (fun i => rowsOf a i && !rowsOf b i) j ++ [.bool false]) := Lib.hid (by
                have q1 : rowsOf a j = false := hx
                have q2 : rowsOf b j = false := hz
                refine ⟨?_, ?_, ?_, ?_⟩ <;> (rw [upB_succ]; simp [q1, q2]))
              have C1 := Lib.hid (I1.out wr ((j : Int) - 100) HA.out)
              have C2 := Lib.hid (I2.out wr ((j : Int) - 100) HA.out)
              rw [hx] at C1
              rw [hz] at C2
              clear hx hz
              go_wp2_with fail
              refine C1.out.mono ?_
              rintro e w9 ⟨rfl, rfl⟩
              go_wp2_with fail
              refine C2.out.mono ?_
              rintro e w9 ⟨rfl, rfl⟩
              go_wp2_with (first | (at_builtin; refine wpList_append_lies _ rfl (.tmp 39) (.tmp 41) 26 rfl w2.heap.size 4 i0 (.bool false) 1 1 Try.underlying26 hi0 hz0 hz1 hz2 rfl (by decide) u5 j (upB (rowsOf a) j) rfl (owns_later ((AnyLater.refl wr).alloc (.cells #[.bool false] 4)) (HP.out.1 (u5, j, upB (rowsOf a) j) (by simp)).1) ⟨wr.heap.size, 0, none⟩ 1 1 [.bool false] rfl rfl (World.news_of_block (w := wr.alloc (.cells #[.bool false] 4)) (cs := #[.bool false]) (t := 4) (fr := (0, 0)) (heap_new rfl)) (by simp [Value.oneCell']) (by omega) (by unfold maxLen; omega) (by omega) ((HA.out.alloc _).below.size) (wr.heap.size + 1) (by simp) ?_; intro g1 c1 x1 o1 gr1 at1 lt1; have P1 := Lib.hid (Apart.step (pre := []) HP.out (.cells #[.bool false] 4) o1 gr1 at1); have A1 := Lib.hid (grown_later (HA.out.alloc _) gr1 (HP.out.base (r := (u5, j, upB (rowsOf a) j)) (by simp))); clear o1 gr1 at1 lt1) | (at_builtin; refine wpList_append_lies _ rfl (.tmp 43) (.tmp 48) 26 rfl w2.heap.size 4 i0 (.bool false) 1 1 Try.underlying26 hi0 hz0 hz1 hz2 rfl (by decide) u6 j (upB (fun i => rowsOf a i || rowsOf b i) j) rfl (owns_later ((AnyLater.refl x1).alloc (.cells #[.bool false] 4)) (P1.out.1 (u6, j, upB (fun i => rowsOf a i || rowsOf b i) j) (by simp)).1) ⟨x1.heap.size, 0, none⟩ 1 1 [.bool false] rfl rfl (World.news_of_block (w := x1.alloc (.cells #[.bool false] 4)) (cs := #[.bool false]) (t := 4) (fr := (0, 0)) (heap_new rfl)) (by simp [Value.oneCell']) (by omega) (by unfold maxLen; omega) (by omega) ((A1.out.alloc _).below.size) (x1.heap.size + 1) (by simp) ?_; intro g2 c2 x2 o2 gr2 at2 lt2; have P2 := Lib.hid (Apart.step (pre := [(.slice (some ⟨g1, 0, none⟩) (j + 1) c1, j + 1, upB (rowsOf a) j ++ [.bool false])]) P1.out (.cells #[.bool false] 4) o2 gr2 at2); have A2 := Lib.hid (grown_later (A1.out.alloc _) gr2 (P1.out.base (r := (u6, j, upB (fun i => rowsOf a i || rowsOf b i) j)) (by simp))); clear o2 gr2 at2 lt2) | (at_builtin; refine wpList_append_lies _ rfl (.tmp 50) (.tmp 55) 26 rfl w2.heap.size 4 i0 (.bool false) 1 1 Try.underlying26 hi0 hz0 hz1 hz2 rfl (by decide) u7 j (upB (fun i => rowsOf a i && rowsOf b i) j) rfl (owns_later ((AnyLater.refl x2).alloc (.cells #[.bool false] 4)) (P2.out.1 (u7, j, upB (fun i => rowsOf a i && rowsOf b i) j) (by simp)).1) ⟨x2.heap.size, 0, none⟩ 1 1 [.bool false] rfl rfl (World.news_of_block (w := x2.alloc (.cells #[.bool false] 4)) (cs := #[.bool false]) (t := 4) (fr := (0, 0)) (heap_new rfl)) (by simp [Value.oneCell']) (by omega) (by unfold maxLen; omega) (by omega) ((A2.out.alloc _).below.size) (x2.heap.size + 1) (by simp) ?_; intro g3 c3 x3 o3 gr3 at3 lt3; have P3 := Lib.hid (Apart.step (pre := [(.slice (some ⟨g1, 0, none⟩) (j + 1) c1, j + 1, upB (rowsOf a) j ++ [.bool false]), (.slice (some ⟨g2, 0, none⟩) (j + 1) c2, j + 1, upB (fun i => rowsOf a i || rowsOf b i) j ++ [.bool false])]) P2.out (.cells #[.bool false] 4) o3 gr3 at3); have A3 := Lib.hid (grown_later (A2.out.alloc _) gr3 (P2.out.base (r := (u7, j, upB (fun i => rowsOf a i && rowsOf b i) j)) (by simp))); clear o3 gr3 at3 lt3) | (at_builtin; refine wpList_append_lies _ rfl (.tmp 57) (.tmp 63) 26 rfl w2.heap.size 4 i0 (.bool false) 1 1 Try.underlying26 hi0 hz0 hz1 hz2 rfl (by decide) u8 j (upB (fun i => rowsOf a i && !rowsOf b i) j) rfl (owns_later ((AnyLater.refl x3).alloc (.cells #[.bool false] 4)) (P3.out.1 (u8, j, upB (fun i => rowsOf a i && !rowsOf b i) j) (by simp)).1) ⟨x3.heap.size, 0, none⟩ 1 1 [.bool false] rfl rfl (World.news_of_block (w := x3.alloc (.cells #[.bool false] 4)) (cs := #[.bool false]) (t := 4) (fr := (0, 0)) (heap_new rfl)) (by simp [Value.oneCell']) (by omega) (by unfold maxLen; omega) (by omega) ((A3.out.alloc _).below.size) (x3.heap.size + 1) (by simp) ?_; intro g4 c4 x4 o4 gr4 at4 lt4; have P4 := Lib.hid (Apart.step (pre := [(.slice (some ⟨g1, 0, none⟩) (j + 1) c1, j + 1, upB (rowsOf a) j ++ [.bool false]), (.slice (some ⟨g2, 0, none⟩) (j + 1) c2, j + 1, upB (fun i => rowsOf a i || rowsOf b i) j ++ [.bool false]), (.slice (some ⟨g3, 0, none⟩) (j + 1) c3, j + 1, upB (fun i => rowsOf a i && rowsOf b i) j ++ [.bool false])]) P3.out (.cells #[.bool false] 4) o4 gr4 at4); have A4 := Lib.hid (grown_later (A3.out.alloc _) gr4 (P3.out.base (r := (u8, j, upB (fun i => rowsOf a i && !rowsOf b i) j)) (by simp))); clear o4 gr4 at4 lt4))
              go_roundg (400 - (j + 1))
              case measure => omega
              case rel => exact ⟨j + 1, rfl, hlt, by congr 1; omega, A4.out, by rw [U.out.1, U.out.2.1, U.out.2.2.1, U.out.2.2.2]; exact P4.out⟩
        · obtain rfl : j = 400 := by omega
          have a_wr := a_w2.trans HA.out
          have c_wr := HA.out
          obtain ⟨g1, c1, rfl, lt1, cl1⟩ := HP.out.bools (v := u5) (n := 400) (f := (rowsOf a)) (by simp)
          have OF1 := Lib.hid (fun (w' : World) (ha : AnyLater wr w') => of_some g1 400 c1 (rowsOf a) w' (by decide) (Nat.lt_of_lt_of_le lt1 ha.below.size) (fun j hj => (ha.below.cell lt1).trans (cl1 j hj)))
          clear cl1 lt1
          obtain ⟨g2, c2, rfl, lt2, cl2⟩ := HP.out.bools (v := u6) (n := 400) (f := (fun i => rowsOf a i || rowsOf b i)) (by simp)
          have OF2 := Lib.hid (fun (w' : World) (ha : AnyLater wr w') => of_some g2 400 c2 (fun i => rowsOf a i || rowsOf b i) w' (by decide) (Nat.lt_of_lt_of_le lt2 ha.below.size) (fun j hj => (ha.below.cell lt2).trans (cl2 j hj)))
          clear cl2 lt2
          obtain ⟨g3, c3, rfl, lt3, cl3⟩ := HP.out.bools (v := u7) (n := 400) (f := (fun i => rowsOf a i && rowsOf b i)) (by simp)
          have OF3 := Lib.hid (fun (w' : World) (ha : AnyLater wr w') => of_some g3 400 c3 (fun i => rowsOf a i && rowsOf b i) w' (by decide) (Nat.lt_of_lt_of_le lt3 ha.below.size) (fun j hj => (ha.below.cell lt3).trans (cl3 j hj)))
          clear cl3 lt3
          obtain ⟨g4, c4, rfl, lt4, cl4⟩ := HP.out.bools (v := u8) (n := 400) (f := (fun i => rowsOf a i && !rowsOf b i)) (by simp)
          have OF4 := Lib.hid (fun (w' : World) (ha : AnyLater wr w') => of_some g4 400 c4 (fun i => rowsOf a i && !rowsOf b i) w' (by decide) (Nat.lt_of_lt_of_le lt4 ha.below.size) (fun j hj => (ha.below.cell lt4).trans (cl4 j hj)))
          clear cl4 lt4
          have d_wr := AnyLater.refl wr
          go_wp2_with fail
          refine (few_same va a wr (RA.out wr c_wr) HK.out.1).mono ?_
          rintro e w31 ⟨v_w31, rfl, b_w31, o_w31⟩
          have a_w31 := a_wr.trans b_w31
          have c_w31 := c_wr.trans b_w31
          have R_w31 := Lib.hid o_w31.reads
          have B_w31 := Lib.hid b_w31
          clear o_w31 b_w31
          have d_w31 := d_wr.trans B_w31.out
          go_wp2_with fail
          refine (HS.out.tidy v_w31 a w31 R_w31.out HM.out.1 K1.out).mono ?_
          rintro e w32 ⟨v_w32, T_w32, rfl, b_w32, r_w32, g_w32, q_w32⟩
          have a_w32 := a_w31.trans b_w32
          have c_w32 := c_w31.trans b_w32
          have R_w32 := Lib.hid r_w32
          have G_w32 := Lib.hid g_w32
          have Q_w32 := Lib.hid q_w32
          have B_w32 := Lib.hid b_w32
          clear r_w32 b_w32 g_w32 q_w32
          have d_w32 := d_w31.trans B_w32.out
          go_wp2_with fail
          refine (OF1.out w32 d_w32).mono ?_
          rintro e w33 ⟨v_w33, rfl, b_w33, o_w33⟩
          have a_w33 := a_w32.trans b_w33
          have c_w33 := c_w32.trans b_w33
          have R_w33 := Lib.hid o_w33.reads
          have B_w33 := Lib.hid b_w33
          clear o_w33 b_w33
          have d_w33 := d_w32.trans B_w33.out
          go_wp2_with fail
          have E0 : Hid (T_w32 = ofL (rowsOf a) 400) := Lib.hid (good_unique G_w32.out (ofL_good _ _ (by decide)) (fun y => by rw [near_fn (rowsOf a) (fun y => inB a y) (fun _ => rfl) (fun y hy => near_rows NA.out hy)]; exact Q_w32.out y))
          have EL0 : Hid (T_w32.length ≤ 100000) := Lib.hid (by have h1 := len_one G_w32.out Q_w32.out; have := HK.out; omega)
          refine (same_any v_w32 v_w33 T_w32 (ofL (rowsOf a) 400) w33 true (decide_eq_true E0.out) (R_w32.out.later B_w33.out) R_w33.out EL0.out).mono ?_
          rintro e w34 ⟨rfl, b_w34⟩
          have a_w34 := a_w33.trans b_w34
          have c_w34 := c_w33.trans b_w34
          have B_w34 := Lib.hid b_w34
          clear b_w34
          have d_w34 := d_w33.trans B_w34.out
          go_wp2_with fail
          refine (few_same va a w34 (RA.out w34 c_w34) HK.out.1).mono ?_
          rintro e w35 ⟨v_w35, rfl, b_w35, o_w35⟩
          have a_w35 := a_w34.trans b_w35
          have c_w35 := c_w34.trans b_w35
          have R_w35 := Lib.hid o_w35.reads
          have B_w35 := Lib.hid b_w35
          clear o_w35 b_w35
          have d_w35 := d_w34.trans B_w35.out
          go_wp2_with fail
          refine (few_same vb b w35 (RBb.out w35 c_w35) HK.out.2).mono ?_
          rintro e w36 ⟨v_w36, rfl, b_w36, o_w36⟩
          have a_w36 := a_w35.trans b_w36
          have c_w36 := c_w35.trans b_w36
          have R_w36 := Lib.hid o_w36.reads
          have B_w36 := Lib.hid b_w36
          clear o_w36 b_w36
          have d_w36 := d_w35.trans B_w36.out
          go_wp2_with fail
          refine (HS.out.join v_w35 v_w36 a b w36 (R_w35.out.later B_w36.out) R_w36.out HM.out.1 HM.out.2 K1.out K2.out).mono ?_
          rintro e w37 ⟨v_w37, T_w37, rfl, b_w37, r_w37, g_w37, q_w37⟩
          have a_w37 := a_w36.trans b_w37
          have c_w37 := c_w36.trans b_w37
          have R_w37 := Lib.hid r_w37
          have G_w37 := Lib.hid g_w37
          have Q_w37 := Lib.hid q_w37
          have B_w37 := Lib.hid b_w37
          clear r_w37 b_w37 g_w37 q_w37
          have d_w37 := d_w36.trans B_w37.out
          go_wp2_with fail
          refine (OF2.out w37 d_w37).mono ?_
          rintro e w38 ⟨v_w38, rfl, b_w38, o_w38⟩
          have a_w38 := a_w37.trans b_w38
          have c_w38 := c_w37.trans b_w38
          have R_w38 := Lib.hid o_w38.reads
          have B_w38 := Lib.hid b_w38
          clear o_w38 b_w38
          have d_w38 := d_w37.trans B_w38.out
          go_wp2_with fail
          have E1 : Hid (T_w37 = ofL (fun i => rowsOf a i || rowsOf b i) 400) := Lib.hid (good_unique G_w37.out (ofL_good _ _ (by decide)) (fun y => by rw [near_fn (fun i => rowsOf a i || rowsOf b i) (fun y => inB a y || inB b y) (fun _ => rfl) (fun y hy => by rcases Bool.or_eq_true_iff.1 hy with h | h; exact near_rows NA.out h; exact near_rows NB.out h)]; exact Q_w37.out y))
          have EL1 : Hid (T_w37.length ≤ 100000) := Lib.hid (by have h1 := len_or G_w37.out Q_w37.out; have := HK.out; omega)
          refine (same_any v_w37 v_w38 T_w37 (ofL (fun i => rowsOf a i || rowsOf b i) 400) w38 true (decide_eq_true E1.out) (R_w37.out.later B_w38.out) R_w38.out EL1.out).mono ?_
          rintro e w39 ⟨rfl, b_w39⟩
          have a_w39 := a_w38.trans b_w39
          have c_w39 := c_w38.trans b_w39
          have B_w39 := Lib.hid b_w39
          clear b_w39
          have d_w39 := d_w38.trans B_w39.out
          go_wp2_with fail
          refine (few_same va a w39 (RA.out w39 c_w39) HK.out.1).mono ?_
          rintro e w40 ⟨v_w40, rfl, b_w40, o_w40⟩
          have a_w40 := a_w39.trans b_w40
          have c_w40 := c_w39.trans b_w40
          have R_w40 := Lib.hid o_w40.reads
          have B_w40 := Lib.hid b_w40
          clear o_w40 b_w40
          have d_w40 := d_w39.trans B_w40.out
          go_wp2_with fail
          refine (few_same vb b w40 (RBb.out w40 c_w40) HK.out.2).mono ?_
          rintro e w41 ⟨v_w41, rfl, b_w41, o_w41⟩
          have a_w41 := a_w40.trans b_w41
          have c_w41 := c_w40.trans b_w41
          have R_w41 := Lib.hid o_w41.reads
          have B_w41 := Lib.hid b_w41
          clear o_w41 b_w41
          have d_w41 := d_w40.trans B_w41.out
          go_wp2_with fail
          refine (HS.out.meet v_w40 v_w41 a b w41 (R_w40.out.later B_w41.out) R_w41.out HM.out.1 HM.out.2 K1.out K2.out).mono ?_
          rintro e w42 ⟨v_w42, T_w42, rfl, b_w42, r_w42, g_w42, q_w42⟩
          have a_w42 := a_w41.trans b_w42
          have c_w42 := c_w41.trans b_w42
          have R_w42 := Lib.hid r_w42
          have G_w42 := Lib.hid g_w42
          have Q_w42 := Lib.hid q_w42
          have B_w42 := Lib.hid b_w42
          clear r_w42 b_w42 g_w42 q_w42
          have d_w42 := d_w41.trans B_w42.out
          go_wp2_with fail
          refine (OF3.out w42 d_w42).mono ?_
          rintro e w43 ⟨v_w43, rfl, b_w43, o_w43⟩
          have a_w43 := a_w42.trans b_w43
          have c_w43 := c_w42.trans b_w43
          have R_w43 := Lib.hid o_w43.reads
          have B_w43 := Lib.hid b_w43
          clear o_w43 b_w43
          have d_w43 := d_w42.trans B_w43.out
          go_wp2_with fail
          have E2 : Hid (T_w42 = ofL (fun i => rowsOf a i && rowsOf b i) 400) := Lib.hid (good_unique G_w42.out (ofL_good _ _ (by decide)) (fun y => by rw [near_fn (fun i => rowsOf a i && rowsOf b i) (fun y => inB a y && inB b y) (fun _ => rfl) (fun y hy => near_rows NA.out (Bool.and_eq_true_iff.1 hy).1)]; exact Q_w42.out y))
          have EL2 : Hid (T_w42.length ≤ 100000) := Lib.hid (by have h1 := len_and G_w42.out Q_w42.out; have := HK.out; omega)
          refine (same_any v_w42 v_w43 T_w42 (ofL (fun i => rowsOf a i && rowsOf b i) 400) w43 true (decide_eq_true E2.out) (R_w42.out.later B_w43.out) R_w43.out EL2.out).mono ?_
          rintro e w44 ⟨rfl, b_w44⟩
          have a_w44 := a_w43.trans b_w44
          have c_w44 := c_w43.trans b_w44
          have B_w44 := Lib.hid b_w44
          clear b_w44
          have d_w44 := d_w43.trans B_w44.out
          go_wp2_with fail
          refine (few_same va a w44 (RA.out w44 c_w44) HK.out.1).mono ?_
          rintro e w45 ⟨v_w45, rfl, b_w45, o_w45⟩
          have a_w45 := a_w44.trans b_w45
          have c_w45 := c_w44.trans b_w45
          have R_w45 := Lib.hid o_w45.reads
          have B_w45 := Lib.hid b_w45
          clear o_w45 b_w45
          have d_w45 := d_w44.trans B_w45.out
          go_wp2_with fail
          refine (few_same vb b w45 (RBb.out w45 c_w45) HK.out.2).mono ?_
          rintro e w46 ⟨v_w46, rfl, b_w46, o_w46⟩
          have a_w46 := a_w45.trans b_w46
          have c_w46 := c_w45.trans b_w46
          have R_w46 := Lib.hid o_w46.reads
          have B_w46 := Lib.hid b_w46
          clear o_w46 b_w46
          have d_w46 := d_w45.trans B_w46.out
          go_wp2_with fail
          refine (HS.out.less v_w45 v_w46 a b w46 (R_w45.out.later B_w46.out) R_w46.out HM.out.1 HM.out.2 K1.out K2.out).mono ?_
          rintro e w47 ⟨v_w47, T_w47, rfl, b_w47, r_w47, g_w47, q_w47⟩
          have a_w47 := a_w46.trans b_w47
          have c_w47 := c_w46.trans b_w47
          have R_w47 := Lib.hid r_w47
          have G_w47 := Lib.hid g_w47
          have Q_w47 := Lib.hid q_w47
          have B_w47 := Lib.hid b_w47
          clear r_w47 b_w47 g_w47 q_w47
          have d_w47 := d_w46.trans B_w47.out
          go_wp2_with fail
          refine (OF4.out w47 d_w47).mono ?_
          rintro e w48 ⟨v_w48, rfl, b_w48, o_w48⟩
          have a_w48 := a_w47.trans b_w48
          have c_w48 := c_w47.trans b_w48
          have R_w48 := Lib.hid o_w48.reads
          have B_w48 := Lib.hid b_w48
          clear o_w48 b_w48
          have d_w48 := d_w47.trans B_w48.out
          go_wp2_with fail
          have E3 : Hid (T_w47 = ofL (fun i => rowsOf a i && !rowsOf b i) 400) := Lib.hid (good_unique G_w47.out (ofL_good _ _ (by decide)) (fun y => by rw [near_fn (fun i => rowsOf a i && !rowsOf b i) (fun y => inB a y && !inB b y) (fun _ => rfl) (fun y hy => near_rows NA.out (Bool.and_eq_true_iff.1 hy).1)]; exact Q_w47.out y))
          have EL3 : Hid (T_w47.length ≤ 100000) := Lib.hid (by have h1 := len_not G_w47.out Q_w47.out; have := HK.out; omega)
          refine (same_any v_w47 v_w48 T_w47 (ofL (fun i => rowsOf a i && !rowsOf b i) 400) w48 true (decide_eq_true E3.out) (R_w47.out.later B_w48.out) R_w48.out EL3.out).mono ?_
          rintro e w49 ⟨rfl, b_w49⟩
          have a_w49 := a_w48.trans b_w49
          have c_w49 := c_w48.trans b_w49
          have B_w49 := Lib.hid b_w49
          clear b_w49
          have d_w49 := d_w48.trans B_w49.out
          go_wp2_with fail
          refine (lives_any HS.out w49).mono ?_
          rintro e w50 ⟨rfl, b_w50⟩
          have a_w50 := a_w49.trans b_w50
          have c_w50 := c_w49.trans b_w50
          have B_w50 := Lib.hid b_w50
          clear b_w50
          have d_w50 := d_w49.trans B_w50.out
          go_wp2_with fail
          go_ret
          exact ⟨rfl, a_w50⟩
end Go.Proofs.Ytcgbfdjdpjdncaa
