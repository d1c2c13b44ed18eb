/- heights: heights of a chain put in the place of others: by contract. Up to 45000 heights. -/
import Derived.Test.YtjoadlfkdkeomaaHgtH
namespace Go.Proofs.Ytjoadlfkdkeomaa
set_option linter.unusedSimpArgs false
set_option linter.unusedVariables false
set_option linter.unusedSectionVars false
open Go.RowKit Go.Shelf
attribute [local go_sem] Oper.semAt_some
variable {B : Nat}

/-- heights in a row are no part of a chain's own blocks -/
theorem tall_apart {w : World} {C hg : Nat} {cs : Array Value} {v u : Value} {c : Cw} {l m : Qs} (hu : OQ 33 w C u m) (h : IsCh B w v c l) (hh : w.heap[hg]? = some (.cells cs 70)) {b : Nat} (hb : u.ownBlock = some b) : ¬ (b = hg ∨ InR c b) := by
  have e : ∃ cur, w.heap[b]? = some (.cells cur 33) := by
    rcases hu.2 with ⟨rfl, _⟩ | ⟨g, cap, cur, rfl, _, h2, _⟩
    · cases hb
    · cases hb; exact ⟨cur, h2⟩
  obtain ⟨cur, e⟩ := e
  rintro (rfl | k | ⟨g, t, k1, rfl⟩)
  · rw [hh] at e; cases e
  · obtain ⟨_, cs', e2⟩ := h.rowAt k
    rw [e] at e2; cases e2
  · obtain ⟨rv, e2, _⟩ := (h.seqAt k1).1.obj
    rw [e] at e2; cases e2
theorem InR.lt {w : World} {v : Value} {c : Cw} {l : Qs} (h : IsCh B w v c l) {b : Nat} (k : InR c b) : b < w.heap.size := (h.bl_in k.bl).2
theorem set_set (cs : Array Value) (k : Nat) (a b : Value) : (cs.setIfInBounds k a).setIfInBounds k b = cs.setIfInBounds k b := by
  apply Array.ext_getElem?
  intro i
  simp only [Array.getElem?_setIfInBounds, Array.size_setIfInBounds]
  split <;> rfl
/-- one change behind another -/
theorem PDone.trans {w w1 w2 : World} {hg k : Nat} {cs : Array Value} {c c1 : Cw} {v1 : Value} {l2 : Qs} (h2 : (∀ b ∈ c1.bl, b ∈ c.bl ∨ w.heap.size ≤ b)) (h3 : ∀ b, InR c1 b → InR c b ∨ w.heap.size ≤ b) (h4 : Stays (fun b => b = hg ∨ InR c b) w w1) (k1 : PDone B w1 hg k (cs.setIfInBounds k v1) c1 l2 w2) : PDone B w hg k cs c l2 w2 := by
  obtain ⟨v', c', q1, q2, q3, q4, q5⟩ := k1
  rw [set_set] at q1
  refine ⟨v', c', q1, q2, fun b hb => ?_, fun b hb => ?_, h4.more q5 (fun b hb => ?_)⟩
  · rcases q3 b hb with q | q
    · exact h2 b q
    · exact .inr (Nat.le_trans h4.size q)
  · rcases q4 b hb with q | q
    · exact h3 b q
    · exact .inr (Nat.le_trans h4.size q)
  · rcases hb with rfl | hb
    · exact .inl (.inl rfl)
    · exact (h3 b hb).imp .inr id
/-- a turn of what is no cells leaves all that is told -/
theorem PDone.grown {w W W' : World} {hg k : Nat} {cs : Array Value} {c : Cw} {l : Qs} {row : Option Nat} (h : PDone B w hg k cs c l W) (g : W.grownBy W' row) (hr : ∀ r, row = some r → w.heap.size ≤ r ∧ ∃ o : Obj, W.heap[r]? = some o ∧ o.isCells = false) : PDone B w hg k cs c l W' := by
  obtain ⟨v', c', q1, q2, q3, q4, q5⟩ := h
  have st : Stays (fun b => row = some b) W W' := Stays.grown g (fun b e => e)
  have hn : ∀ {b : Nat} {cs : Array Value} {t : TypeId}, W.heap[b]? = some (.cells cs t) → ¬ row = some b := fun e1 e2 => by
    obtain ⟨_, o, ho, hc⟩ := hr _ e2
    rw [e1] at ho
    cases ho
    cases hc
  refine ⟨v', c', st.own q1 (hn q1), q2.stays st (fun b hb e => ?_), q3, q4, q5.more st (fun b e => .inr (hr b e).1)⟩
  rcases hb with hb | ⟨g', t, k1, k2⟩
  · obtain ⟨_, cs', e2⟩ := q2.rowAt hb
    exact hn e2 e
  · rcases k2.kinds (q2.seqAt k1).1 with ⟨_, rv, e2⟩ | ⟨_, cs, e2⟩ | ⟨_, cs, e2⟩
    · exact hn e2 e
    · exact hn e2 e
    · exact hn e2 e
theorem PDone.later {w W W' : World} {hg k : Nat} {cs : Array Value} {c : Cw} {l : Qs} (h : PDone B w hg k cs c l W) (a : AnyLater W W') : PDone B w hg k cs c l W' := by
  obtain ⟨v', c', q1, q2, q3, q4, q5⟩ := h
  exact ⟨v', c', any_own a q1, q2.later a, q3, q4, q5.later a⟩
/-- a store into a box made later -/
theorem PDone.box {w W : World} {hg k s i : Nat} {cs : Array Value} {c : Cw} {l : Qs} {x : Array Value} {t : TypeId} (h : PDone B w hg k cs c l W) (hs : w.heap.size ≤ s) (hx : W.heap[s]? = some (.cells x t)) (ht : t ≠ 70 ∧ t ≠ 75 ∧ t ≠ 84 ∧ t ≠ 119 ∧ t ≠ 33) (u : Value) : PDone B w hg k cs c l (W.setCell ⟨s, i, none⟩ u) := by
  obtain ⟨v', c', q1, q2, q3, q4, q5⟩ := h
  have st : Stays (fun b => b = s) W (W.setCell ⟨s, i, none⟩ u) := (Stays.refl _ _).setCell (S := fun b => b = s) rfl u
  have hn : ∀ {b : Nat} {cs : Array Value} {t' : TypeId}, W.heap[b]? = some (.cells cs t') → t' ≠ t → ¬ b = s := fun e1 hne e2 => by
    subst e2
    rw [e1] at hx
    simp only [Option.some.injEq, Obj.cells.injEq] at hx
    exact hne hx.2.1
  refine ⟨v', c', st.own q1 (hn q1 ht.1.symm), q2.stays st (fun b hb => ?_), q3, q4, q5.more st (fun b e => .inr (by rw [e]; exact hs))⟩
  rcases hb with hb | ⟨g', t', k1, k2⟩
  · obtain ⟨_, cs', e2⟩ := q2.rowAt hb
    exact hn e2 ht.2.1.symm
  · rcases k2.kinds (q2.seqAt k1).1 with ⟨_, rv, e2⟩ | ⟨_, cs, e2⟩ | ⟨_, cs, e2⟩
    · exact hn e2 ht.2.2.1.symm
    · exact hn e2 ht.2.2.2.1.symm
    · exact hn e2 ht.2.2.2.2.symm
/-- the three boxes of splice -/
def SpB (s hg k : Nat) (fr : Int) (W : World) : Prop := W.heap[s]? = some (.cells #[.pointer (some ⟨hg, k, none⟩)] 86) ∧ W.heap[s + 1]? = some (.cells #[.int .i64 fr] 3) ∧ W.heap[s + 1 + 1]? = some (.cells #[.int .i64 16777216] 3)
theorem SpB.any {s hg k : Nat} {fr : Int} {W W' : World} (h : SpB s hg k fr W) (a : AnyLater W W') : SpB s hg k fr W' := ⟨any_own a h.1, any_own a h.2.1, any_own a h.2.2⟩
theorem SpB.stays {S : Nat → Prop} {s hg k : Nat} {fr : Int} {W W' : World} (h : SpB s hg k fr W) (a : Stays S W W') (hn : ∀ b, s ≤ b → ¬ S b) : SpB s hg k fr W' := ⟨a.own h.1 (hn _ (by omega)), a.own h.2.1 (hn _ (by omega)), a.own h.2.2 (hn _ (by omega))⟩
/-- the two boxes of its iterator -/
def ChB (Bs : Nat) (u : Value) (W : World) : Prop := W.heap[Bs]? = some (.cells #[u] 22) ∧ W.heap[Bs + 1]? = some (.cells #[.int .i64 8388608] 3)
/-- what is between two rounds of splice's loop -/
def SpI (B : Nat) (w : World) (s hg k Bs : Nat) (u : Value) (cs : Array Value) (c : Cw) (fr : Int) (l2 lf : Qs) (pre : List Unit) (W : World) : Prop := (pre = [] ∧ PDone B w hg k cs c l2 W ∧ SpB s hg k fr W ∧ ChB Bs u W) ∨ (pre = [()] ∧ PDone B w hg k cs c lf W)
set_option maxRecDepth 100000 in
set_option maxHeartbeats 3200000 in
theorem hgsplice_any (hg k : Nat) (cs : Array Value) (v u : Value) (l m : Qs) (c : Cw) (i n C : Nat) (tt : Int) (w : World) (hh : w.heap[hg]? = some (.cells cs 70)) (hk : cs[k]? = some v) (h : IsCh B w v c l) (hB : B ≤ w.heap.size) (htt : tt - (i : Int) = (n : Int)) (hi : i + n ≤ l.length) (hu : OQ 33 w C u m) (hm : l.length + m.length ≤ 45000) (hb : m.any tlBad = false) :
    Calls Try.prog 42 #[.pointer (some ⟨hg, k, none⟩), .int .i64 (i : Int), .int .i64 tt, u, .int .i64 16777216] w fun e w' => e = .returned (.tuple #[]) ∧ PDone B w hg k cs c (l.take i ++ m ++ l.drop (i + n)) w' := by
  have hlt := own_lt hh
  have hlen := h.tls.2
  have HCUT := Lib.hid (fun (w' : World) (a : AnyLater w w') => hgcut_any hg k cs v l c i n w' (any_own a hh) hk (h.later a) hi)
  have hl2 : i ≤ (l.take i ++ l.drop (i + n)).length ∧ (l.take i ++ l.drop (i + n)).length ≤ l.length := by
    rw [List.length_append, List.length_take, List.length_drop]; omega
  have HPUT : Hid (∀ (W : World) (A : Option Addr) (cap : Nat), u = .slice A m.length cap → PDone B w hg k cs c (l.take i ++ l.drop (i + n)) W → Calls Try.prog 53 #[.pointer (some ⟨hg, k, none⟩), .int .i64 (i : Int), .slice A m.length m.length, .int .i64 16777216] W fun e w' => e = .returned (.tuple #[]) ∧ PDone B w hg k cs c (l.take i ++ m ++ l.drop (i + n)) w' ∧ Stays (fun b => b < W.heap.size ∧ ∃ cs t, W.heap[b]? = some (.cells cs t) ∧ (t = 70 ∨ t = 75 ∨ t = 84)) W w') := Lib.hid (fun W A cap hu2 q => by
    obtain ⟨v1, c1, q1, q2, q3, q4, q5⟩ := q
    have hr : QR W (.slice A m.length m.length) m := by
      obtain ⟨A', cap', e, h2, h3⟩ := OQ.rq (own_row_stays hu q5 (fun b hb => tall_apart hu h hh hb) : OQ 33 W C u m)
      rw [hu2] at e
      cases e
      exact ⟨A, m.length, rfl, Nat.le_refl _, h3⟩
    have hks : k < cs.size := (Array.getElem?_eq_some_iff.1 hk).1
    refine (hgput_any hg k _ v1 _ (l.take i ++ l.drop (i + n)) m c1 i W q1 (by rw [Array.getElem?_setIfInBounds_self, if_pos hks]) q2 (Nat.le_trans hB q5.size) hl2.1 hr (by omega) hb).mono ?_
    rintro e w' ⟨rfl, r⟩
    have e9 : (l.take i ++ l.drop (i + n)).take i ++ m ++ (l.take i ++ l.drop (i + n)).drop i = l.take i ++ m ++ l.drop (i + n) := by
      rw [List.take_append_of_le_length (by rw [List.length_take]; omega), List.take_take, Nat.min_self, List.drop_append_of_le_length (by rw [List.length_take]; omega), List.drop_of_length_le (by rw [List.length_take]; omega), List.nil_append]
    rw [e9] at r
    refine ⟨rfl, PDone.trans q3 q4 q5 r, ?_⟩
    obtain ⟨_, _, _, _, _, _, r5⟩ := r
    refine r5.wide (fun b hb hc => ⟨hb, ?_⟩)
    rcases hc with rfl | hc | ⟨g, t, k1, rfl⟩
    · exact ⟨_, _, q1, .inl rfl⟩
    · obtain ⟨_, cs', e2⟩ := q2.rowAt hc
      exact ⟨_, _, e2, .inr (.inl rfl)⟩
    · obtain ⟨rv, e2, _⟩ := (q2.seqAt k1).1.obj
      exact ⟨_, _, e2, .inr (.inr rfl)⟩)
  have HFIN : Hid (m = [] → l.take i ++ l.drop (i + n) = l.take i ++ m ++ l.drop (i + n)) := Lib.hid (fun e => by rw [e, List.append_nil])
  have HBLW : Hid (∀ b, InR c b → b < w.heap.size) := Lib.hid (fun b hb => hb.lt h)
  obtain ⟨A, cap, rfl, hcap⟩ := (OQ.rq hu).form
  have HP2 := Lib.hid (fun (W : World) q => HPUT.out W A cap rfl q)
  have hn45 : i + n ≤ 45000 := by omega
  have hM0 : m.length = 0 → m = [] := List.eq_nil_of_length_eq_zero
  have hM : m.length ≤ 45000 := by omega
  obtain ⟨s, hs⟩ : ∃ s, w.heap.size = s := ⟨_, rfl⟩
  clear HPUT hu hb hk h hB hi hm hlen hl2
  generalize hl2 : l.take i ++ l.drop (i + n) = l2 at *
  generalize hlf : l.take i ++ m ++ l.drop (i + n) = lf at *
  clear hl2 hlf
  generalize m.length = M at *
  have HS := Lib.hid hs
  refine (callsIn_wide (n := 8)).1 ?_
  refine callsIn_of_wp_marks Try.func42 rfl trivial ?_ rfl
  simp only [Try.ntmps42, List.size_toArray, List.length_cons, List.length_nil, Nat.reduceAdd, Nat.reduceSub, Array.replicate_succ, Array.replicate_zero, List.push_toArray, List.append_toArray, List.nil_append, List.cons_append]
  gi_wp2_with fail
  have aW : AnyLater w (((w.alloc (.cells #[.pointer (some ⟨hg, k, none⟩)] 86)).alloc (.cells #[.int .i64 (i : Int)] 3)).alloc (.cells #[.int .i64 16777216] 3)) := by repeat' (first | with_reducible assumption | with_reducible exact AnyLater.refl _ | with_reducible apply AnyLater.setCell | with_reducible apply AnyLater.later | with_reducible apply AnyLater.drewN | with_reducible apply AnyLater.drew | with_reducible apply AnyLater.alloc | ((try simp only [World.size_alloc, World.size_setCell, World.size_drew]); (try dsimp only); omega))
  have bW : SpB s hg k (i : Int) (((w.alloc (.cells #[.pointer (some ⟨hg, k, none⟩)] 86)).alloc (.cells #[.int .i64 (i : Int)] 3)).alloc (.cells #[.int .i64 16777216] 3)) := by
    subst hs
    refine ⟨?_, ?_, ?_⟩
    · ((repeat (first | with_reducible assumption | ((with_reducible apply heap_new); (try simp only [World.size_alloc, World.size_setCell, World.size_drew, World.heap_drewN]); done) | ((with_reducible apply heap_new); (try simp only [World.size_alloc, World.size_setCell, World.size_drew, World.heap_drewN]); omega) | (with_reducible refine heap_old (by (try simp only [World.size_alloc, World.size_setCell, World.size_drew, World.heap_drewN]); omega) ?_) | (with_reducible refine heap_drew ?_) | (with_reducible refine heap_far (by omega) ?_) | (with_reducible apply heap_at))); all_goals rfl)
    · ((repeat (first | with_reducible assumption | ((with_reducible apply heap_new); (try simp only [World.size_alloc, World.size_setCell, World.size_drew, World.heap_drewN]); done) | ((with_reducible apply heap_new); (try simp only [World.size_alloc, World.size_setCell, World.size_drew, World.heap_drewN]); omega) | (with_reducible refine heap_old (by (try simp only [World.size_alloc, World.size_setCell, World.size_drew, World.heap_drewN]); omega) ?_) | (with_reducible refine heap_drew ?_) | (with_reducible refine heap_far (by omega) ?_) | (with_reducible apply heap_at))); all_goals rfl)
    · ((repeat (first | with_reducible assumption | ((with_reducible apply heap_new); (try simp only [World.size_alloc, World.size_setCell, World.size_drew, World.heap_drewN]); done) | ((with_reducible apply heap_new); (try simp only [World.size_alloc, World.size_setCell, World.size_drew, World.heap_drewN]); omega) | (with_reducible refine heap_old (by (try simp only [World.size_alloc, World.size_setCell, World.size_drew, World.heap_drewN]); omega) ?_) | (with_reducible refine heap_drew ?_) | (with_reducible refine heap_far (by omega) ?_) | (with_reducible apply heap_at))); all_goals rfl)
  refine ⟨trivial, ?_⟩
  refine (callsIn_wide.2 (HCUT.out _ aW)).mono ?_
  rintro e w2 ⟨rfl, q⟩
  have b2 : SpB s hg k (i : Int) w2 := by
    obtain ⟨_, _, _, _, _, _, q5⟩ := id q
    exact bW.stays q5 (fun b hb hc => by
      rcases hc with rfl | hc
      · omega
      · have := HBLW.out b hc; omega)
  have q2 := PDone.from aW q
  have z2 : s + 3 ≤ w2.heap.size := by
    obtain ⟨_, _, _, _, _, _, q5⟩ := q
    have := q5.size
    simp only [World.size_alloc] at this
    omega
  have Q2 := Lib.hid q2
  have B2 := Lib.hid b2
  have Z2 := Lib.hid z2
  clear aW bW q q2
  have g0 := own_row b2.1
  have g1 := own_row b2.2.1
  have g2 := own_row b2.2.2
  clear b2 z2
  gi_wp2_with fail
  refine ⟨trivial, ?_⟩
  refine (callsIn_wide.2 (chunk_any A M cap w2)).mono ?_
  rintro e w' ⟨rfl, rfl⟩
  gi_wp2
  obtain ⟨Bs, hBs⟩ : ∃ Bs, w2.heap.size = Bs := ⟨_, rfl⟩
  obtain ⟨W3, hW3⟩ : ∃ W3, (w2.alloc (.cells #[.slice A M cap] 22)).alloc (.cells #[.int .i64 8388608] 3) = W3 := ⟨_, rfl⟩
  have a3 : AnyLater w2 W3 := by rw [← hW3]; repeat' (first | with_reducible assumption | with_reducible exact AnyLater.refl _ | with_reducible apply AnyLater.setCell | with_reducible apply AnyLater.later | with_reducible apply AnyLater.drewN | with_reducible apply AnyLater.drew | with_reducible apply AnyLater.alloc | ((try simp only [World.size_alloc, World.size_setCell, World.size_drew]); (try dsimp only); omega))
  have z3 : W3.heap.size = Bs + 1 + 1 := by rw [← hW3]; simp [hBs]
  have c1 : W3.heap[Bs]? = some (.cells #[.slice A M cap] 22) := by subst hBs; rw [← hW3]; ((repeat (first | with_reducible assumption | ((with_reducible apply heap_new); (try simp only [World.size_alloc, World.size_setCell, World.size_drew, World.heap_drewN]); done) | ((with_reducible apply heap_new); (try simp only [World.size_alloc, World.size_setCell, World.size_drew, World.heap_drewN]); omega) | (with_reducible refine heap_old (by (try simp only [World.size_alloc, World.size_setCell, World.size_drew, World.heap_drewN]); omega) ?_) | (with_reducible refine heap_drew ?_) | (with_reducible refine heap_far (by omega) ?_) | (with_reducible apply heap_at))); all_goals rfl)
  have c2 : W3.heap[Bs + 1]? = some (.cells #[.int .i64 8388608] 3) := by subst hBs; rw [← hW3]; ((repeat (first | with_reducible assumption | ((with_reducible apply heap_new); (try simp only [World.size_alloc, World.size_setCell, World.size_drew, World.heap_drewN]); done) | ((with_reducible apply heap_new); (try simp only [World.size_alloc, World.size_setCell, World.size_drew, World.heap_drewN]); omega) | (with_reducible refine heap_old (by (try simp only [World.size_alloc, World.size_setCell, World.size_drew, World.heap_drewN]); omega) ?_) | (with_reducible refine heap_drew ?_) | (with_reducible refine heap_far (by omega) ?_) | (with_reducible apply heap_at))); all_goals rfl)
  rw [hW3, hBs]
  have Q3 := Lib.hid (Q2.out.later a3)
  have B3 := Lib.hid (B2.out.any a3)
  have hsB : s + 3 ≤ Bs := by have := Z2.out; omega
  have hwB : w.heap.size ≤ W3.heap.size := by rw [HS.out, z3]; omega
  have hown : OwnFrom W3.heap.size (SpI B w s hg k Bs (.slice A M cap) cs c (i : Int) l2 lf) := fun pre W W' row hI g hr => by
    have hr' : ∀ r, row = some r → w.heap.size ≤ r ∧ ∃ o : Obj, W.heap[r]? = some o ∧ o.isCells = false := fun r e => ⟨Nat.le_trans hwB (hr r e).1, (hr r e).2⟩
    rcases hI with ⟨rfl, h1, h2, h3⟩ | ⟨rfl, h1⟩
    · have st : Stays (fun b => row = some b) W W' := Stays.grown g (fun b e => e)
      have hn : ∀ {b : Nat} {cs : Array Value} {t : TypeId}, W.heap[b]? = some (.cells cs t) → ¬ row = some b := fun e1 e2 => by
        obtain ⟨_, o, ho, hc⟩ := hr _ e2
        rw [e1] at ho
        cases ho
        cases hc
      exact .inl ⟨rfl, h1.grown g hr', ⟨st.own h2.1 (hn h2.1), st.own h2.2.1 (hn h2.2.1), st.own h2.2.2 (hn h2.2.2)⟩, st.own h3.1 (hn h3.1), st.own h3.2 (hn h3.2)⟩
    · exact .inr ⟨rfl, h1.grown g hr'⟩
  refine wpIn_rangeFunc_ownH rfl (by decide) (gf := 67) (lb := #[.pointer (some ⟨Bs, 0, none⟩), .pointer (some ⟨Bs + 1, 0, none⟩)]) rfl trivial chunk_enters
    (chunk_stops _ (by decide) Bs (Bs + 1) A cap M hM hcap W3 (by rw [own_row c1]; rfl) (by rw [own_row c2]; rfl)) (fun h k => h.trans k) (KpC.turn (by rw [z3]; omega) (by rw [z3]; omega)) (Below.refl _ _) (fun _ => rfl)
    (SpI B w s hg k Bs (.slice A M cap) cs c (i : Int) l2 lf) (fun _ _ _ => False) hown (fun _ _ _ _ _ hs _ _ => hs)
    (.inl ⟨rfl, Q3.out, B3.out, c1, c2⟩)
    (fun _ a' _ => a' = { tmps := #[.pointer (some ⟨hg, k, none⟩), .int .i64 (i : Int), .int .i64 tt, .slice A M cap, .int .i64 16777216, .pointer (some ⟨s, 0, none⟩), .pointer (some ⟨s + 1, 0, none⟩), undef, undef, .pointer (some ⟨s + 1 + 1, 0, none⟩), .slice A M M, .pointer (some ⟨hg, k, none⟩), .int .i64 (i : Int), .int .i64 tt, .int .i64 (i : Int), .int .i64 (n : Int), .tuple #[], .slice A M cap, .int .i64 16777216, .int .i64 8388608, .func (.func 67) #[] #[.pointer (some ⟨Bs, 0, none⟩), .pointer (some ⟨Bs + 1, 0, none⟩)], .slice A M M, undef, undef, undef, undef, undef, undef, undef, undef, undef], defers := [] })
    (fun x a' b X Y row h hg hr => h) ?assign ?body ?done ?stop
  case assign =>
    rintro l pre x W K hI hK
    gi_wp2
    exact hK _ _ (KeepsFrom.refl _ _) (KpC.refl _ _ _) hI rfl
  case body =>
    rintro l pre x a' W hl - hI rfl hlt
    obtain ⟨rfl, h1, h2, h3⟩ := hI.resolve_right (fun q => by rw [q.1] at hlt; exact absurd hlt (by decide))
    have HPW := Lib.hid (HP2.out W h1)
    have hlW := own_lt h3.2
    have HCH := Lib.hid h3
    have HSB := Lib.hid h2
    have g0 := own_row h2.1
    have g1 := own_row h2.2.1
    have g2 := own_row h2.2.2
    clear h1 h2 h3
    gi_wp2_with fail
    refine ⟨trivial, ?_⟩
    refine (CallsIn.inRound l (callsIn_wide.2 HPW.out)).mono ?_
    rintro e W2 ⟨rfl, r1, r2⟩
    have b1 : SpB s hg k (i : Int) W2 := by
      refine ⟨r2.own HSB.out.1 ?_, r2.own HSB.out.2.1 ?_, r2.own HSB.out.2.2 ?_⟩
      all_goals
        rintro ⟨-, cs', t, e, ht⟩
        first
        | rw [HSB.out.1] at e
        | rw [HSB.out.2.1] at e
        | rw [HSB.out.2.2] at e
        rcases ht with rfl | rfl | rfl
        all_goals cases e
    have b3 : ChB Bs (.slice A M cap) W2 := by
      refine ⟨r2.own HCH.out.1 ?_, r2.own HCH.out.2 ?_⟩
      all_goals
        rintro ⟨-, cs', t, e, ht⟩
        first
        | rw [HCH.out.1] at e
        | rw [HCH.out.2] at e
        rcases ht with rfl | rfl | rfl
        all_goals cases e
    have HZ : Hid (ownPostG W3.heap.size (KpC Bs (Bs + 1)) (SpI B w s hg k Bs (.slice A M cap) cs c (i : Int) l2 lf) (fun _ _ _ => False) ([] ++ [x]) W .normal { tmps := #[], defers := [] } (W2.setCell ⟨s + 1, 0, none⟩ (.int .i64 ((i : Int) + (M : Int))))) := Lib.hid (by
      refine ⟨⟨by rw [World.size_setCell]; exact r2.size, fun q o hq ho hc => ?_⟩, ⟨?_, ?_⟩, .inr ⟨rfl, PDone.box r1 (by rw [HS.out]; omega) b1.2.1 ⟨by decide, by decide, by decide, by decide, by decide⟩ _⟩⟩
      · refine (Below.heap_setCell W2 _ _ q (by rw [z3] at hq; dsimp only; omega)).trans (r2.own ho ?_)
        rintro ⟨-, cs', t, e, ht⟩
        rw [ho] at e
        cases e
        cases hc
      · rw [Below.heap_setCell W2 _ _ Bs (by dsimp only; omega), b3.1, HCH.out.1]
      · rw [Below.heap_setCell W2 _ _ (Bs + 1) (by dsimp only; omega), b3.2, HCH.out.2])
    have g4 := own_row b1.2.1
    have f4 := own_free b1.2.1
    have l4 := own_lt b1.2.1
    clear r1 r2 b1 b3 g0 g1 g2
    gi_wp2
    exact HZ.out
  case done =>
    rintro D xs W hD rfl hI hK
    have r : PDone B w hg k cs c lf W := by
      rcases hI with ⟨e, h1, -⟩ | ⟨-, h1⟩
      · have e0 : M = 0 := by
          rcases Nat.eq_zero_or_pos M with q | q
          · exact q
          · rw [Nat.min_eq_right (by omega)] at e; cases e
        rw [← HFIN.out (hM0 e0)]
        exact h1
      · exact h1
    have HZ := Lib.hid (r.grown (grownBy_putObj' W D (.deferred none)) (fun q e => by cases e; exact ⟨Nat.le_trans hwB hD, _, hK, rfl⟩))
    clear r hI
    gi_wp2
    refine ⟨by simp, .inl ⟨_, _, rfl, run_takeDeferred hK, ?_⟩⟩
    exact ⟨.tuple #[], by simp [results, Try.results42, go_sem], rfl, HZ.out⟩
  case stop =>
    rintro D c pre W hD _ h _
    exact h.elim
end Go.Proofs.Ytjoadlfkdkeomaa
