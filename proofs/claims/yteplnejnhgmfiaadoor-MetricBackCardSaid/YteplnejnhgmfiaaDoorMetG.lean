/- metric: At, by contract: two loops over slices.Backward. -/
import Derived.Test.YteplnejnhgmfiaaDoorMetE
import Derived.Test.YteplnejnhgmfiaaDoorMetF
namespace Go.Proofs.YteplnejnhgmfiaaDoor
set_option linter.unusedSimpArgs false
set_option linter.unusedVariables false
set_option linter.unusedSectionVars false
open Go.RowKit Go.Shelf
attribute [local go_sem] Oper.semAt_some

/-- a row with its number, as slices.Backward hands it to the loop's body: in w0 it lies so -/
abbrev RowAt (w0 : World) : Type := { p : Nat × LdV × Ld // p.1 ≤ 100000 ∧ IsLd w0 p.2.1 p.2.2 ∧ p.2.2.cs.length ≤ 100000 }
def rowNone (w0 : World) : RowAt w0 := ⟨(0, ⟨none, 0, 0, none, 0, 0, 0, 0, 0, 0, false⟩, ⟨[], [], 0, 0, 0, 0, false⟩), Nat.zero_le _, ⟨⟨FR.void _ _ _, ⟨none, 0, rfl, Nat.le_refl _, fun h => absurd h (by decide)⟩⟩, rfl, rfl, rfl, rfl, rfl⟩, Nat.zero_le _⟩
def encR {w0 : World} (x : RowAt w0) : Array Value := #[.int .i64 (x.1.1 : Int), .agg #[.slice x.1.2.1.a1 x.1.2.1.n1 x.1.2.1.c1, .slice x.1.2.1.a2 x.1.2.1.n2 x.1.2.1.c2, .int .i64 x.1.2.1.up, .int .i64 x.1.2.1.dn, .int .i64 x.1.2.1.fr, .int .i64 x.1.2.1.en, .bool x.1.2.1.la]]
/-- the marks of a loop that is over still lie -/
def Held (o : Option Nat) (W : World) : Prop := ∀ d, o = some d → W.heap[d]? = some (.deferred (some []))
/-- the five boxes of At: the iterator's; the place; the row's number, the x, whether there is one -/
def AtB (s t : Nat) (o : Option Nat) (sv : Value) (col k x : Int) (ok : Bool) (W : World) : Prop := (W.heap[t]? = some (.cells #[sv] 29) ∧ Held o W) ∧ W.heap[s]? = some (.cells #[.int .i64 col] 3) ∧ W.heap[s + 1]? = some (.cells #[.int .i64 k] 3) ∧ W.heap[s + 1 + 1]? = some (.cells #[.int .i64 x] 3) ∧ W.heap[s + 1 + 1 + 1]? = some (.cells #[.bool ok] 4)
theorem AtB.any {s t : Nat} {o : Option Nat} {sv : Value} {col k x : Int} {ok : Bool} {W W' : World} (h : AtB s t o sv col k x ok W) (a : AnyLater W W') : AtB s t o sv col k x ok W' :=
  ⟨⟨any_own a h.1.1, fun d hd => (a.below.block d (Array.getElem?_eq_some_iff.1 (h.1.2 d hd)).1).trans (h.1.2 d hd)⟩, any_own a h.2.1, any_own a h.2.2.1, any_own a h.2.2.2.1, any_own a h.2.2.2.2⟩
theorem own_cells {β : Type} (D k : Nat) (cs : Array Value) (t : TypeId) : OwnFrom D (fun (_ : β) W => W.heap[k]? = some (.cells cs t)) := fun s W W' row hs hg hr =>
  (hg.block k (Array.getElem?_eq_some_iff.1 hs).1 (fun e => by obtain ⟨_, o, ho, hc⟩ := hr k e.symm; rw [hs] at ho; cases ho; cases hc)).trans hs
theorem own_atB {β : Type} {D : Nat} (s t : Nat) {o : Option Nat} (hD : ∀ d, o = some d → d < D) (sv : Value) (col k x : Int) (ok : Bool) : OwnFrom D (fun (_ : β) W => AtB s t o sv col k x ok W) := fun b W W' row hs hg hr =>
  ⟨⟨own_cells (β := β) D _ _ _ b W W' row hs.1.1 hg hr, fun d hd => (hg.block d (Array.getElem?_eq_some_iff.1 (hs.1.2 d hd)).1 (fun e => by have h1 := (hr d e.symm).1; have h2 := hD d hd; omega)).trans (hs.1.2 d hd)⟩,
    own_cells (β := β) D _ _ _ b W W' row hs.2.1 hg hr, own_cells (β := β) D _ _ _ b W W' row hs.2.2.1 hg hr, own_cells (β := β) D _ _ _ b W W' row hs.2.2.2.1 hg hr, own_cells (β := β) D _ _ _ b W W' row hs.2.2.2.2 hg hr⟩
theorem keeps_any {B : Nat} {W W' : World} (a : AnyLater W W') : KeepsFrom B W W' := ⟨a.below.size, fun k o _ h _ => (a.below.block k (Array.getElem?_eq_some_iff.1 h).1).trans h⟩
theorem keeps_set {B : Nat} {W W' : World} (h : KeepsFrom B W W') {p : Addr} (hp : p.block < B) (v : Value) : KeepsFrom B W (W'.setCell p v) :=
  ⟨by rw [World.size_setCell]; exact h.size, fun k o hB hk ho => (Below.heap_setCell W' p v k (by omega)).trans (h.same k o hB hk ho)⟩
theorem AtB.put {s t : Nat} {o : Option Nat} {sv : Value} {col k x : Int} {ok : Bool} {W : World} (h : AtB s t o sv col k x ok W) (ht : s + 1 + 1 + 1 < t) (ho : ∀ d, o = some d → s + 1 + 1 + 1 < d) (k' x' : Int) (ok' : Bool) :
    AtB s t o sv col k' x' ok' (((W.setCell ⟨s + 1, 0, none⟩ (.int .i64 k')).setCell ⟨s + 1 + 1, 0, none⟩ (.int .i64 x')).setCell ⟨s + 1 + 1 + 1, 0, none⟩ (.bool ok')) := by
  obtain ⟨⟨h1, h0⟩, h2, h3, h4, h5⟩ := h
  refine ⟨⟨?_, fun d hd => ?_⟩, ?_, ?_, ?_, ?_⟩
  · ((repeat (first | with_reducible assumption | ((with_reducible apply heap_new); (try simp only [World.size_alloc, World.size_setCell, World.size_drew, World.heap_drewN]); done) | ((with_reducible apply heap_new); (try simp only [World.size_alloc, World.size_setCell, World.size_drew, World.heap_drewN]); omega) | (with_reducible refine heap_old (by (try simp only [World.size_alloc, World.size_setCell, World.size_drew, World.heap_drewN]); omega) ?_) | (with_reducible refine heap_drew ?_) | (with_reducible refine heap_far (by omega) ?_) | (with_reducible apply heap_at))); all_goals rfl)
  · have h6 := ho d hd
    rw [Below.heap_setCell _ _ _ d (by dsimp only; omega), Below.heap_setCell _ _ _ d (by dsimp only; omega), Below.heap_setCell _ _ _ d (by dsimp only; omega)]
    exact h0 d hd
  · ((repeat (first | with_reducible assumption | ((with_reducible apply heap_new); (try simp only [World.size_alloc, World.size_setCell, World.size_drew, World.heap_drewN]); done) | ((with_reducible apply heap_new); (try simp only [World.size_alloc, World.size_setCell, World.size_drew, World.heap_drewN]); omega) | (with_reducible refine heap_old (by (try simp only [World.size_alloc, World.size_setCell, World.size_drew, World.heap_drewN]); omega) ?_) | (with_reducible refine heap_drew ?_) | (with_reducible refine heap_far (by omega) ?_) | (with_reducible apply heap_at))); all_goals rfl)
  · ((repeat (first | with_reducible assumption | ((with_reducible apply heap_new); (try simp only [World.size_alloc, World.size_setCell, World.size_drew, World.heap_drewN]); done) | ((with_reducible apply heap_new); (try simp only [World.size_alloc, World.size_setCell, World.size_drew, World.heap_drewN]); omega) | (with_reducible refine heap_old (by (try simp only [World.size_alloc, World.size_setCell, World.size_drew, World.heap_drewN]); omega) ?_) | (with_reducible refine heap_drew ?_) | (with_reducible refine heap_far (by omega) ?_) | (with_reducible apply heap_at))); all_goals rfl)
  · ((repeat (first | with_reducible assumption | ((with_reducible apply heap_new); (try simp only [World.size_alloc, World.size_setCell, World.size_drew, World.heap_drewN]); done) | ((with_reducible apply heap_new); (try simp only [World.size_alloc, World.size_setCell, World.size_drew, World.heap_drewN]); omega) | (with_reducible refine heap_old (by (try simp only [World.size_alloc, World.size_setCell, World.size_drew, World.heap_drewN]); omega) ?_) | (with_reducible refine heap_drew ?_) | (with_reducible refine heap_far (by omega) ?_) | (with_reducible apply heap_at))); all_goals rfl)
  · ((repeat (first | with_reducible assumption | ((with_reducible apply heap_new); (try simp only [World.size_alloc, World.size_setCell, World.size_drew, World.heap_drewN]); done) | ((with_reducible apply heap_new); (try simp only [World.size_alloc, World.size_setCell, World.size_drew, World.heap_drewN]); omega) | (with_reducible refine heap_old (by (try simp only [World.size_alloc, World.size_setCell, World.size_drew, World.heap_drewN]); omega) ?_) | (with_reducible refine heap_drew ?_) | (with_reducible refine heap_far (by omega) ?_) | (with_reducible apply heap_at))); all_goals rfl)
/-- between two rounds, and where a round has found one: f tells of the rows that have come -/
def AtI (w : World) (f : Ld → Option Int) (s t : Nat) (o : Option Nat) (sv : Value) (col : Int) (pre : List (RowAt w)) (W : World) : Prop := ((∀ p ∈ pre, f p.1.2.2 = none) ∧ AtB s t o sv col 0 0 false W) ∧ Below w.heap.size w W
def AtX (w : World) (f : Ld → Option Int) (s t : Nat) (o : Option Nat) (sv : Value) (col : Int) (c : Code) (pre : List (RowAt w)) (W : World) : Prop := (c = .ret ∧ ∃ ini last x, pre = ini ++ [last] ∧ (∀ p ∈ ini, f p.1.2.2 = none) ∧ f last.1.2.2 = some x ∧ AtB s t o sv col (last.1.1 : Int) x true W) ∧ Below w.heap.size w W
theorem own_atI (w : World) (f : Ld → Option Int) (s t : Nat) {o : Option Nat} (sv : Value) (col : Int) {D : Nat} (hD : w.heap.size ≤ D) (hd : ∀ d, o = some d → d < D) : OwnFrom D (AtI w f s t o sv col) :=
  OwnFrom.and (fun b X Y row h hg hr => ⟨h.1, own_atB _ _ hd _ _ _ _ _ b X Y row h.2 hg hr⟩) (ownFrom_below (Nat.le_refl _) hD)
theorem own_atX (w : World) (f : Ld → Option Int) (s t : Nat) {o : Option Nat} (sv : Value) (col : Int) {D : Nat} (hD : w.heap.size ≤ D) (hd : ∀ d, o = some d → d < D) (c : Code) : OwnFrom D (AtX w f s t o sv col c) :=
  OwnFrom.and (fun b X Y row h hg hr => by
    obtain ⟨h1, ini, last, x, h2, h3, h4, h5⟩ := h
    exact ⟨h1, ini, last, x, h2, h3, h4, own_atB _ _ hd _ _ _ _ _ b X Y row h5 hg hr⟩) (ownFrom_below (Nat.le_refl _) hD)
/-- the three stores of a round that has found one -/
theorem AtX.of {w : World} {f : Ld → Option Int} {s t : Nat} {o : Option Nat} {sv : Value} {col : Int} {W w2 : World} {pre : List (RowAt w)} {x : RowAt w} {i : Nat} {z : Int} {D : Nat} (hs : w.heap.size = s) (ht : s + 1 + 1 + 1 < t) (ho : ∀ d, o = some d → s + 1 + 1 + 1 < d) (hD : s + 1 + 1 + 1 < D) (hp : ∀ p ∈ pre, f p.1.2.2 = none) (hx : f x.1.2.2 = some z) (hi : x.1.1 = i)
    (hB : AtB s t o sv col 0 0 false w2) (a : AnyLater W w2) (hl : Below w.heap.size w W) : KeepsFrom D W (((w2.setCell ⟨s + 1, 0, none⟩ (.int .i64 (i : Int))).setCell ⟨s + 1 + 1, 0, none⟩ (.int .i64 z)).setCell ⟨s + 1 + 1 + 1, 0, none⟩ (.bool true)).drew ∧ AtX w f s t o sv col .ret (pre ++ [x]) (((w2.setCell ⟨s + 1, 0, none⟩ (.int .i64 (i : Int))).setCell ⟨s + 1 + 1, 0, none⟩ (.int .i64 z)).setCell ⟨s + 1 + 1 + 1, 0, none⟩ (.bool true)).drew := by
  refine ⟨?_, ⟨rfl, pre, x, z, rfl, hp, hx, ?_⟩, ?_⟩
  · have h := keeps_set (keeps_set (keeps_set (B := D) (keeps_any a) (p := ⟨s + 1, 0, none⟩) (by dsimp only; omega) (.int .i64 (i : Int))) (p := ⟨s + 1 + 1, 0, none⟩) (by dsimp only; omega) (.int .i64 z)) (p := ⟨s + 1 + 1 + 1, 0, none⟩) (by dsimp only; omega) (.bool true)
    exact ⟨h.size, h.same⟩
  · rw [hi]; exact AtB.put (W := w2) hB ht ho _ _ _
  · exact (((((AnyLater.of hl).trans a).below.setCell (p := ⟨s + 1, 0, none⟩) (by rw [hs]; dsimp only; omega) _).setCell (p := ⟨s + 1 + 1, 0, none⟩) (by rw [hs]; dsimp only; omega) _).setCell (p := ⟨s + 1 + 1 + 1, 0, none⟩) (by rw [hs]; dsimp only; omega) _).drew
/-- what the rounds tell of the rows -/
theorem lastX_found {w : World} (f : Ld → Option Int) (L : List Ld) (el : Nat → RowAt w) (m : Nat) (hm : L.length = m) (hel : ∀ (j : Nat) (h : j < L.length), (el j).1.1 = j ∧ (el j).1.2.2 = L[j]) {k : Nat} {ini : List (RowAt w)} {last : RowAt w} {x : Int} (hk : k ≤ m) (h : downto el m k = ini ++ [last])
    (h2 : ∀ p ∈ ini, f p.1.2.2 = none) (h3 : f last.1.2.2 = some x) : lastX f L L.length = some ((last.1.1 : Int), x) := by
  cases k with
  | zero => simp [downto] at h
  | succ k =>
    rw [downto_succ] at h
    obtain ⟨rfl, e⟩ := List.append_inj' h rfl
    obtain rfl : el (m - 1 - k) = last := by simpa using e
    have hlt : m - 1 - k < L.length := by omega
    obtain ⟨e1, e2⟩ := hel _ hlt
    rw [e1]
    rw [e2] at h3
    refine lastX_at hlt h3 _ (by omega) (Nat.le_refl _) (fun j hj q1 q2 => ?_)
    have := h2 (el j) (by
      unfold downto
      rw [List.mem_map]
      exact ⟨m - 1 - j, List.mem_range.2 (by omega), by congr 1; omega⟩)
    rw [(hel j hj).2] at this
    exact this
theorem lastX_over {w : World} (f : Ld → Option Int) (L : List Ld) (el : Nat → RowAt w) (m : Nat) (hm : L.length = m) (hel : ∀ (j : Nat) (h : j < L.length), (el j).1.1 = j ∧ (el j).1.2.2 = L[j]) (h2 : ∀ p ∈ downto el m m, f p.1.2.2 = none) : lastX f L L.length = none := by
  refine lastX_none _ (Nat.le_refl _) (fun j hj _ => ?_)
  have := h2 (el j) (by
    unfold downto
    rw [List.mem_map]
    exact ⟨m - 1 - j, List.mem_range.2 (by omega), by congr 1; omega⟩)
  rw [(hel j hj).2] at this
  exact this
theorem begX_cases (col : Int) (r : Ld) : (begI col r = -1 ∧ begX col r = none) ∨ ∃ (j : Nat) (_ : j < r.cs.length) (h : j < r.xs.length), begI col r = (j : Int) ∧ begX col r = some r.xs[j] := by
  rcases idxC_cases (fun c => c.1 == col) (r.cs.take (min r.cs.length r.xs.length)) with ⟨_, e⟩ | ⟨_, j, e, h, _⟩
  · refine .inl ⟨e, ?_⟩
    unfold begX begI
    rw [e]; rfl
  · rw [List.length_take] at h
    refine .inr ⟨j, by omega, by omega, e, ?_⟩
    unfold begX begI
    rw [e, if_pos (by omega), Int.toNat_natCast, List.getElem?_eq_getElem]
theorem endX_cases (col : Int) (r : Ld) : (endX col r = none ∧ (r.la = false ∨ r.la = true ∧ (r.en == col) = false ∨ r.la = true ∧ (r.en == col) = true ∧ decide (r.cs.length < r.xs.length) = false)) ∨
    ∃ (h : r.cs.length < r.xs.length), r.la = true ∧ (r.en == col) = true ∧ endX col r = some r.xs[r.cs.length] := by
  unfold endX
  by_cases h1 : r.la = true
  · by_cases h2 : r.en = col
    · rw [if_pos ⟨h1, h2⟩]
      by_cases h3 : r.cs.length < r.xs.length
      · exact .inr ⟨h3, h1, by simpa using h2, List.getElem?_eq_getElem h3⟩
      · exact .inl ⟨List.getElem?_eq_none (by omega), .inr (.inr ⟨h1, by simpa using h2, decide_eq_false h3⟩)⟩
    · exact .inl ⟨by rw [if_neg (fun h => h2 h.2)], .inr (.inl ⟨h1, by simpa using h2⟩)⟩
  · exact .inl ⟨by rw [if_neg (fun h => h1 h.1)], .inl (by simpa using h1)⟩
theorem AtB.none {s t : Nat} {o : Option Nat} {sv : Value} {col k x : Int} {ok : Bool} {W : World} (h : AtB s t o sv col k x ok W) : AtB s t none sv col k x ok W := ⟨⟨h.1.1, fun d hd => by cases hd⟩, h.2⟩
set_option maxRecDepth 100000 in
set_option maxHeartbeats 6400000 in
theorem mat_any (v : Value) (L : List Ld) (col : Int) (w : World) (rk rx : Int) (ok : Bool) (hr : atL col L = (rk, rx, ok)) (hv : LR w v L) (hl : L.length ≤ 1000) (hN : ∀ r ∈ L, r.cs.length ≤ 100000) (hcol : I64s col) :
    Calls Tryd.prog 25 #[v, .int .i64 col] w fun e w' => e = .returned (.tuple #[.int .i64 rk, .int .i64 rx, .bool ok]) ∧ AnyLater w w' := by
  obtain ⟨A, cap, rfl, hc⟩ := hv.form
  obtain ⟨lv, h1, h2, h3⟩ := hv
  obtain ⟨m, hm⟩ : ∃ m, L.length = m := ⟨_, rfl⟩
  obtain ⟨el, hel⟩ : ∃ el : Nat → RowAt w, el = fun j => if h : j < L.length then ⟨(j, lv[j]'(by omega), L[j]), by simp only; omega, h3 j (by omega) h, hN _ (List.getElem_mem h)⟩ else rowNone w := ⟨_, rfl⟩
  have HE1 : Hid (∀ (j : Nat) (h : j < lv.length), (el j).1.1 = j ∧ (el j).1.2.1 = lv[j]) := Lib.hid (fun j h => by rw [hel]; simp [show j < L.length by omega])
  have HE2 : Hid (∀ (j : Nat) (h : j < L.length), (el j).1.1 = j ∧ (el j).1.2.2 = L[j]) := Lib.hid (fun j h => by rw [hel]; simp [h])
  clear hel
  have HR := Lib.hid hr
  have HM := Lib.hid hm
  rw [hm] at h1 h2 hc hl ⊢
  have H1 := Lib.hid (And.intro h1 h2)
  obtain ⟨hcol1, hcol2⟩ := hcol
  clear h1 h2 h3 hm hr hN
  refine (callsIn_wide (n := 8)).1 ?_
  refine callsIn_of_wp_marks Tryd.func25 rfl trivial ?_ rfl
  simp only [Tryd.ntmps25, List.size_toArray, List.length_cons, List.length_nil, Nat.reduceAdd, Nat.reduceSub, Array.replicate_succ, Array.replicate_zero, List.push_toArray, List.append_toArray, List.nil_append, List.cons_append]
  gi_wp2_with (refine ⟨trivial, ?_⟩; gi_at_call 43; refine (callsIn_wide.2 (back_any _ _ _ _)).mono ?_; rintro e w' ⟨rfl, rfl⟩)
  obtain ⟨s, hs⟩ : ∃ s, w.heap.size = s := ⟨_, rfl⟩
  have HS := Lib.hid hs
  obtain ⟨W0, hW0⟩ : ∃ W0, ((((w.alloc (.cells #[.int .i64 col] 3)).alloc (.cells #[.int .i64 0] 3)).alloc (.cells #[.int .i64 0] 3)).alloc (.cells #[.bool false] 4)).alloc (.cells #[.slice A m cap] 29) = W0 := ⟨_, rfl⟩
  have a0 : AnyLater w W0 := by rw [← hW0]; repeat' (first | with_reducible assumption | with_reducible exact AnyLater.refl _ | with_reducible apply AnyLater.setCell | with_reducible apply AnyLater.later | with_reducible apply AnyLater.drewN | with_reducible apply AnyLater.drew | with_reducible apply AnyLater.alloc | ((try simp only [World.size_alloc, World.size_setCell, World.size_drew]); (try dsimp only); omega))
  have z0 : W0.heap.size = s + 1 + 1 + 1 + 1 + 1 := by rw [← hW0]; simp [hs]
  have b0 : AtB s (s + 1 + 1 + 1 + 1) none (.slice A m cap) col 0 0 false W0 := by
    subst hs
    rw [← hW0]
    refine ⟨⟨?_, fun d hd => by cases hd⟩, ?_, ?_, ?_, ?_⟩
    · ((repeat (first | with_reducible assumption | ((with_reducible apply heap_new); (try simp only [World.size_alloc, World.size_setCell, World.size_drew, World.heap_drewN]); done) | ((with_reducible apply heap_new); (try simp only [World.size_alloc, World.size_setCell, World.size_drew, World.heap_drewN]); omega) | (with_reducible refine heap_old (by (try simp only [World.size_alloc, World.size_setCell, World.size_drew, World.heap_drewN]); omega) ?_) | (with_reducible refine heap_drew ?_) | (with_reducible refine heap_far (by omega) ?_) | (with_reducible apply heap_at))); all_goals rfl)
    · ((repeat (first | with_reducible assumption | ((with_reducible apply heap_new); (try simp only [World.size_alloc, World.size_setCell, World.size_drew, World.heap_drewN]); done) | ((with_reducible apply heap_new); (try simp only [World.size_alloc, World.size_setCell, World.size_drew, World.heap_drewN]); omega) | (with_reducible refine heap_old (by (try simp only [World.size_alloc, World.size_setCell, World.size_drew, World.heap_drewN]); omega) ?_) | (with_reducible refine heap_drew ?_) | (with_reducible refine heap_far (by omega) ?_) | (with_reducible apply heap_at))); all_goals rfl)
    · ((repeat (first | with_reducible assumption | ((with_reducible apply heap_new); (try simp only [World.size_alloc, World.size_setCell, World.size_drew, World.heap_drewN]); done) | ((with_reducible apply heap_new); (try simp only [World.size_alloc, World.size_setCell, World.size_drew, World.heap_drewN]); omega) | (with_reducible refine heap_old (by (try simp only [World.size_alloc, World.size_setCell, World.size_drew, World.heap_drewN]); omega) ?_) | (with_reducible refine heap_drew ?_) | (with_reducible refine heap_far (by omega) ?_) | (with_reducible apply heap_at))); all_goals rfl)
    · ((repeat (first | with_reducible assumption | ((with_reducible apply heap_new); (try simp only [World.size_alloc, World.size_setCell, World.size_drew, World.heap_drewN]); done) | ((with_reducible apply heap_new); (try simp only [World.size_alloc, World.size_setCell, World.size_drew, World.heap_drewN]); omega) | (with_reducible refine heap_old (by (try simp only [World.size_alloc, World.size_setCell, World.size_drew, World.heap_drewN]); omega) ?_) | (with_reducible refine heap_drew ?_) | (with_reducible refine heap_far (by omega) ?_) | (with_reducible apply heap_at))); all_goals rfl)
    · ((repeat (first | with_reducible assumption | ((with_reducible apply heap_new); (try simp only [World.size_alloc, World.size_setCell, World.size_drew, World.heap_drewN]); done) | ((with_reducible apply heap_new); (try simp only [World.size_alloc, World.size_setCell, World.size_drew, World.heap_drewN]); omega) | (with_reducible refine heap_old (by (try simp only [World.size_alloc, World.size_setCell, World.size_drew, World.heap_drewN]); omega) ?_) | (with_reducible refine heap_drew ?_) | (with_reducible refine heap_far (by omega) ?_) | (with_reducible apply heap_at))); all_goals rfl)
  have c0 : W0.heap[s + 1 + 1 + 1 + 1]? = some (.cells #[.slice A m cap] 29) := by
    subst hs
    rw [← hW0]
    ((repeat (first | with_reducible assumption | ((with_reducible apply heap_new); (try simp only [World.size_alloc, World.size_setCell, World.size_drew, World.heap_drewN]); done) | ((with_reducible apply heap_new); (try simp only [World.size_alloc, World.size_setCell, World.size_drew, World.heap_drewN]); omega) | (with_reducible refine heap_old (by (try simp only [World.size_alloc, World.size_setCell, World.size_drew, World.heap_drewN]); omega) ?_) | (with_reducible refine heap_drew ?_) | (with_reducible refine heap_far (by omega) ?_) | (with_reducible apply heap_at))); all_goals rfl)
  rw [hW0]
  rw [hs]
  have A0 := Lib.hid a0
  have B0 := Lib.hid b0
  have C0 := Lib.hid c0
  have Z0 := Lib.hid z0
  clear hW0 a0 b0 c0 z0 hs
  refine wpIn_rangeFunc_ownH rfl (by decide) (gf := 61) (lb := #[.pointer (some ⟨s + 1 + 1 + 1 + 1, 0, none⟩)]) rfl trivial back_enters
    (back_stops encR el _ (by decide) (s + 1 + 1 + 1 + 1) A cap m lv w W0 H1.out.2 (by omega) H1.out.1 (fun j h => by unfold encR; rw [(HE1.out j h).1, (HE1.out j h).2]) A0.out (by rw [own_row C0.out]; rfl)) (fun h k => h.trans k) (KpB.turn (by rw [HS.out, Z0.out]; omega) (by rw [Z0.out]; omega)) (Below.refl _ _) (fun _ => rfl)
    (AtI w (begX col) s (s + 1 + 1 + 1 + 1) none (.slice A m cap) col) (AtX w (begX col) s (s + 1 + 1 + 1 + 1) none (.slice A m cap) col) (own_atI _ _ _ _ _ _ (by rw [HS.out, Z0.out]; omega) (fun d h => by cases h)) (own_atX _ _ _ _ _ _ (by rw [HS.out, Z0.out]; omega) (fun d h => by cases h))
    ⟨⟨(fun p hp => by cases hp), B0.out⟩, A0.out.below⟩
    (fun x a' W => ∃ Bx, s + 1 + 1 + 1 + 1 < Bx ∧ W.heap[Bx]? = some (.cells #[.slice x.1.2.1.a1 x.1.2.1.n1 x.1.2.1.c1, .slice x.1.2.1.a2 x.1.2.1.n2 x.1.2.1.c2, .int .i64 x.1.2.1.up, .int .i64 x.1.2.1.dn, .int .i64 x.1.2.1.fr, .int .i64 x.1.2.1.en, .bool x.1.2.1.la] 43) ∧ a' = { tmps := #[.slice A m cap, .int .i64 col, undef, .pointer (some ⟨s, 0, none⟩), .pointer (some ⟨s + 1, 0, none⟩), .pointer (some ⟨s + 1 + 1, 0, none⟩), .pointer (some ⟨s + 1 + 1 + 1, 0, none⟩), .int .i64 (x.1.1 : Int), .pointer (some ⟨Bx, 0, none⟩), undef, undef, undef, undef, .slice A m cap, .func (.func 61) #[] #[.pointer (some ⟨s + 1 + 1 + 1 + 1, 0, none⟩)], .int .i64 (x.1.1 : Int), .agg #[.slice x.1.2.1.a1 x.1.2.1.n1 x.1.2.1.c1, .slice x.1.2.1.a2 x.1.2.1.n2 x.1.2.1.c2, .int .i64 x.1.2.1.up, .int .i64 x.1.2.1.dn, .int .i64 x.1.2.1.fr, .int .i64 x.1.2.1.en, .bool x.1.2.1.la], undef, undef, undef, undef, undef, undef, undef, undef, undef, undef, undef, undef, undef, undef, undef, undef, undef, undef, undef, undef, undef, undef, undef, undef, undef, undef, undef, undef, undef, undef, undef, undef, undef, undef, undef, undef, undef, undef, undef], defers := [] })
    (fun x a' b X Y row h hg hr => by
      obtain ⟨Bx, h1, h2, h3⟩ := h
      exact ⟨Bx, h1, own_cells _ _ _ _ b X Y row h2 hg hr, h3⟩) ?assign ?body ?done ?stop
  case assign =>
    rintro l pre x W K ⟨⟨hpre, hB⟩, hlw⟩ hK
    have hsz := own_lt hB.1.1
    have aW := (AnyLater.refl W).alloc (.cells #[.slice x.1.2.1.a1 x.1.2.1.n1 x.1.2.1.c1, .slice x.1.2.1.a2 x.1.2.1.n2 x.1.2.1.c2, .int .i64 x.1.2.1.up, .int .i64 x.1.2.1.dn, .int .i64 x.1.2.1.fr, .int .i64 x.1.2.1.en, .bool x.1.2.1.la] 43)
    simp only [encR]
    gi_wp2
    exact hK _ _ (keeps_any aW) (KpB.any aW hlw.size hsz) ⟨⟨hpre, hB.any aW⟩, ((AnyLater.of hlw).trans aW).below⟩ ⟨W.heap.size, hsz, heap_new rfl, rfl⟩
  case body =>
    rintro l pre x a' W hl - ⟨⟨hpre, hB⟩, hlw⟩ ⟨Bx, hBx, hcx, rfl⟩ hlt
    obtain ⟨hx1, hx2, hx3⟩ := x.2
    obtain ⟨i, hi⟩ : ∃ i, x.1.1 = i := ⟨_, rfl⟩
    obtain ⟨y, hy⟩ : ∃ y, x.1.2.1 = y := ⟨_, rfl⟩
    obtain ⟨q, hq⟩ : ∃ q, x.1.2.2 = q := ⟨_, rfl⟩
    rw [hi] at hx1 ⊢
    rw [hy] at hx2 hcx ⊢
    rw [hq] at hx2 hx3
    have HI := Lib.hid hi
    have HQ := Lib.hid hq
    have HP := Lib.hid hpre
    clear hi hq hy hpre
    obtain ⟨a1, n1, c1, a2, n2, c2, up, dn, fr, en, la⟩ := y
    have HX2 := Lib.hid (hx2.later (AnyLater.of hlw))
    obtain ⟨⟨q1, q2⟩, rfl, rfl, rfl, rfl, rfl⟩ := hx2
    obtain ⟨A', c', e, -⟩ := q1.form
    cases e
    obtain ⟨A2, c2', e, -⟩ := q2.form
    cases e
    dsimp only at hcx HX2 ⊢
    have hB0 := own_row hB.2.1
    have hX0 := own_row hcx
    have HB := Lib.hid hB
    have HCX := Lib.hid hcx
    have HLW := Lib.hid hlw
    clear hB hcx hlw
    rcases begX_cases col q with ⟨e1, e2⟩ | ⟨j, j1, j2, e1, e2⟩
    · have HBG := Lib.hid (fun w2 (a : AnyLater W w2) => begun_any a1 a2 c1 c2 q.cs q.xs q.up q.dn q.fr q.en q.la col w2 (-1) e1 (HX2.out.1.1.later a) hx3)
      have HE2 := Lib.hid e2
      clear q1 q2 e1 e2
      gi_wp2_with (refine ⟨trivial, ?_⟩; gi_at_call 44; refine (CallsIn.inRound l (callsIn_wide.2 (HBG.out _ (AnyLater.refl _)))).mono ?_; rintro e w2 ⟨rfl, b_w2⟩)
      refine ⟨keeps_any b_w2, KpB.any b_w2 HLW.out.size (own_lt HB.out.1.1), ⟨fun p hp => ?_, HB.out.any b_w2⟩, ((AnyLater.of HLW.out).trans b_w2).below⟩
      rcases List.mem_append.1 hp with hp | hp
      · exact HP.out p hp
      · obtain rfl := List.mem_singleton.1 hp
        rw [HQ.out]; exact HE2.out
    · have HBG := Lib.hid (fun w2 (a : AnyLater W w2) => begun_any a1 a2 c1 c2 q.cs q.xs q.up q.dn q.fr q.en q.la col w2 j e1 (HX2.out.1.1.later a) hx3)
      have HE2 := Lib.hid e2
      obtain ⟨b, off, rfl, hb, -⟩ := numAt q2 j j2
      obtain ⟨b', off', eb, hb', d0⟩ := numAt HX2.out.1.2 j j2
      cases eb
      rw [HS.out] at hb
      obtain ⟨z, hz⟩ : ∃ z, q.xs[j] = z := ⟨_, rfl⟩
      rw [hz] at d0 HE2
      clear q1 q2 e1 e2 hz
      gi_wp2_with (refine ⟨trivial, ?_⟩; gi_at_call 44; refine (CallsIn.inRound l (callsIn_wide.2 (HBG.out _ (AnyLater.refl _)))).mono ?_; rintro e w2 ⟨rfl, b_w2⟩)
      have d1 := (b_w2.below.cell hb').trans d0
      have HB2 := Lib.hid (HB.out.any b_w2)
      have x2 := own_row (any_own b_w2 HCX.out)
      have g1 := own_row HB2.out.2.2.1
      have g2 := own_row HB2.out.2.2.2.1
      have g3 := own_row HB2.out.2.2.2.2
      have f1 := own_free HB2.out.2.2.1
      have f2 := own_free HB2.out.2.2.2.1
      have f3 := own_free HB2.out.2.2.2.2
      have i2 : (j : Int) < (q.xs.length : Int) := by omega
      have n1 : Bx ≠ s + 1 := by omega
      have n2 : Bx ≠ s + 1 + 1 := by omega
      have n3 : Bx ≠ s + 1 + 1 + 1 := by omega
      have n4 : b ≠ s + 1 := by omega
      have n5 : b ≠ s + 1 + 1 := by omega
      have n6 : b ≠ s + 1 + 1 + 1 := by omega
      have HLEAF := Lib.hid (AtX.of (D := W0.heap.size) (i := i) HS.out (by omega) (fun d h => by cases h) (by rw [Z0.out]; omega) HP.out (by rw [HQ.out]; exact HE2.out) HI.out HB2.out b_w2 HLW.out)
      clear hX0 hB0 d0
      refine wpIn_region_any (by kernel_rfl) ?_
      refine any_round (by kernel_rfl) _ _ _ w2.drew ?_
      refine wpAnyIn_take (i := 0) (v := .int .i64 (i : Int)) rfl rfl (by kernel_rfl) (by kernel_rfl) (by kernel_rfl) ?_ ?_ ?_
      · exact fun _ _ _ h => h
      · exact ⟨Or.inl ⟨by rfl, fun w => by go_simp⟩, fun _ => rfl⟩
      refine wpAnyIn_take (i := 1) (v := .pointer (some ⟨Bx, 1, none⟩)) rfl rfl (by kernel_rfl) (by kernel_rfl) (by kernel_rfl) ?_ ?_ ?_
      · exact fun _ _ _ h => h
      · exact ⟨Or.inl ⟨by rfl, fun w => by go_simp⟩, fun _ => rfl⟩
      refine wpAnyIn_take (i := 3) (v := .int .i64 (j : Int)) rfl rfl (by kernel_rfl) (by kernel_rfl) (by kernel_rfl) ?_ ?_ ?_
      · exact fun _ _ _ h => h
      · exact ⟨Or.inl ⟨by rfl, fun w => by go_simp⟩, fun _ => rfl⟩
      refine wpAnyIn_ready (rs := [2, 6]) (by kernel_rfl) (by simp) ?_
      refine AllReadyIn.cons rfl (fun K hK => ?_) ?_
      · go_simp
        refine hK _ _ ?_
        clear hK K
        refine wpAnyIn_take (i := 4) (v := .pointer (some ⟨b, off + j, none⟩)) rfl rfl (by kernel_rfl) (by kernel_rfl) (by kernel_rfl) ?_ ?_ ?_
        · exact fun _ _ _ h => h
        · exact ⟨Or.inl ⟨by rfl, fun w => by go_simp⟩, fun _ => rfl⟩
        refine wpAnyIn_ready (rs := [5, 6]) (by kernel_rfl) (by simp) ?_
        refine AllReadyIn.cons rfl (fun K hK => ?_) ?_
        · go_simp
          refine hK _ _ ?_
          clear hK K
          refine wpAnyIn_ready (rs := [6]) (by kernel_rfl) (by simp) ?_
          refine AllReadyIn.cons rfl (fun K hK => ?_) AllReadyIn.nil
          go_simp
          refine hK _ _ ?_
          clear hK K
          refine wpAnyIn_ready (rs := [7]) (by kernel_rfl) (by simp) ?_
          refine AllReadyIn.cons rfl (fun K hK => ?_) AllReadyIn.nil
          go_simp
          refine hK _ _ ?_
          clear hK K
          refine wpAnyIn_ready (rs := [8]) (by kernel_rfl) (by simp) ?_
          refine AllReadyIn.cons rfl (fun K hK => ?_) AllReadyIn.nil
          go_simp
          refine hK _ _ ?_
          clear hK K
          refine wpAnyIn_done (by kernel_rfl) ?_ _
          gi_wp2; exact HLEAF.out
        · refine AllReadyIn.cons rfl (fun K hK => ?_) AllReadyIn.nil
          go_simp
          refine hK _ _ ?_
          clear hK K
          refine wpAnyIn_ready (rs := [5]) (by kernel_rfl) (by simp) ?_
          refine AllReadyIn.cons rfl (fun K hK => ?_) AllReadyIn.nil
          go_simp
          refine hK _ _ ?_
          clear hK K
          refine wpAnyIn_ready (rs := [7]) (by kernel_rfl) (by simp) ?_
          refine AllReadyIn.cons rfl (fun K hK => ?_) AllReadyIn.nil
          go_simp
          refine hK _ _ ?_
          clear hK K
          refine wpAnyIn_ready (rs := [8]) (by kernel_rfl) (by simp) ?_
          refine AllReadyIn.cons rfl (fun K hK => ?_) AllReadyIn.nil
          go_simp
          refine hK _ _ ?_
          clear hK K
          refine wpAnyIn_done (by kernel_rfl) ?_ _
          gi_wp2; exact HLEAF.out
      · refine AllReadyIn.cons rfl (fun K hK => ?_) AllReadyIn.nil
        go_simp
        refine hK _ _ ?_
        clear hK K
        refine wpAnyIn_ready (rs := [2]) (by kernel_rfl) (by simp) ?_
        refine AllReadyIn.cons rfl (fun K hK => ?_) AllReadyIn.nil
        go_simp
        refine hK _ _ ?_
        clear hK K
        refine wpAnyIn_take (i := 4) (v := .pointer (some ⟨b, off + j, none⟩)) rfl rfl (by kernel_rfl) (by kernel_rfl) (by kernel_rfl) ?_ ?_ ?_
        · exact fun _ _ _ h => h
        · exact ⟨Or.inl ⟨by rfl, fun w => by go_simp⟩, fun _ => rfl⟩
        refine wpAnyIn_ready (rs := [5]) (by kernel_rfl) (by simp) ?_
        refine AllReadyIn.cons rfl (fun K hK => ?_) AllReadyIn.nil
        go_simp
        refine hK _ _ ?_
        clear hK K
        refine wpAnyIn_ready (rs := [7]) (by kernel_rfl) (by simp) ?_
        refine AllReadyIn.cons rfl (fun K hK => ?_) AllReadyIn.nil
        go_simp
        refine hK _ _ ?_
        clear hK K
        refine wpAnyIn_ready (rs := [8]) (by kernel_rfl) (by simp) ?_
        refine AllReadyIn.cons rfl (fun K hK => ?_) AllReadyIn.nil
        go_simp
        refine hK _ _ ?_
        clear hK K
        refine wpAnyIn_done (by kernel_rfl) ?_ _
        gi_wp2; exact HLEAF.out
  case done =>
    rintro D1 ys W1 hD1 rfl ⟨⟨hall, hB⟩, hlw⟩ hK1
    have hr := HR.out
    unfold atL at hr
    rw [lastX_over (begX col) L el m HM.out HE2.out hall] at hr
    have HR2 := Lib.hid hr
    have d1 : D1 < W1.heap.size := (Array.getElem?_eq_some_iff.1 hK1).1
    rw [Z0.out] at hD1
    have HB := Lib.hid hB
    have HLW := Lib.hid hlw
    have HK1 := Lib.hid hK1
    clear hr hall hB hlw hK1
    gi_wp2_with (refine ⟨trivial, ?_⟩; gi_at_call 43; refine (callsIn_wide.2 (back_any _ _ _ _)).mono ?_; rintro e w' ⟨rfl, rfl⟩)
    obtain ⟨t, ht⟩ : ∃ t, W1.heap.size = t := ⟨_, rfl⟩
    obtain ⟨W2, hW2⟩ : ∃ W2, W1.alloc (.cells #[.slice A m cap] 29) = W2 := ⟨_, rfl⟩
    have a2 : AnyLater W1 W2 := by rw [← hW2]; exact (AnyLater.refl W1).alloc _
    have z2 : W2.heap.size = t + 1 := by rw [← hW2]; simp [ht]
    have c2 : W2.heap[t]? = some (.cells #[.slice A m cap] 29) := by rw [← hW2, ← ht]; exact heap_new rfl
    have b2 : AtB s t (some D1) (.slice A m cap) col 0 0 false W2 := by
      have h := HB.out.any a2
      exact ⟨⟨c2, fun d hd => by cases hd; exact (a2.below.block D1 d1).trans HK1.out⟩, h.2⟩
    have l2 := (AnyLater.of HLW.out).trans a2
    rw [hW2]
    rw [ht] at d1 ⊢
    have A2 := Lib.hid l2
    have B2 := Lib.hid b2
    have C2 := Lib.hid c2
    have Z2 := Lib.hid z2
    have hst : s + 1 + 1 + 1 < t := by omega
    have hst1 : ∀ d, some D1 = some d → s + 1 + 1 + 1 < d := fun d h => by cases h; omega
    have hdt : ∀ d, some D1 = some d → d < W2.heap.size := fun d h => by cases h; rw [Z2.out]; omega
    have HST := Lib.hid (And.intro hst1 hdt)
    clear hW2 a2 b2 c2 z2 l2 ht hst1 hdt
    refine wpIn_rangeFunc_ownH rfl (by decide) (gf := 61) (lb := #[.pointer (some ⟨t, 0, none⟩)]) rfl trivial back_enters
      (back_stops encR el _ (by decide) t A cap m lv w W2 H1.out.2 (by omega) H1.out.1 (fun j h => by unfold encR; rw [(HE1.out j h).1, (HE1.out j h).2]) A2.out (by rw [own_row C2.out]; rfl)) (fun h k => h.trans k) (KpB.turn (by rw [HS.out, Z2.out]; omega) (by rw [Z2.out]; omega)) (Below.refl _ _) (fun _ => rfl)
      (AtI w (endX col) s t (some D1) (.slice A m cap) col) (AtX w (endX col) s t (some D1) (.slice A m cap) col) (own_atI _ _ _ _ _ _ (by rw [HS.out, Z2.out]; omega) HST.out.2) (own_atX _ _ _ _ _ _ (by rw [HS.out, Z2.out]; omega) HST.out.2)
      ⟨⟨(fun p hp => by cases hp), B2.out⟩, A2.out.below⟩
      (fun x a' W => ∃ Bx, t < Bx ∧ W.heap[Bx]? = some (.cells #[.slice x.1.2.1.a1 x.1.2.1.n1 x.1.2.1.c1, .slice x.1.2.1.a2 x.1.2.1.n2 x.1.2.1.c2, .int .i64 x.1.2.1.up, .int .i64 x.1.2.1.dn, .int .i64 x.1.2.1.fr, .int .i64 x.1.2.1.en, .bool x.1.2.1.la] 43) ∧ a' = { tmps := #[.slice A m cap, .int .i64 col, undef, .pointer (some ⟨s, 0, none⟩), .pointer (some ⟨s + 1, 0, none⟩), .pointer (some ⟨s + 1 + 1, 0, none⟩), .pointer (some ⟨s + 1 + 1 + 1, 0, none⟩), undef, undef, undef, .int .i64 (x.1.1 : Int), .pointer (some ⟨Bx, 0, none⟩), undef, .slice A m cap, .func (.func 61) #[] #[.pointer (some ⟨s + 1 + 1 + 1 + 1, 0, none⟩)], undef, undef, undef, undef, undef, undef, undef, undef, undef, undef, undef, undef, undef, .slice A m cap, .func (.func 61) #[] #[.pointer (some ⟨t, 0, none⟩)], .int .i64 (x.1.1 : Int), .agg #[.slice x.1.2.1.a1 x.1.2.1.n1 x.1.2.1.c1, .slice x.1.2.1.a2 x.1.2.1.n2 x.1.2.1.c2, .int .i64 x.1.2.1.up, .int .i64 x.1.2.1.dn, .int .i64 x.1.2.1.fr, .int .i64 x.1.2.1.en, .bool x.1.2.1.la], undef, undef, undef, undef, undef, undef, undef, undef, undef, undef, undef, undef, undef, undef, undef, undef, undef, undef, undef, undef, undef, undef, undef, undef], defers := [] })
      (fun x a' b X Y row h hg hr => by
        obtain ⟨Bx, h1, h2, h3⟩ := h
        exact ⟨Bx, h1, own_cells _ _ _ _ b X Y row h2 hg hr, h3⟩) ?assign2 ?body2 ?done2 ?stop2
    case assign2 =>
      rintro l pre x W K ⟨⟨hpre, hB⟩, hlw⟩ hK
      have hsz := own_lt hB.1.1
      have aW := (AnyLater.refl W).alloc (.cells #[.slice x.1.2.1.a1 x.1.2.1.n1 x.1.2.1.c1, .slice x.1.2.1.a2 x.1.2.1.n2 x.1.2.1.c2, .int .i64 x.1.2.1.up, .int .i64 x.1.2.1.dn, .int .i64 x.1.2.1.fr, .int .i64 x.1.2.1.en, .bool x.1.2.1.la] 43)
      simp only [encR]
      gi_wp2
      exact hK _ _ (keeps_any aW) (KpB.any aW hlw.size hsz) ⟨⟨hpre, hB.any aW⟩, ((AnyLater.of hlw).trans aW).below⟩ ⟨W.heap.size, hsz, heap_new rfl, rfl⟩
    case body2 =>
      rintro l pre x a' W hl - ⟨⟨hpre, hB⟩, hlw⟩ ⟨Bx, hBx, hcx, rfl⟩ hlt
      obtain ⟨hx1, hx2, hx3⟩ := x.2
      obtain ⟨i, hi⟩ : ∃ i, x.1.1 = i := ⟨_, rfl⟩
      obtain ⟨y, hy⟩ : ∃ y, x.1.2.1 = y := ⟨_, rfl⟩
      obtain ⟨q, hq⟩ : ∃ q, x.1.2.2 = q := ⟨_, rfl⟩
      rw [hi] at hx1 ⊢
      rw [hy] at hx2 hcx ⊢
      rw [hq] at hx2 hx3
      have HI := Lib.hid hi
      have HQ := Lib.hid hq
      have HP := Lib.hid hpre
      clear hi hq hy hpre
      obtain ⟨a1, n1, c1, a2, n2, c2, up, dn, fr, en, la⟩ := y
      have HX2 := Lib.hid (hx2.later (AnyLater.of hlw))
      obtain ⟨⟨q1, q2⟩, rfl, rfl, rfl, rfl, rfl⟩ := hx2
      obtain ⟨A', c', e, -⟩ := q1.form
      cases e
      obtain ⟨A2, c2', e, -⟩ := q2.form
      cases e
      dsimp only at hcx HX2 ⊢
      have hB0 := own_row hB.2.1
      have hX0 := own_row hcx
      have HB := Lib.hid hB
      have HCX := Lib.hid hcx
      have HLW := Lib.hid hlw
      have hEC := endX_cases col q
      have HLEAF0 := Lib.hid (fun (h : endX col q = none) (a : Act) => show ownPostG W2.heap.size (KpB w.heap.size t) (AtI w (endX col) s t (some D1) (.slice A m cap) col) (AtX w (endX col) s t (some D1) (.slice A m cap) col) (pre ++ [x]) W .normal a W from
        ⟨KeepsFrom.refl _ _, KpB.refl _ _ _, ⟨fun p hp => by
          rcases List.mem_append.1 hp with hp | hp
          · exact HP.out p hp
          · obtain rfl := List.mem_singleton.1 hp
            rw [HQ.out]; exact h, HB.out⟩, HLW.out⟩)
      clear hB hcx hlw
      obtain ⟨j, hj⟩ : ∃ j, q.cs.length = j := ⟨_, rfl⟩
      rcases hEC with ⟨e2, e1⟩ | ⟨j2, e1, e3, e2⟩
      · have HL0 := Lib.hid (HLEAF0.out e2)
        clear q1 q2 e2 HLEAF0
        rw [hj] at hX0 e1 ⊢
        clear hj
        rcases e1 with e1 | ⟨e1, e3⟩ | ⟨e1, e3, e4⟩
        all_goals
          gi_wp2
          exact HL0.out _
      · obtain ⟨b, off, rfl, hb, -⟩ := numAt q2 q.cs.length j2
        obtain ⟨b', off', eb, hb', d0⟩ := numAt HX2.out.1.2 q.cs.length j2
        cases eb
        rw [HS.out] at hb
        obtain ⟨z, hz⟩ : ∃ z, q.xs[q.cs.length] = z := ⟨_, rfl⟩
        rw [hz] at d0 e2
        have HE2 := Lib.hid e2
        clear q1 q2 e2 hz HLEAF0
        rw [hj] at hX0 d0 j2 ⊢
        have d1 : decide (j < q.xs.length) = true := decide_eq_true j2
        clear hj
        gi_wp2
        have g0 := own_row HCX.out
        have g1 := own_row HB.out.2.2.1
        have g2 := own_row HB.out.2.2.2.1
        have g3 := own_row HB.out.2.2.2.2
        have f1 := own_free HB.out.2.2.1
        have f2 := own_free HB.out.2.2.2.1
        have f3 := own_free HB.out.2.2.2.2
        have i2 : (j : Int) < (q.xs.length : Int) := by omega
        have n1 : Bx ≠ s + 1 := by omega
        have n2 : Bx ≠ s + 1 + 1 := by omega
        have n3 : Bx ≠ s + 1 + 1 + 1 := by omega
        have n4 : b ≠ s + 1 := by omega
        have n5 : b ≠ s + 1 + 1 := by omega
        have n6 : b ≠ s + 1 + 1 + 1 := by omega
        have HLEAF := Lib.hid (AtX.of (D := W2.heap.size) (i := i) HS.out hst HST.out.1 (by rw [Z2.out]; omega) HP.out (by rw [HQ.out]; exact HE2.out) HI.out HB.out (AnyLater.refl W) HLW.out)
        clear hX0 hB0
        refine wpIn_region_any (by kernel_rfl) ?_
        refine any_round (by kernel_rfl) _ _ _ W.drew ?_
        refine wpAnyIn_take (i := 0) (v := .int .i64 (i : Int)) rfl rfl (by kernel_rfl) (by kernel_rfl) (by kernel_rfl) ?_ ?_ ?_
        · exact fun _ _ _ h => h
        · exact ⟨Or.inl ⟨by rfl, fun w => by go_simp⟩, fun _ => rfl⟩
        refine wpAnyIn_take (i := 1) (v := .pointer (some ⟨Bx, 1, none⟩)) rfl rfl (by kernel_rfl) (by kernel_rfl) (by kernel_rfl) ?_ ?_ ?_
        · exact fun _ _ _ h => h
        · exact ⟨Or.inl ⟨by rfl, fun w => by go_simp⟩, fun _ => rfl⟩
        refine wpAnyIn_take (i := 3) (v := .int .i64 (j : Int)) rfl rfl (by kernel_rfl) (by kernel_rfl) (by kernel_rfl) ?_ ?_ ?_
        · exact fun _ _ _ h => h
        · exact ⟨Or.inl ⟨by rfl, fun w => by go_simp⟩, fun _ => rfl⟩
        refine wpAnyIn_ready (rs := [2, 6]) (by kernel_rfl) (by simp) ?_
        refine AllReadyIn.cons rfl (fun K hK => ?_) ?_
        · go_simp
          refine hK _ _ ?_
          clear hK K
          refine wpAnyIn_take (i := 4) (v := .pointer (some ⟨b, off + j, none⟩)) rfl rfl (by kernel_rfl) (by kernel_rfl) (by kernel_rfl) ?_ ?_ ?_
          · exact fun _ _ _ h => h
          · exact ⟨Or.inl ⟨by rfl, fun w => by go_simp⟩, fun _ => rfl⟩
          refine wpAnyIn_ready (rs := [5, 6]) (by kernel_rfl) (by simp) ?_
          refine AllReadyIn.cons rfl (fun K hK => ?_) ?_
          · go_simp
            refine hK _ _ ?_
            clear hK K
            refine wpAnyIn_ready (rs := [6]) (by kernel_rfl) (by simp) ?_
            refine AllReadyIn.cons rfl (fun K hK => ?_) AllReadyIn.nil
            go_simp
            refine hK _ _ ?_
            clear hK K
            refine wpAnyIn_ready (rs := [7]) (by kernel_rfl) (by simp) ?_
            refine AllReadyIn.cons rfl (fun K hK => ?_) AllReadyIn.nil
            go_simp
            refine hK _ _ ?_
            clear hK K
            refine wpAnyIn_ready (rs := [8]) (by kernel_rfl) (by simp) ?_
            refine AllReadyIn.cons rfl (fun K hK => ?_) AllReadyIn.nil
            go_simp
            refine hK _ _ ?_
            clear hK K
            refine wpAnyIn_done (by kernel_rfl) ?_ _
            gi_wp2; exact HLEAF.out
          · refine AllReadyIn.cons rfl (fun K hK => ?_) AllReadyIn.nil
            go_simp
            refine hK _ _ ?_
            clear hK K
            refine wpAnyIn_ready (rs := [5]) (by kernel_rfl) (by simp) ?_
            refine AllReadyIn.cons rfl (fun K hK => ?_) AllReadyIn.nil
            go_simp
            refine hK _ _ ?_
            clear hK K
            refine wpAnyIn_ready (rs := [7]) (by kernel_rfl) (by simp) ?_
            refine AllReadyIn.cons rfl (fun K hK => ?_) AllReadyIn.nil
            go_simp
            refine hK _ _ ?_
            clear hK K
            refine wpAnyIn_ready (rs := [8]) (by kernel_rfl) (by simp) ?_
            refine AllReadyIn.cons rfl (fun K hK => ?_) AllReadyIn.nil
            go_simp
            refine hK _ _ ?_
            clear hK K
            refine wpAnyIn_done (by kernel_rfl) ?_ _
            gi_wp2; exact HLEAF.out
        · refine AllReadyIn.cons rfl (fun K hK => ?_) AllReadyIn.nil
          go_simp
          refine hK _ _ ?_
          clear hK K
          refine wpAnyIn_ready (rs := [2]) (by kernel_rfl) (by simp) ?_
          refine AllReadyIn.cons rfl (fun K hK => ?_) AllReadyIn.nil
          go_simp
          refine hK _ _ ?_
          clear hK K
          refine wpAnyIn_take (i := 4) (v := .pointer (some ⟨b, off + j, none⟩)) rfl rfl (by kernel_rfl) (by kernel_rfl) (by kernel_rfl) ?_ ?_ ?_
          · exact fun _ _ _ h => h
          · exact ⟨Or.inl ⟨by rfl, fun w => by go_simp⟩, fun _ => rfl⟩
          refine wpAnyIn_ready (rs := [5]) (by kernel_rfl) (by simp) ?_
          refine AllReadyIn.cons rfl (fun K hK => ?_) AllReadyIn.nil
          go_simp
          refine hK _ _ ?_
          clear hK K
          refine wpAnyIn_ready (rs := [7]) (by kernel_rfl) (by simp) ?_
          refine AllReadyIn.cons rfl (fun K hK => ?_) AllReadyIn.nil
          go_simp
          refine hK _ _ ?_
          clear hK K
          refine wpAnyIn_ready (rs := [8]) (by kernel_rfl) (by simp) ?_
          refine AllReadyIn.cons rfl (fun K hK => ?_) AllReadyIn.nil
          go_simp
          refine hK _ _ ?_
          clear hK K
          refine wpAnyIn_done (by kernel_rfl) ?_ _
          gi_wp2; exact HLEAF.out
    case done2 =>
      rintro D2 ys W3 hD2 rfl ⟨⟨hall, hB⟩, hlw⟩ hK2
      have hr := HR2.out
      rw [lastX_over (endX col) L el m HM.out HE2.out hall] at hr
      obtain ⟨rfl, hr2⟩ := Prod.mk.inj hr
      obtain ⟨rfl, rfl⟩ := Prod.mk.inj hr2
      rw [Z2.out] at hD2
      have hB3 := Lib.hid (AtB.put hB hst HST.out.1 0 0 false)
      have hK3 : (((W3.setCell ⟨s + 1, 0, none⟩ (.int .i64 0)).setCell ⟨s + 1 + 1, 0, none⟩ (.int .i64 0)).setCell ⟨s + 1 + 1 + 1, 0, none⟩ (.bool false)).heap[D2]? = some (.deferred (some [])) := by
        rw [Below.heap_setCell _ _ _ D2 (by dsimp only; omega), Below.heap_setCell _ _ _ D2 (by dsimp only; omega), Below.heap_setCell _ _ _ D2 (by dsimp only; omega)]
        exact hK2
      have hl3 := Lib.hid (((hlw.setCell (p := ⟨s + 1, 0, none⟩) (by rw [HS.out]; dsimp only; omega) (.int .i64 0)).setCell (p := ⟨s + 1 + 1, 0, none⟩) (by rw [HS.out]; dsimp only; omega) (.int .i64 0)).setCell (p := ⟨s + 1 + 1 + 1, 0, none⟩) (by rw [HS.out]; dsimp only; omega) (.bool false))
      have HK3 := Lib.hid hK3
      have g1 := own_row hB.2.2.1
      have g2 := own_row hB.2.2.2.1
      have g3 := own_row hB.2.2.2.2
      have f1 := own_free hB.2.2.1
      have f2 := own_free hB.2.2.2.1
      have f3 := own_free hB.2.2.2.2
      clear hK3 hK2 hall hlw hr hB
      gi_wp2
      refine ⟨by simp, .inl ⟨_, _, rfl, run_takeDeferred HK3.out, ?_⟩⟩
      have hB4 := (own_atB (β := Unit) (D := W2.heap.size) _ _ HST.out.2 _ _ _ _ _ () _ _ (some D2) hB3.out (grownBy_putObj' _ D2 (.deferred none)) (fun r e => by cases e; exact ⟨by rw [Z2.out]; exact hD2, _, HK3.out, rfl⟩))
      have hK1 := hB4.1.2 D1 rfl
      have hl4 := hl3.out.trans (belowK_b (w := w) (Nat.le_refl _) _ D2 _ (.deferred none) (by rw [HS.out]; omega) HK3.out rfl rfl)
      refine ⟨by simp, .inl ⟨_, _, rfl, run_takeDeferred hK1, ?_⟩⟩
      have hB5 := (own_atB (β := Unit) (D := D1) _ _ (fun d h => by cases h) _ _ _ _ _ () _ _ (some D1) hB4.none (grownBy_putObj' _ D1 (.deferred none)) (fun r e => by cases e; exact ⟨Nat.le_refl _, _, hK1, rfl⟩))
      have c4 := own_row hB5.2.2.1 0
      have c5 := own_row hB5.2.2.2.1 0
      have c6 := own_row hB5.2.2.2.2 0
      refine ⟨.tuple #[.int .i64 0, .int .i64 0, .bool false], by simp [results, Tryd.results25, go_sem, c4, c5, c6], rfl, .of (hl4.trans (belowK_b (w := w) (Nat.le_refl _) _ D1 _ _ (by rw [HS.out]; omega) hK1 rfl rfl))⟩
    case stop2 =>
      rintro D2 c pre W3 hD2 ⟨k, hk, rfl⟩ ⟨⟨rfl, ini, last, x, e1, e2, e3, hB⟩, hlw⟩ hK2
      have hr := HR2.out
      rw [lastX_found (endX col) L el m HM.out HE2.out hk e1 e2 e3] at hr
      obtain ⟨rfl, hr2⟩ := Prod.mk.inj hr
      obtain ⟨rfl, rfl⟩ := Prod.mk.inj hr2
      rw [Z2.out] at hD2
      gi_wp2
      refine ⟨by simp, .inl ⟨_, _, rfl, run_takeDeferred hK2, ?_⟩⟩
      have hB4 := (own_atB (β := Unit) (D := W2.heap.size) _ _ HST.out.2 _ _ _ _ _ () _ _ (some D2) hB (grownBy_putObj' _ D2 (.deferred none)) (fun r e => by cases e; exact ⟨by rw [Z2.out]; exact hD2, _, hK2, rfl⟩))
      have hK1 := hB4.1.2 D1 rfl
      have hl4 := hlw.trans (belowK_b (w := w) (Nat.le_refl _) _ D2 _ (.deferred none) (by rw [HS.out]; omega) hK2 rfl rfl)
      refine ⟨by simp, .inl ⟨_, _, rfl, run_takeDeferred hK1, ?_⟩⟩
      have hB5 := (own_atB (β := Unit) (D := D1) _ _ (fun d h => by cases h) _ _ _ _ _ () _ _ (some D1) hB4.none (grownBy_putObj' _ D1 (.deferred none)) (fun r e => by cases e; exact ⟨Nat.le_refl _, _, hK1, rfl⟩))
      have c4 := own_row hB5.2.2.1 0
      have c5 := own_row hB5.2.2.2.1 0
      have c6 := own_row hB5.2.2.2.2 0
      refine ⟨.tuple #[.int .i64 (last.1.1 : Int), .int .i64 x, .bool true], by simp [results, Tryd.results25, go_sem, c4, c5, c6], rfl, .of (hl4.trans (belowK_b (w := w) (Nat.le_refl _) _ D1 _ _ (by rw [HS.out]; omega) hK1 rfl rfl))⟩
  case stop =>
    rintro D c pre W hD ⟨k, hk, rfl⟩ ⟨⟨rfl, ini, last, x, e1, e2, e3, hB⟩, hlw⟩ hK
    have hr := HR.out
    unfold atL at hr
    rw [lastX_found (begX col) L el m HM.out HE2.out hk e1 e2 e3] at hr
    obtain ⟨rfl, hr2⟩ := Prod.mk.inj hr
    obtain ⟨rfl, rfl⟩ := Prod.mk.inj hr2
    gi_wp2
    refine ⟨by simp, .inl ⟨_, _, rfl, run_takeDeferred hK, ?_⟩⟩
    have hB' := own_atB (β := Unit) (D := W0.heap.size) _ _ (fun d h => by cases h) _ _ _ _ _ () W _ (some D) hB (grownBy_putObj' W D (.deferred none)) (fun r e => by cases e; exact ⟨hD, _, hK, rfl⟩)
    have c4 := own_row hB'.2.2.1 0
    have c5 := own_row hB'.2.2.2.1 0
    have c6 := own_row hB'.2.2.2.2 0
    refine ⟨.tuple #[.int .i64 (last.1.1 : Int), .int .i64 x, .bool true], by simp [results, Tryd.results25, go_sem, c4, c5, c6], rfl, .of (hlw.trans (belowK_b (w := w) (Nat.le_refl _) W D _ _ (by rw [HS.out]; rw [Z0.out] at hD; omega) hK rfl rfl))⟩
end Go.Proofs.YteplnejnhgmfiaaDoor
