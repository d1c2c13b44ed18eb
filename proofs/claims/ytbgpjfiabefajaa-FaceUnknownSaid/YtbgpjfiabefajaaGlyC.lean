/- glyph: what the program's functions are to tell; lives. -/
import Derived.Test.YtbgpjfiabefajaaGlyB
import Derived.Test.YtbgpjfiabefajaaFrameF
namespace Go.Proofs.Ytbgpjfiabefajaa
set_option linter.unusedSimpArgs false
set_option linter.unusedVariables false
set_option linter.unusedSectionVars false
open Go.RowKit

def cX (g : GM) (y : Nat) : Nat → Int
  | 0 => 0
  | x + 1 => cX g y x + if hasB g x y = true then 1 else 0
def cY (g : GM) : Nat → Int
  | 0 => 0
  | y + 1 => cY g y + cX g y g.w.toNat
def countG (g : GM) : Int := if goodG g = true then cY g g.rows.length else 0
theorem cX_in (g : GM) (y : Nat) : ∀ x, 0 ≤ cX g y x ∧ cX g y x ≤ (x : Int)
  | 0 => by simp [cX]
  | x + 1 => by
    have := cX_in g y x
    unfold cX
    split <;> omega
theorem cY_in (g : GM) (hw : g.w.toNat ≤ 32) : ∀ y, 0 ≤ cY g y ∧ cY g y ≤ 32 * (y : Int)
  | 0 => by simp [cY]
  | y + 1 => by
    have h1 := cY_in g hw y
    have h2 := cX_in g y g.w.toNat
    unfold cY
    omega
/-- a slice that reads as these bytes -/
def RY (w : World) (v : Value) (l : List Int) : Prop := ∃ (A : Option Addr) (cap : Nat), v = .slice A l.length cap ∧ l.length ≤ cap ∧ (0 < l.length → ∃ b off, A = some ⟨b, off, none⟩ ∧ b < w.heap.size ∧ ∀ (j : Nat) (h : j < l.length), w.cell? ⟨b, off + j, none⟩ = some (.int .u8 l[j]))
theorem RY.later {w w' : World} {v : Value} {l : List Int} (h : RY w v l) (ha : AnyLater w w') : RY w' v l := by
  obtain ⟨A, cap, h1, h2, h3⟩ := h
  refine ⟨A, cap, h1, h2, fun h0 => ?_⟩
  obtain ⟨b, off, e, hb, hc⟩ := h3 h0
  exact ⟨b, off, e, Nat.lt_of_lt_of_le hb ha.below.size, fun j hj => (ha.below.cell hb).trans (hc j hj)⟩
def noneG (b : GM) : Prop := b.w = 0 ∧ b.h = 0 ∧ b.rows = []
structure BoldP (g b : GM) : Prop where
  ok : b.Ok
  yes : goodG g = true → g.w ≤ 31 → b.w = g.w + 1 ∧ b.h = g.h ∧ goodG b = true ∧ ∀ x y : Int, hasB b x y = (hasB g x y || (decide (0 < x) && hasB g (x - 1) y))
  no : ¬ (goodG g = true ∧ g.w ≤ 31) → noneG b
structure LargeP (g b : GM) : Prop where
  ok : b.Ok
  yes : goodG g = true → g.w ≤ 16 → g.h ≤ 16 → b.w = 2 * g.w ∧ b.h = 2 * g.h ∧ goodG b = true ∧ ∀ x y : Int, hasB b x y = (decide (0 ≤ x ∧ 0 ≤ y) && hasB g (x / 2) (y / 2))
  no : ¬ (goodG g = true ∧ g.w ≤ 16 ∧ g.h ≤ 16) → noneG b
structure WideP (g : GM) (m k : Int) (b : GM) : Prop where
  ok : b.Ok
  yes : goodG g = true → 0 ≤ m → m ≤ 32 → 0 ≤ k → k ≤ 32 → b.w = m ∧ b.h = k ∧ goodG b = true ∧ ∀ x y : Int, hasB b x y = (decide (x < m ∧ y < k) && hasB g x y)
  no : ¬ (goodG g = true ∧ 0 ≤ m ∧ m ≤ 32 ∧ 0 ≤ k ∧ k ≤ 32) → noneG b
structure OfP (l : List Int) (o : GM) : Prop where
  ok : o.Ok
  good : goodG o = true
  w : o.w = ((min l.length 32 : Nat) : Int)
  h : o.h = 8
  bit : ∀ x y : Nat, x < min l.length 32 → y < 8 → hasB o x y = bitZ (l.getD x 0) y
def IsP (p : GM → Prop) (u : Value) (w : World) : Prop := ∃ b, IsG b u w ∧ p b
theorem IsP.later {p : GM → Prop} {u : Value} {w w' : World} (ha : AnyLater w w') (h : IsP p u w) : IsP p u w' := by
  obtain ⟨b, h1, h2⟩ := h
  exact ⟨b, h1.later ha, h2⟩
theorem IsP.nob {p : GM → Prop} (u : Value) (w : World) (h : IsP p u w) : vblk u = none := by
  obtain ⟨b, h1, _⟩ := h
  exact h1.nob
/-- what a call is to tell: a value of which this is known -/
abbrev Shows (f : FuncId) (args : Array Value) (w : World) (is : Value → World → Prop) : Prop := Calls Try.prog f args w fun e w' => ∃ u, e = .returned u ∧ AnyLater w w' ∧ is u w'
/-- what the program's functions are to tell of glyphs -/
structure GSays : Prop where
  good : ∀ {g : GM} {v : Value} {w : World} (c : Bool), goodG g = c → IsG g v w → g.Ok → g.rows.length ≤ 40 → Calls Try.prog 27 #[v] w fun e w' => e = .returned (.bool c) ∧ AnyLater w w'
  bit : ∀ {g : GM} {v : Value} {w : World} (x y : Int) (c : Bool), (goodG g && hasB g x y) = c → IsG g v w → g.Ok → g.rows.length ≤ 40 → I64 x → I64 y → Calls Try.prog 28 #[v, .int .i64 x, .int .i64 y] w fun e w' => e = .returned (.bool c) ∧ AnyLater w w'
  count : ∀ {g : GM} {v : Value} {w : World} (n : Int), countG g = n → IsG g v w → g.Ok → g.rows.length ≤ 40 → Calls Try.prog 29 #[v] w fun e w' => e = .returned (.int .i64 n) ∧ AnyLater w w'
  bold : ∀ {g : GM} {v : Value} {w : World}, IsG g v w → g.Ok → g.rows.length ≤ 40 → Shows 33 #[v] w (IsP (BoldP g))
  large : ∀ {g : GM} {v : Value} {w : World}, IsG g v w → g.Ok → g.rows.length ≤ 40 → Shows 34 #[v] w (IsP (LargeP g))
  wide : ∀ {g : GM} {v : Value} {w : World} (m k : Int), IsG g v w → g.Ok → g.rows.length ≤ 40 → I64 m → I64 k → Shows 37 #[v, .int .i64 m, .int .i64 k] w (IsP (WideP g m k))
  of : ∀ {v : Value} {l : List Int} {w : World}, RY w v l → (∀ c ∈ l, 0 ≤ c ∧ c ≤ 255) → l.length ≤ 40 → Shows 38 #[v] w (IsP (OfP l))

/-! ### lives -/
theorem of_two {o : GM} (h : OfP [1, 2] o) : o.w = 2 ∧ o.h = 8 ∧ hasB o 0 0 = true ∧ hasB o 1 1 = true ∧ countG o = 2 := by
  have hb := h.bit
  simp only [List.length_cons, List.length_nil, Nat.zero_add, Nat.reduceAdd, Nat.reduceLeDiff, Nat.min_eq_left] at hb
  have hw : o.w = 2 := h.w
  obtain ⟨g1, g2, g3, g4, g5, g6⟩ := goodG_in h.good
  have hl : o.rows.length = 8 := by have := h.h; omega
  refine ⟨hw, h.h, (hb 0 0 (by decide) (by decide)).trans (by decide), (hb 1 1 (by decide) (by decide)).trans (by decide), ?_⟩
  unfold countG
  rw [if_pos h.good, hl]
  have hwn : o.w.toNat = 2 := by rw [hw]; rfl
  have row : ∀ y : Nat, y < 8 → cX o y 2 = (if bitZ 1 y = true then 1 else 0) + if bitZ 2 y = true then 1 else 0 := fun y hy => by
    have h0 := hb 0 y (by decide) hy
    have h1 := hb 1 y (by decide) hy
    simp only [cX, h0, h1]
    simp
  simp only [cY, hwn]
  rw [row 0 (by decide), row 1 (by decide), row 2 (by decide), row 3 (by decide), row 4 (by decide), row 5 (by decide), row 6 (by decide), row 7 (by decide)]
  decide
set_option maxRecDepth 100000 in
set_option maxHeartbeats 3200000 in
theorem glives_any (G : GSays) (w : World) : Calls Try.prog 30 #[] w fun e w' => e = .returned (.bool true) ∧ AnyLater w w' := by
  have HG := Lib.hid G
  clear G
  go_enter Try.func30, Try.ntmps30
  go_wp2_with fail
  refine (HG.out.of (l := [1, 2]) (w := _) (v := _) ?_ (by decide) (by decide)).mono ?_
  · refine ⟨some ⟨w.heap.size, 0, none⟩, 2, rfl, by decide, fun _ => ⟨w.heap.size, 0, rfl, by simp, fun j hj => ?_⟩⟩
    rw [own_row (heap_new rfl)]
    have hj2 : j = 0 ∨ j = 1 := by simp at hj; omega
    rcases hj2 with rfl | rfl <;> rfl
  rintro e w1 ⟨u, rfl, b1, o, ho, hp⟩
  have b1' := ((AnyLater.refl w).alloc _).trans b1
  obtain ⟨t1, t2, t3, t4, t5⟩ := of_two hp
  obtain ⟨g1, g2, g3, g4, g5, g6⟩ := goodG_in hp.good
  have hl : o.rows.length ≤ 40 := by omega
  have HO := Lib.hid ho
  have H1 : Hid (∀ w', AnyLater w1 w' → Calls Try.prog 27 #[u] w' fun e w'' => e = .returned (.bool true) ∧ AnyLater w' w'') := Lib.hid (fun w' ha => HG.out.good true hp.good (ho.later ha) hp.ok hl)
  have H2 : Hid (∀ w', AnyLater w1 w' → Calls Try.prog 28 #[u, .int .i64 0, .int .i64 0] w' fun e w'' => e = .returned (.bool true) ∧ AnyLater w' w'') := Lib.hid (fun w' ha => HG.out.bit 0 0 true (by rw [hp.good, t3]; rfl) (ho.later ha) hp.ok hl (by unfold I64; omega) (by unfold I64; omega))
  have H3 : Hid (∀ w', AnyLater w1 w' → Calls Try.prog 28 #[u, .int .i64 1, .int .i64 1] w' fun e w'' => e = .returned (.bool true) ∧ AnyLater w' w'') := Lib.hid (fun w' ha => HG.out.bit 1 1 true (by rw [hp.good, t4]; rfl) (ho.later ha) hp.ok hl (by unfold I64; omega) (by unfold I64; omega))
  have H4 : Hid (∀ w', AnyLater w1 w' → Calls Try.prog 29 #[u] w' fun e w'' => e = .returned (.int .i64 2) ∧ AnyLater w' w'') := Lib.hid (fun w' ha => HG.out.count 2 t5 (ho.later ha) hp.ok hl)
  obtain ⟨A, n, cap, rfl, _⟩ := ho.form
  rw [t1, t2] at H1 H2 H3 H4 ⊢
  clear ho t1 t2 t3 t4 t5 g1 g2 g3 g4 g5 g6 hp HO b1 hl
  have HB := Lib.hid b1'
  have a_w1 := b1'
  clear b1'
  go_wp2_with fail
  first | refine settle_wp (fun wS => AnyLater w1 wS ∧ wS.heap[w1.heap.size]? = some (.cells #[.int .i64 2, .int .i64 8, .slice A n cap] 51)) ?_ ?_ | refine settle_calls (fun wS => AnyLater w1 wS ∧ wS.heap[w1.heap.size]? = some (.cells #[.int .i64 2, .int .i64 8, .slice A n cap] 51)) ?_ ?_
  · refine ⟨?_, ?_⟩
    · repeat' (first | with_reducible assumption | with_reducible exact AnyLater.refl _ | with_reducible apply AnyLater.setCell | with_reducible apply AnyLater.later | with_reducible apply AnyLater.drewN | with_reducible apply AnyLater.drew | with_reducible apply AnyLater.alloc | ((try simp only [World.size_alloc, World.size_setCell, World.size_drew]); (try dsimp only); omega))
    · ((repeat (first | with_reducible assumption | ((with_reducible apply heap_new); (try simp only [World.size_alloc, World.size_setCell, World.size_drew, World.heap_drewN]); done) | ((with_reducible apply heap_new); (try simp only [World.size_alloc, World.size_setCell, World.size_drew, World.heap_drewN]); omega) | (with_reducible refine heap_old (by (try simp only [World.size_alloc, World.size_setCell, World.size_drew, World.heap_drewN]); omega) ?_) | (with_reducible refine heap_drew ?_) | (with_reducible refine heap_far (by omega) ?_) | (with_reducible apply heap_at))); all_goals rfl)
  rintro w2 ⟨b_w2, s0_w2⟩
  have a_w2 := a_w1.trans b_w2
  have r0_w2 := own_row s0_w2
  have f0_w2 := own_free s0_w2
  have l0_w2 := own_lt s0_w2
  have z_w2 := b_w2.below.size
  refine (H1.out w2 b_w2).mono ?_
  rintro e w3 ⟨rfl, b3⟩
  have s3 := any_own b3 s0_w2
  have r3 := own_row s3
  have c3 := b_w2.trans b3
  clear b3 r0_w2
  go_wp2_with fail
  refine (H2.out w3 c3).mono ?_
  rintro e w4 ⟨rfl, b4⟩
  have s4 := any_own b4 s3
  have r4 := own_row s4
  have c4 := c3.trans b4
  clear b4 r3
  go_wp2_with fail
  refine (H3.out w4 c4).mono ?_
  rintro e w5 ⟨rfl, b5⟩
  have s5 := any_own b5 s4
  have r5 := own_row s5
  have c5 := c4.trans b5
  clear b5 r4
  go_wp2_with fail
  refine (H4.out w5 c5).mono ?_
  rintro e w6 ⟨rfl, b6⟩
  have c6 := c5.trans b6
  clear b6 r5
  go_wp2_with fail
  go_ret
  exact ⟨rfl, HB.out.trans c6⟩
end Go.Proofs.Ytbgpjfiabefajaa
