/- frame: the program's frames in memory: a structure and one list of pixels, row behind row; its small functions, by contract. -/
import Derived.Test.YtfliniknaonieaaFrameF
import Derived.Test.YtfliniknaonieaaFrameP
namespace Go.Proofs.Ytfliniknaonieaa
set_option linter.unusedSimpArgs false
set_option linter.unusedVariables false
set_option linter.unusedSectionVars false
open Go.RowKit

def px (rows : Pix) (i j : Nat) : Int := (rows.getD i []).getD j 0
theorem px_get {rows : Pix} {i j : Nat} (hi : i < rows.length) (hj : j < rows[i].length) : px rows i j = rows[i][j] := by simp [px, hi, hj]
def PixF (cells : Array Value) (W H : Nat) (f : Nat → Nat → Int) : Prop := ∀ i j, i < H → j < W → cells[i * W + j]? = some (.int .u32 (f i j))
theorem idx_inj {W i j y x : Nat} (hj : j < W) (hx : x < W) (h : i * W + j = y * W + x) : i = y ∧ j = x := by
  have h1 : (i * W + j) / W = i := by rw [Nat.mul_comm, Nat.mul_add_div (by omega), Nat.div_eq_of_lt hj]; omega
  have h2 : (y * W + x) / W = y := by rw [Nat.mul_comm, Nat.mul_add_div (by omega), Nat.div_eq_of_lt hx]; omega
  have : i = y := by rw [← h1, ← h2, h]
  subst this
  exact ⟨rfl, by omega⟩
theorem idx_row {W H i : Nat} (hi : i < H) : i * W + W ≤ W * H := by
  have h := Nat.mul_le_mul_right W (show i + 1 ≤ H by omega)
  rw [Nat.add_mul, Nat.one_mul, Nat.mul_comm H W] at h
  exact h
theorem mul_pos_lt {W H i : Nat} (hi : i < H) (hW : 0 < W) : 0 < W * H := Nat.mul_pos hW (by omega)
/-- the program's frame at a is m, in the blocks of S; its pixels' slice is at A -/
structure FrA (w : World) (a : Nat) (m : FM) (S : Nat → Prop) (A : Option Addr) (cap : Nat) : Prop where
  here : S a
  top : w.heap[a]? = some (.cells #[.int .i64 m.w, .int .i64 (m.rows.length : Int), .slice A (m.w * m.rows.length) cap, .int .i64 m.n] 67)
  ok : m.Ok
  room : m.w * m.rows.length ≤ cap
  pix : 0 < m.w * m.rows.length → ∃ q cells, A = some ⟨q, 0, none⟩ ∧ S q ∧ w.heap[q]? = some (.cells cells 33) ∧ PixF cells m.w m.rows.length (px m.rows)
  below : ∀ k, S k → k < w.heap.size
def Fr (w : World) (a : Nat) (m : FM) (S : Nat → Prop) : Prop := ∃ A cap, FrA w a m S A cap
theorem FrA.keep {w w' : World} {a : Nat} {m : FM} {S : Nat → Prop} {A : Option Addr} {cap : Nat} (h : FrA w a m S A cap) (hs : w.heap.size ≤ w'.heap.size) (hk : ∀ k, S k → k < w.heap.size → w'.heap[k]? = w.heap[k]?) : FrA w' a m S A cap where
  here := h.here
  top := by rw [hk a h.here (own_lt h.top)]; exact h.top
  ok := h.ok
  room := h.room
  pix h0 := by
    obtain ⟨q, cells, e, sq, hq, hp⟩ := h.pix h0
    exact ⟨q, cells, e, sq, by rw [hk q sq (own_lt hq)]; exact hq, hp⟩
  below k hk2 := Nat.lt_of_lt_of_le (h.below k hk2) hs
theorem FrA.any {w w' : World} {a : Nat} {m : FM} {S : Nat → Prop} {A : Option Addr} {cap : Nat} (h : FrA w a m S A cap) (ha : AnyLater w w') : FrA w' a m S A cap := h.keep ha.below.size (fun k _ hk => ha.below.block k hk)
theorem Fr.any {w w' : World} {a : Nat} {m : FM} {S : Nat → Prop} (h : Fr w a m S) (ha : AnyLater w w') : Fr w' a m S := by
  obtain ⟨A, cap, h⟩ := h
  exact ⟨A, cap, h.any ha⟩
theorem Fr.apart {w w' : World} {a : Nat} {m : FM} {S T : Nat → Prop} (h : Fr w a m S) (hk : Keeps T w w') (hap : Apart S T) : Fr w' a m S := by
  obtain ⟨A, cap, h⟩ := h
  exact ⟨A, cap, h.keep hk.size (fun k hs hlt => hk.block k hlt (hap k hs))⟩
theorem Fr.below {w : World} {a : Nat} {m : FM} {S : Nat → Prop} (h : Fr w a m S) : ∀ k, S k → k < w.heap.size := by
  obtain ⟨A, cap, h⟩ := h
  exact h.below
/-- a row of it reads as that row -/
theorem FrA.rowRU {w : World} {a : Nat} {m : FM} {S : Nat → Prop} {q cap : Nat} {cells : Array Value} {y : Nat} (h : FrA w a m S (some ⟨q, 0, none⟩) cap) (hq : w.heap[q]? = some (.cells cells 33)) (hp : PixF cells m.w m.rows.length (px m.rows)) (hy : y < m.rows.length) (c : Nat) (hc : m.w ≤ c) :
    RU w (.slice (some ⟨q, y * m.w, none⟩) m.w c) m.rows[y] := by
  have hl := h.ok.wide y hy
  refine ⟨some ⟨q, y * m.w, none⟩, c, by rw [hl], by rw [hl]; exact hc, fun _ => ⟨q, y * m.w, rfl, own_lt hq, fun j hj => ?_⟩⟩
  rw [own_row hq, hp y j hy (by rw [← hl]; exact hj), px_get hy hj]

theorem add_zero_map (A : Option Addr) : A.map (fun x => x.add 0) = A := by
  cases A with
  | none => rfl
  | some x => simp [Addr.add]
theorem frGoodSide_any (n : Int) (w : World) (c : Bool) (hc : decide (0 ≤ n ∧ n ≤ 4096) = c) (hn : I64 n) :
    Calls Try.prog 36 #[.int .i64 n] w fun e w' => e = .returned (.bool c) ∧ w = w' := by
  have H := Lib.hid hc
  clear hc
  by_cases h1 : 0 ≤ n
  · go_enter Try.func36, Try.ntmps36
    go_wp2
    go_ret
    exact ⟨ret_bool (by rw [← H.out]; rw [Bool.eq_iff_iff]; simp; try omega), rfl⟩
  · go_enter Try.func36, Try.ntmps36
    go_wp2
    go_ret
    exact ⟨ret_bool (by rw [← H.out]; simp; try omega), rfl⟩
section
variable {w : World} {a : Nat} {m : FM} {S : Nat → Prop} {A : Option Addr} {cap : Nat}
theorem writes_any (h : FrA w a m S A cap) : Calls Try.prog 14 #[ptr a] w fun e w' => e = .returned (.int .i64 m.n) ∧ AnyLater w w' := by
  have r := own_row h.top
  clear h
  unfold ptr
  go_enter Try.func14, Try.ntmps14
  go_wp2
  go_ret
  refine ⟨rfl, ?_⟩
  repeat' (first | with_reducible assumption | with_reducible exact AnyLater.refl _ | with_reducible apply AnyLater.setCell | with_reducible apply AnyLater.later | with_reducible apply AnyLater.drewN | with_reducible apply AnyLater.drew | with_reducible apply AnyLater.alloc | ((try simp only [World.size_alloc, World.size_setCell, World.size_drew]); (try dsimp only); omega))
theorem size_any (h : FrA w a m S A cap) : Calls Try.prog 42 #[ptr a] w fun e w' => e = .returned (.tuple #[.int .i64 m.w, .int .i64 (m.rows.length : Int)]) ∧ AnyLater w w' := by
  have r := own_row h.top
  clear h
  unfold ptr
  go_enter Try.func42, Try.ntmps42
  go_wp2_with fail
  try go_quiet (fail)
  go_wp2_with fail
  refine bodyPost_ret (v := .tuple #[.int .i64 m.w, .int .i64 (m.rows.length : Int)]) (by simp [results, Try.results42, go_sem]) rfl ⟨rfl, ?_⟩
  repeat' (first | with_reducible assumption | with_reducible exact AnyLater.refl _ | with_reducible apply AnyLater.setCell | with_reducible apply AnyLater.later | with_reducible apply AnyLater.drewN | with_reducible apply AnyLater.drew | with_reducible apply AnyLater.alloc | ((try simp only [World.size_alloc, World.size_setCell, World.size_drew]); (try dsimp only); omega))
theorem all_any (h : FrA w a m S A cap) : Calls Try.prog 58 #[ptr a] w fun e w' => e = .returned (.agg #[.int .i64 0, .int .i64 0, .int .i64 m.w, .int .i64 (m.rows.length : Int)]) ∧ AnyLater w w' := by
  have s := h.top
  have l := own_lt s
  have nl : w.heap.size ≠ a := by omega
  clear h
  unfold ptr
  go_enter Try.func58, Try.ntmps58
  go_wp2_with fail
  first | refine settle_wp (fun wS => AnyLater w wS ∧ wS.heap[w.heap.size]? = some (.cells #[.int .i64 0, .int .i64 0, .int .i64 0, .int .i64 0] 32) ∧ wS.heap[a]? = some (.cells #[.int .i64 m.w, .int .i64 (m.rows.length : Int), .slice A (m.w * m.rows.length) cap, .int .i64 m.n] 67 (0, 0))) ?_ ?_ | refine settle_calls (fun wS => AnyLater w wS ∧ wS.heap[w.heap.size]? = some (.cells #[.int .i64 0, .int .i64 0, .int .i64 0, .int .i64 0] 32) ∧ wS.heap[a]? = some (.cells #[.int .i64 m.w, .int .i64 (m.rows.length : Int), .slice A (m.w * m.rows.length) cap, .int .i64 m.n] 67 (0, 0))) ?_ ?_
  · refine ⟨?_, ?_, ?_⟩
    · repeat' (first | with_reducible assumption | with_reducible exact AnyLater.refl _ | with_reducible apply AnyLater.setCell | with_reducible apply AnyLater.later | with_reducible apply AnyLater.drewN | with_reducible apply AnyLater.drew | with_reducible apply AnyLater.alloc | ((try simp only [World.size_alloc, World.size_setCell, World.size_drew]); (try dsimp only); omega))
    · ((repeat (first | with_reducible assumption | ((with_reducible apply heap_new); (try simp only [World.size_alloc, World.size_setCell, World.size_drew, World.heap_drewN]); done) | ((with_reducible apply heap_new); (try simp only [World.size_alloc, World.size_setCell, World.size_drew, World.heap_drewN]); omega) | (with_reducible refine heap_old (by (try simp only [World.size_alloc, World.size_setCell, World.size_drew, World.heap_drewN]); omega) ?_) | (with_reducible refine heap_drew ?_) | (with_reducible refine heap_far (by omega) ?_) | (with_reducible apply heap_at))); all_goals rfl)
    · ((repeat (first | with_reducible assumption | ((with_reducible apply heap_new); (try simp only [World.size_alloc, World.size_setCell, World.size_drew, World.heap_drewN]); done) | ((with_reducible apply heap_new); (try simp only [World.size_alloc, World.size_setCell, World.size_drew, World.heap_drewN]); omega) | (with_reducible refine heap_old (by (try simp only [World.size_alloc, World.size_setCell, World.size_drew, World.heap_drewN]); omega) ?_) | (with_reducible refine heap_drew ?_) | (with_reducible refine heap_far (by omega) ?_) | (with_reducible apply heap_at))); all_goals rfl)
  rintro w1 ⟨b_w1, s0_w1, s1_w1⟩
  have a_w1 := b_w1
  have r0_w1 := own_row s0_w1
  have f0_w1 := own_free s0_w1
  have l0_w1 := own_lt s0_w1
  have r1_w1 := own_row s1_w1
  have f1_w1 := own_free s1_w1
  have l1_w1 := own_lt s1_w1
  have z_w1 := b_w1.below.size
  apply wp_region_mem (9) [] (by kernel_rfl) (by kernel_rfl) (by simp)
  case hstab =>
    intro e he v x y hxy hv
    simp only [List.mem_cons, List.not_mem_nil, or_false] at he
  case hlex =>
    intro U
    have q0 := fun (v : Later (later U)) => own_row (any_own ⟨v, rfl⟩ (any_own ⟨U, rfl⟩ s0_w1))
    have q1 := fun (v : Later (later U)) => own_row (any_own ⟨v, rfl⟩ (any_own ⟨U, rfl⟩ s1_w1))
    simp only [absFrom, absOp, idx, List.map_cons, List.map_nil, List.contains_cons, List.contains_nil, Nat.reduceBEq, Bool.or_false, Bool.false_or, Bool.true_or, Bool.or_true, Bool.false_eq_true, Nat.reduceLeDiff, Nat.reduceAdd, if_false, if_true]
    repeat (go_big_quiet_step (fail))
    exact wpQuiet_nil rfl
  case hown =>
    intro e he o ho
    simp only [List.mem_cons, List.not_mem_nil, or_false] at he
  case htail =>
    intro g u hst hne
    have b_w2 : AnyLater w1 (later u) := ⟨u, rfl⟩
    generalize later u = w2 at *
    clear u
    clear hst hne
    simp only [fillAll, Act.put, List.setIfInBounds_toArray, List.set_cons_zero, List.set_cons_succ, List.drop_succ_cons, List.drop_zero]
    have z_w2 := b_w2.below.size
    have a_w2 := a_w1.trans b_w2
    have s0_w2 := any_own b_w2 s0_w1
    have s1_w2 := any_own b_w2 s1_w1
    have r0_w2 := own_row s0_w2
    have f0_w2 := own_free s0_w2
    have l0_w2 := own_lt s0_w2
    have r1_w2 := own_row s1_w2
    have f1_w2 := own_free s1_w2
    have l1_w2 := own_lt s1_w2
    (try clear r0_w1); (try clear f0_w1)
    (try clear r1_w1); (try clear f1_w1)
    go_wp2_with fail
    refine bodyPost_ret (v := .agg #[.int .i64 0, .int .i64 0, .int .i64 m.w, .int .i64 (m.rows.length : Int)]) (by simp [results, Try.results58, go_sem, *]) rfl ⟨rfl, ?_⟩
    repeat' (first | with_reducible assumption | with_reducible exact AnyLater.refl _ | with_reducible apply AnyLater.setCell | with_reducible apply AnyLater.later | with_reducible apply AnyLater.drewN | with_reducible apply AnyLater.drew | with_reducible apply AnyLater.alloc | ((try simp only [World.size_alloc, World.size_setCell, World.size_drew]); (try dsimp only); omega))
theorem hasRow_any (h : FrA w a m S A cap) (y : Int) (c : Bool) (hc : decide (0 ≤ y ∧ y < (m.rows.length : Int)) = c) (hy : I64 y) :
    Calls Try.prog 43 #[ptr a, .int .i64 y] w fun e w' => e = .returned (.bool c) ∧ AnyLater w w' := by
  have r := own_row h.top
  have H := Lib.hid hc
  obtain ⟨y1, y2⟩ := hy
  clear h hc
  unfold ptr
  by_cases h1 : 0 ≤ y
  · go_enter Try.func43, Try.ntmps43
    go_wp2
    go_ret
    refine ⟨ret_bool (by rw [← H.out]; rw [Bool.eq_iff_iff]; simp; try omega), ?_⟩
    repeat' (first | with_reducible assumption | with_reducible exact AnyLater.refl _ | with_reducible apply AnyLater.setCell | with_reducible apply AnyLater.later | with_reducible apply AnyLater.drewN | with_reducible apply AnyLater.drew | with_reducible apply AnyLater.alloc | ((try simp only [World.size_alloc, World.size_setCell, World.size_drew]); (try dsimp only); omega))
  · go_enter Try.func43, Try.ntmps43
    go_wp2
    go_ret
    refine ⟨ret_bool (by rw [← H.out]; simp; try omega), ?_⟩
    repeat' (first | with_reducible assumption | with_reducible exact AnyLater.refl _ | with_reducible apply AnyLater.setCell | with_reducible apply AnyLater.later | with_reducible apply AnyLater.drewN | with_reducible apply AnyLater.drew | with_reducible apply AnyLater.alloc | ((try simp only [World.size_alloc, World.size_setCell, World.size_drew]); (try dsimp only); omega))
/-- where a row lies -/
def rowS (A : Option Addr) (cap W y : Nat) : Value := .slice (if cap = y * W then A else A.map (fun x => x.add (y * W))) W (cap - y * W)
theorem rowS_some {q cap W y : Nat} (h : y * W < cap) : rowS (some ⟨q, 0, none⟩) cap W y = .slice (some ⟨q, y * W, none⟩) W (cap - y * W) := by
  unfold rowS
  rw [if_neg (by omega)]
  simp only [Option.map_some, Addr.add]
  split
  · rename_i e; rw [e]
  · simp
theorem row_any (h : FrA w a m S A cap) (y : Nat) (hy : y < m.rows.length) (hw : m.w ≤ 4096) (hh : m.rows.length ≤ 4096) :
    Calls Try.prog 45 #[ptr a, .int .i64 y] w fun e w' => e = .returned (rowS A cap m.w y) ∧ AnyLater w w' := by
  have r := own_row h.top
  have f := own_free h.top
  have hroom := h.room
  obtain ⟨W, rows, n0⟩ := m
  simp only at r hy hw hh hroom
  have hrow := idx_row (W := W) hy
  obtain ⟨H, hH⟩ : ∃ H, rows.length = H := ⟨_, rfl⟩
  simp only [hH] at *
  obtain ⟨l, hl⟩ : ∃ l, y * W = l := ⟨_, rfl⟩
  obtain ⟨N, hN⟩ : ∃ N, W * H = N := ⟨_, rfl⟩
  have hNm : N ≤ 4096 * 4096 := by rw [← hN]; exact Nat.mul_le_mul hw hh
  have e1 : (y : Int) * (W : Int) = (l : Int) := by rw [← hl]; simp
  have e2 : ((y : Int) + 1) * (W : Int) = ((l + W : Nat) : Int) := by rw [Int.add_mul, e1]; simp
  have HR := Lib.hid hl
  rw [hN] at r hrow hroom
  rw [hl] at hrow
  clear h hl hN hH
  unfold ptr
  go_enter Try.func45, Try.ntmps45
  go_wp2_with fail
  go_quiet (fail)
  go_wp2_with fail
  all_goals
    go_ret
    refine ⟨?_, by repeat' (first | with_reducible assumption | with_reducible exact AnyLater.refl _ | with_reducible apply AnyLater.setCell | with_reducible apply AnyLater.later | with_reducible apply AnyLater.drewN | with_reducible apply AnyLater.drew | with_reducible apply AnyLater.alloc | ((try simp only [World.size_alloc, World.size_setCell, World.size_drew]); (try dsimp only); omega))⟩
    first | (simp [rowS, HR.out]; done) | (simp [rowS, HR.out, *]; done)
end
end Go.Proofs.Ytfliniknaonieaa
