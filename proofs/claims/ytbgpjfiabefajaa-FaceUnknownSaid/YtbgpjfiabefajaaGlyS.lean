/- glyph: a glyph made of those bits that a function tells, by contract. -/
import Derived.Test.YtbgpjfiabefajaaGlyR
import Derived.Deep.CutBlock
import Derived.Deep.DeepCutAuto
namespace Go.Proofs.Ytbgpjfiabefajaa
set_option linter.unusedSimpArgs false
set_option linter.unusedVariables false
set_option linter.unusedSectionVars false
open Go.RowKit

/-- a row's first x bits -/
def partM (p : Nat → Nat → Bool) (y : Nat) : Nat → Nat
  | 0 => 0
  | x + 1 => partM p y x + if p x y = true then 2 ^ x else 0
theorem partM_lt (p : Nat → Nat → Bool) (y : Nat) : ∀ x, partM p y x < 2 ^ x
  | 0 => by simp [partM]
  | x + 1 => by
    have := partM_lt p y x
    unfold partM
    rw [Nat.pow_succ]
    split <;> omega
theorem partM_bit (p : Nat → Nat → Bool) (y i : Nat) : ∀ x, (partM p y x).testBit i = (decide (i < x) && p i y)
  | 0 => by simp [partM]
  | x + 1 => by
    have h := partM_bit p y i x
    have hl := partM_lt p y x
    unfold partM
    by_cases hp : p x y = true
    · rw [if_pos hp, Nat.add_comm]
      by_cases e : i = x
      · subst e
        rw [Nat.testBit_two_pow_add_eq, Nat.testBit_lt_two_pow hl]
        simp [hp]
      · rcases Nat.lt_or_ge i x with hi | hi
        · rw [Nat.testBit_two_pow_add_gt hi, h, decide_eq_true hi, decide_eq_true (show i < x + 1 by omega)]
        · have h1 : 2 ^ x + partM p y x < 2 ^ i := by
            have : 2 ^ (x + 1) ≤ 2 ^ i := Nat.pow_le_pow_right (by decide) (by omega)
            rw [Nat.pow_succ] at this
            omega
          rw [Nat.testBit_lt_two_pow h1, decide_eq_false (show ¬ i < x + 1 by omega), Bool.false_and]
    · rw [if_neg hp, Nat.add_zero, h]
      have hp' : p x y = false := by simpa using hp
      by_cases e : i = x
      · subst e
        simp [hp']
      · by_cases hi : i < x
        · rw [decide_eq_true hi, decide_eq_true (show i < x + 1 by omega)]
        · rw [decide_eq_false hi, decide_eq_false (show ¬ i < x + 1 by omega)]
/-- row k, when the bits of row y are made up to x -/
def rowAt (p : Nat → Nat → Bool) (W y x k : Nat) : Nat := if k < y then partM p k W else if k = y then partM p y x else 0
theorem rowAt_next (p : Nat → Nat → Bool) (W y k : Nat) : rowAt p W y W k = rowAt p W (y + 1) 0 k := by
  unfold rowAt
  by_cases h : k < y
  · rw [if_pos h, if_pos (by omega)]
  · by_cases e : k = y
    · subst e; rw [if_neg h, if_pos rfl, if_pos (by omega)]
    · rw [if_neg h, if_neg e, if_neg (by omega)]
      split <;> rfl
def CellsAt (cells : Array Value) (p : Nat → Nat → Bool) (W H y x : Nat) : Prop := ∀ k, k < H → cells[k]? = some (.int .u32 (rowAt p W y x k : Nat))
theorem CellsAt.next {cells : Array Value} {p : Nat → Nat → Bool} {W H y : Nat} (h : CellsAt cells p W H y W) : CellsAt cells p W H (y + 1) 0 := fun k hk => by rw [h k hk, rowAt_next]
theorem CellsAt.off {cells : Array Value} {p : Nat → Nat → Bool} {W H y x : Nat} (h : CellsAt cells p W H y x) (hb : p x y = false) : CellsAt cells p W H y (x + 1) := fun k hk => by
  rw [h k hk]
  unfold rowAt
  by_cases e : k = y
  · subst e; simp [partM, hb]
  · simp [e]
theorem CellsAt.on {cells : Array Value} {p : Nat → Nat → Bool} {W H y x : Nat} (h : CellsAt cells p W H y x) (hy : y < H) (hb : p x y = true) : CellsAt (cells.setIfInBounds y (.int .u32 ((partM p y x + 2 ^ x : Nat) : Int))) p W H y (x + 1) := fun k hk => by
  have hs : y < cells.size := by
    rcases Nat.lt_or_ge y cells.size with q | q
    · exact q
    · have := h y hy; rw [Array.getElem?_eq_none q] at this; cases this
  rw [Array.getElem?_setIfInBounds]
  by_cases e : y = k
  · subst e
    rw [if_pos rfl, if_pos hs]
    simp [rowAt, partM, hb]
  · rw [if_neg e, h k hk]
    have e' : ¬ k = y := fun q => e q.symm
    simp [rowAt, e']
/-- the glyph that is made -/
def madeG (p : Nat → Nat → Bool) (W H : Nat) : GM := ⟨W, H, (List.range H).map fun y => ((partM p y W : Nat) : Int)⟩
theorem pow32 {n : Nat} (h : n ≤ 32) : 2 ^ n ≤ 4294967296 := Nat.pow_le_pow_right (n := 2) (by decide) h
structure MadeP (W H : Int) (p : Nat → Nat → Bool) (b : GM) : Prop where
  ok : b.Ok
  yes : 0 ≤ W → W ≤ 32 → 0 ≤ H → H ≤ 32 → b.w = W ∧ b.h = H ∧ goodG b = true ∧ ∀ x y : Int, hasB b x y = (decide (0 ≤ x ∧ x < W ∧ 0 ≤ y ∧ y < H) && p x.toNat y.toNat)
  no : ¬ (0 ≤ W ∧ W ≤ 32 ∧ 0 ≤ H ∧ H ≤ 32) → noneG b
theorem madeG_p (p : Nat → Nat → Bool) (W H : Nat) (hW : W ≤ 32) (hH : H ≤ 32) : MadeP W H p (madeG p W H) where
  ok := ⟨by unfold madeG I64; simp only; omega, by unfold madeG I64; simp only; omega, fun r hr => by
    unfold madeG at hr
    simp only [List.mem_map, List.mem_range] at hr
    obtain ⟨y, _, rfl⟩ := hr
    have := partM_lt p y W
    have := pow32 hW
    omega⟩
  yes := fun _ _ _ _ => by
    refine ⟨rfl, rfl, ?_, fun x y => ?_⟩
    · unfold goodG madeG
      simp only [List.length_map, List.length_range]
      rw [decide_eq_true (by refine ⟨by omega, by omega, by omega, by omega, ?_⟩; trivial), Bool.true_and, List.all_eq_true]
      intro r hr
      simp only [List.mem_map, List.mem_range] at hr
      obtain ⟨y, _, rfl⟩ := hr
      have h := partM_lt p y W
      have hp : ((2 : Int) ^ W) = ((2 ^ W : Nat) : Int) := by simp
      simp only [Int.toNat_natCast, hp]
      exact decide_eq_true (by omega)
    · unfold hasB madeG
      simp only [List.length_map, List.length_range]
      by_cases h : 0 ≤ x ∧ x < (W : Int) ∧ 0 ≤ y ∧ y < (H : Int)
      · rw [decide_eq_true h, Bool.true_and, Bool.true_and]
        have hy : y.toNat < H := by omega
        rw [List.getD_eq_getElem?_getD, List.getElem?_map, List.getElem?_range hy]
        simp only [Option.map_some, Option.getD_some]
        rw [bitZ_nat, partM_bit, decide_eq_true (show x.toNat < W by omega), Bool.true_and]
      · rw [decide_eq_false h]; rfl
  no := fun h => absurd ⟨by omega, by omega, by omega, by omega⟩ h
theorem zeroG_p {W H : Int} {p : Nat → Nat → Bool} (h : ¬ (0 ≤ W ∧ W ≤ 32 ∧ 0 ≤ H ∧ H ≤ 32)) : MadeP W H p ⟨0, 0, []⟩ where
  ok := ⟨by unfold I64; simp, by unfold I64; simp, fun r hr => by cases hr⟩
  yes := fun h1 h2 h3 h4 => absurd ⟨h1, h2, h3, h4⟩ h
  no := fun _ => ⟨rfl, rfl, rfl⟩
theorem zeroG_is (w : World) : IsG ⟨0, 0, []⟩ (.agg #[.int .i64 0, .int .i64 0, .slice none 0 0]) w := ⟨_, rfl, none, 0, rfl, Nat.le_refl _, fun h => by simp at h⟩
theorem madeG_is {w : World} {q H W : Nat} {p : Nat → Nat → Bool} {cells : Array Value} (hq : w.heap[q]? = some (.cells cells 33)) (hc : CellsAt cells p W H H 0) : IsG (madeG p W H) (.agg #[.int .i64 (W : Int), .int .i64 (H : Int), .slice (some ⟨q, 0, none⟩) H H]) w := by
  have hl : (madeG p W H).rows.length = H := by simp [madeG]
  refine ⟨_, rfl, some ⟨q, 0, none⟩, H, by rw [hl], by rw [hl]; exact Nat.le_refl _, fun _ => ⟨q, 0, rfl, own_lt hq, fun j hj => ?_⟩⟩
  rw [own_row hq, Nat.zero_add, hc j (by rw [hl] at hj; exact hj)]
  have hj' : j < H := by rw [hl] at hj; exact hj
  simp [madeG, rowAt, hj']
theorem or_pow {a x : Nat} (h : a < 2 ^ x) (hx : x < 32) : bits .or .u32 (a : Int) (2 ^ x) = ((a + 2 ^ x : Nat) : Int) := by
  have h1 : 2 ^ x < 4294967296 := by
    have : 2 ^ x < 2 ^ 32 := Nat.pow_lt_pow_right (by decide) hx
    simpa using this
  have hp : ((2 : Int) ^ x) = ((2 ^ x : Nat) : Int) := by simp
  rw [hp, u32_or_nat a (2 ^ x) (by omega) h1, Nat.or_comm]
  rw [nat_join x (2 ^ x) a (Nat.mod_self _) h, Nat.add_comm]
theorem shl_pow {x : Nat} (hx : x < 32) : IntKind.u32.wrap (2 ^ x) = 2 ^ x := by
  have h1 : 2 ^ x < 4294967296 := by
    have : 2 ^ x < 2 ^ 32 := Nat.pow_lt_pow_right (by decide) hx
    simpa using this
  have hp : ((2 : Int) ^ x) = ((2 ^ x : Nat) : Int) := by simp
  rw [hp, IntKind.wrap_u32]
  generalize 2 ^ x = m at *
  omega

set_option maxRecDepth 100000 in
set_option maxHeartbeats 6400000 in
theorem made_any (W H : Int) (f : Nat) (cap : Value) (p : Nat → Nat → Bool) (w : World) (hcf : ∀ args w, (callFunc f args).run Try.prog w = .ok (.enter f args) w) (iW : I64 W) (iH : I64 H)
    (hdo : ∀ x y : Nat, (x : Int) < W → (y : Int) < H → W ≤ 32 → H ≤ 32 → ∀ w1, AnyLater w w1 → Calls Try.prog f #[.int .i64 x, .int .i64 y, cap] w1 fun e w' => e = .returned (.bool (p x y)) ∧ AnyLater w1 w') :
    Shows 67 #[.int .i64 W, .int .i64 H, .func (.func f) #[] #[cap]] w (IsP (MadeP W H p)) := by
  by_cases q : 0 ≤ W ∧ W ≤ 32 ∧ 0 ≤ H ∧ H ≤ 32
  · obtain ⟨a1, a2, a3, a4⟩ := q
    have HG1 := Lib.hid (fun w' => glSide_any W w' true (decide_eq_true ⟨a1, a2⟩) iW)
    have HG2 := Lib.hid (fun w' => glSide_any H w' true (decide_eq_true ⟨a3, a4⟩) iH)
    obtain ⟨Wn, rfl⟩ : ∃ n : Nat, (n : Int) = W := ⟨W.toNat, by omega⟩
    obtain ⟨Hn, rfl⟩ : ∃ n : Nat, (n : Int) = H := ⟨H.toNat, by omega⟩
    have HD := Lib.hid hdo
    have HMP := Lib.hid (madeG_p p Wn Hn (by omega) (by omega))
    clear hdo iW iH a1 a3
    go_enter Try.func67, Try.ntmps67
    go_wp2_with fail
    first | refine settle_wp (fun wS => AnyLater w wS ∧ wS.heap[w.heap.size]? = some (.cells #[.int .i64 0, .int .i64 0, .slice none 0 0] 51)) ?_ ?_ | refine settle_calls (fun wS => AnyLater w wS ∧ wS.heap[w.heap.size]? = some (.cells #[.int .i64 0, .int .i64 0, .slice none 0 0] 51)) ?_ ?_
    · refine ⟨?_, ?_⟩
      · repeat' (first | with_reducible assumption | with_reducible exact AnyLater.refl _ | with_reducible apply AnyLater.setCell | with_reducible apply AnyLater.later | with_reducible apply AnyLater.drewN | with_reducible apply AnyLater.drew | with_reducible apply AnyLater.alloc | ((try simp only [World.size_alloc, World.size_setCell, World.size_drew]); (try dsimp only); omega))
      · ((repeat (first | with_reducible assumption | ((with_reducible apply heap_new); (try simp only [World.size_alloc, World.size_setCell, World.size_drew, World.heap_drewN]); done) | ((with_reducible apply heap_new); (try simp only [World.size_alloc, World.size_setCell, World.size_drew, World.heap_drewN]); omega) | (with_reducible refine heap_old (by (try simp only [World.size_alloc, World.size_setCell, World.size_drew, World.heap_drewN]); omega) ?_) | (with_reducible refine heap_drew ?_) | (with_reducible refine heap_far (by omega) ?_) | (with_reducible apply heap_at))); all_goals rfl)
    rintro w1 ⟨b_w1, s0_w1⟩
    have a_w1 := b_w1
    have r0_w1 := own_row s0_w1
    have f0_w1 := own_free s0_w1
    have l0_w1 := own_lt s0_w1
    have z_w1 := b_w1.below.size
    refine (HG1.out w1).mono ?_
    rintro e w' ⟨rfl, rfl⟩
    go_wp2_with fail
    refine (HG2.out w1).mono ?_
    rintro e w' ⟨rfl, rfl⟩
    have hm0 := run_make_row' (P := Try.prog) 34 33 (.int .u32 0) 4 Try.underlying34 info_pix rfl .i64 .i64 Hn (by omega) (by omega) w1
    obtain ⟨w2, hw2⟩ : ∃ w2, w1.alloc (.cells (madeCells #[.int .u32 0] Hn) 33) = w2 := ⟨_, rfl⟩
    have b2 : AnyLater w1 w2 := by rw [← hw2]; exact (AnyLater.refl w1).alloc _
    have s1_w2 : w2.heap[w1.heap.size]? = some (.cells (madeCells #[.int .u32 0] Hn) 33) := by rw [← hw2]; exact heap_new rfl
    have s0_w2 := any_own b2 s0_w1
    have a_w2 := a_w1.trans b2
    rw [hw2] at hm0
    have HS := Lib.hid (And.intro s0_w2 (And.intro s1_w2 a_w2))
    have hq : w.heap.size < w1.heap.size := l0_w1
    generalize w1.heap.size = qq at *
    clear hw2 b2 s1_w2 s0_w2 a_w2 s0_w1 r0_w1 f0_w1 l0_w1 a_w1 b_w1 z_w1
    go_wp2_with fail
    clear hm0
    go_loopg [22] Hn (fun k jv wr => ∃ (y : Nat) (cells : Array Value), k = Hn - y ∧ y ≤ Hn ∧ jv = .int .i64 y ∧ AnyLater w wr ∧ wr.heap[w.heap.size]? = some (.cells #[.int .i64 0, .int .i64 0, .slice none 0 0] 51) ∧ wr.heap[qq]? = some (.cells cells 33) ∧ CellsAt cells p Wn Hn y 0)
    case atStart => exact ⟨0, _, by omega, by omega, rfl, HS.out.2.2, HS.out.1, HS.out.2.1, fun k hk => by rw [made_get _ _ hk]; simp [rowAt, partM]⟩
    case round =>
      obtain ⟨y, cells, hk, hy, rfl, a_wr, s0_wr, s1_wr, hcl⟩ := hrel
      have HC := Lib.hid hcl
      have HA := Lib.hid a_wr
      have HS0 := Lib.hid s0_wr
      have HS1 := Lib.hid s1_wr
      clear hcl a_wr
      by_cases hlt : y < Hn
      · clear s0_wr s1_wr
        go_wp2_with fail
        go_loopg [26] Wn (fun kk iv wx => ∃ (x : Nat) (cells : Array Value), kk = Wn - x ∧ x ≤ Wn ∧ iv = .int .i64 x ∧ AnyLater w wx ∧ wx.heap[w.heap.size]? = some (.cells #[.int .i64 0, .int .i64 0, .slice none 0 0] 51) ∧ wx.heap[qq]? = some (.cells cells 33) ∧ CellsAt cells p Wn Hn y x)
        case atStart => exact ⟨0, cells, by omega, by omega, rfl, HA.out, HS0.out, HS1.out, HC.out⟩
        case round =>
          obtain ⟨x, cl, hk2, hx, rfl, a_wx, s0_wx, s1_wx, hcl⟩ := hrel
          have HCx := Lib.hid hcl
          have HAx := Lib.hid a_wx
          have HSx0 := Lib.hid s0_wx
          have HSx1 := Lib.hid s1_wx
          clear hcl s0_wx s1_wx
          by_cases hli : x < Wn
          · have HDx := Lib.hid (HD.out x y (by omega) (by omega) a2 a4 wr a_wx)
            clear a_wx
            go_wp2_with fail
            refine HDx.out.mono ?_
            rintro e w5 ⟨rfl, b5⟩
            have HA5 := Lib.hid (HAx.out.trans b5)
            have s0_w5 := any_own b5 HSx0.out
            have s1_w5 := any_own b5 HSx1.out
            clear b5
            rcases hp : p x y
            · have HON := Lib.hid (HCx.out.off hp)
              have HT := Lib.hid (And.intro s0_w5 s1_w5)
              clear s0_w5 s1_w5 hp
              go_wp2_with fail
              go_roundg (Wn - (x + 1))
              case measure => omega
              case rel => exact ⟨x + 1, cl, rfl, by omega, by go_num, HA5.out, HT.out.1, HT.out.2, HON.out⟩
            · have hon := HCx.out.on hlt hp
              have hor := or_pow (partM_lt p y x) (show x < 32 by omega)
              have c_w5 : w5.cell? ⟨qq, y, none⟩ = some (.int .u32 ((partM p y x : Nat) : Int)) := by
                rw [own_row s1_w5, HCx.out y hlt]
                simp [rowAt]
              obtain ⟨m2, hm2⟩ : ∃ m : Int, (2 : Int) ^ x = m := ⟨_, rfl⟩
              have hsh : IntKind.u32.wrap (2 ^ x) = m2 := by rw [← hm2]; exact shl_pow (show x < 32 by omega)
              rw [hm2] at hor
              obtain ⟨z, hz⟩ : ∃ z : Int, ((partM p y x + 2 ^ x : Nat) : Int) = z := ⟨_, rfl⟩
              rw [hz] at hor hon
              have HON := Lib.hid hon
              obtain ⟨r, hr⟩ : ∃ r : Int, ((partM p y x : Nat) : Int) = r := ⟨_, rfl⟩
              rw [hr] at hor c_w5
              have a_w5 := HA5.out
              have r0_w5 := own_row s0_w5
              have f0_w5 := own_free s0_w5
              have l0_w5 := own_lt s0_w5
              have l1_w5 := own_lt s1_w5
              have z_w5 := Nat.le_refl w5.heap.size
              have HS5 := Lib.hid s1_w5
              clear hz hr hm2 hp hon s1_w5
              go_wp2_with fail
              apply wp_region_mem (8) [] (by kernel_rfl) (by kernel_rfl) (by simp)
              case hstab =>
                intro e he v x y hxy hv
                simp only [List.mem_cons, List.not_mem_nil, or_false] at he
              case hlex =>
                intro U
                have q0 := fun (v : Later (later U)) => own_row (any_own ⟨v, rfl⟩ (any_own ⟨U, rfl⟩ s0_w5))
                have q_c_w5 := fun (v : Later (later U)) => cell_on (AnyLater.trans ⟨U, rfl⟩ ⟨v, rfl⟩) c_w5
                simp only [absFrom, absOp, idx, List.map_cons, List.map_nil, List.contains_cons, List.contains_nil, Nat.reduceBEq, Bool.or_false, Bool.false_or, Bool.true_or, Bool.or_true, Bool.false_eq_true, Nat.reduceLeDiff, Nat.reduceAdd, if_false, if_true]
                repeat (go_big_quiet_step (fail))
                exact wpQuiet_nil rfl
              case hown =>
                intro e he o ho
                simp only [List.mem_cons, List.not_mem_nil, or_false] at he
              case htail =>
                intro g u hst hne
                have b_w6 : AnyLater w5 (later u) := ⟨u, rfl⟩
                generalize later u = w6 at *
                clear u
                clear hst hne
                simp only [fillAll, Act.put, List.setIfInBounds_toArray, List.set_cons_zero, List.set_cons_succ, List.drop_succ_cons, List.drop_zero]
                have z_w6 := b_w6.below.size
                have a_w6 := a_w5.trans b_w6
                have s0_w6 := any_own b_w6 s0_w5
                have r0_w6 := own_row s0_w6
                have f0_w6 := own_free s0_w6
                have l0_w6 := own_lt s0_w6
                (try clear r0_w5); (try clear f0_w5)
                have c_w5_w6 := cell_on b_w6 c_w5
                have s1_w6 := any_own b_w6 HS5.out
                have f1_w6 := own_free s1_w6
                have l1_w6 := own_lt s1_w6
                have HS6 := Lib.hid s1_w6
                clear s1_w6
                go_wp2_with fail
                go_roundg (Wn - (x + 1))
                case measure => omega
                case rel => exact ⟨x + 1, _, rfl, by omega, by go_num, a_w6.setCell (by dsimp only; omega) _, heap_far (by omega) s0_w6, heap_at HS6.out rfl, HON.out⟩
          · obtain rfl : x = Wn := by omega
            have HON := Lib.hid HCx.out.next
            clear a_wx
            go_wp2_with fail
            go_roundg (Hn - (y + 1))
            case measure => omega
            case rel => exact ⟨y + 1, cl, rfl, by omega, by go_num, HAx.out, HSx0.out, HSx1.out, HON.out⟩
      · obtain rfl : y = Hn := by omega
        have r0_wr := own_row s0_wr
        have f0_wr := own_free s0_wr
        have l0_wr := own_lt s0_wr
        have l1_wr := own_lt s1_wr
        clear s0_wr s1_wr
        go_wp2_with fail
        refine bodyPost_ret (v := .agg #[.int .i64 (Wn : Int), .int .i64 (y : Int), .slice (some ⟨qq, 0, none⟩) y y]) (by simp [results, Try.results67, go_sem, *]) rfl ?_
        refine ⟨_, rfl, ?_, madeG p Wn y, ?_, HMP.out⟩
        · exact ((HA.out.setCell (by simp) _).setCell (by simp) _).setCell (by simp) _
        · exact madeG_is (heap_far (by omega) (heap_far (by omega) (heap_far (by omega) HS1.out))) HC.out
  · have HZ := Lib.hid (zeroG_p (p := p) q)
    rcases e1 : decide (0 ≤ W ∧ W ≤ 32)
    · have HG1 := Lib.hid (fun w' => glSide_any W w' false e1 iW)
      clear q e1 hdo
      go_enter Try.func67, Try.ntmps67
      go_wp2_with fail
      refine (HG1.out _).mono ?_
      rintro e w' ⟨rfl, rfl⟩
      go_wp2_with fail
      refine bodyPost_ret (v := .agg #[.int .i64 0, .int .i64 0, .slice none 0 0]) (by simp [results, Try.results67, go_sem, *]) rfl ?_
      refine ⟨_, rfl, ?_, _, zeroG_is _, HZ.out⟩
      repeat' (first | with_reducible assumption | with_reducible exact AnyLater.refl _ | with_reducible apply AnyLater.setCell | with_reducible apply AnyLater.later | with_reducible apply AnyLater.drewN | with_reducible apply AnyLater.drew | with_reducible apply AnyLater.alloc | ((try simp only [World.size_alloc, World.size_setCell, World.size_drew]); (try dsimp only); omega))
    · have HG1 := Lib.hid (fun w' => glSide_any W w' true e1 iW)
      have e2 : decide (0 ≤ H ∧ H ≤ 32) = false := decide_eq_false (fun h => q ⟨(of_decide_eq_true e1).1, (of_decide_eq_true e1).2, h.1, h.2⟩)
      have HG2 := Lib.hid (fun w' => glSide_any H w' false e2 iH)
      clear q e1 e2 hdo
      go_enter Try.func67, Try.ntmps67
      go_wp2_with fail
      refine (HG1.out _).mono ?_
      rintro e w' ⟨rfl, rfl⟩
      go_wp2_with fail
      refine (HG2.out _).mono ?_
      rintro e w' ⟨rfl, rfl⟩
      go_wp2_with fail
      refine bodyPost_ret (v := .agg #[.int .i64 0, .int .i64 0, .slice none 0 0]) (by simp [results, Try.results67, go_sem, *]) rfl ?_
      refine ⟨_, rfl, ?_, _, zeroG_is _, HZ.out⟩
      repeat' (first | with_reducible assumption | with_reducible exact AnyLater.refl _ | with_reducible apply AnyLater.setCell | with_reducible apply AnyLater.later | with_reducible apply AnyLater.drewN | with_reducible apply AnyLater.drew | with_reducible apply AnyLater.alloc | ((try simp only [World.size_alloc, World.size_setCell, World.size_drew]); (try dsimp only); omega))
end Go.Proofs.Ytbgpjfiabefajaa
