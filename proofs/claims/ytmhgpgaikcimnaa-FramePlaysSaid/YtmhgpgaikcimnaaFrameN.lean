/- frame: FrameNone: what is told of no frame. -/
import Derived.Test.YtmhgpgaikcimnaaFrameK
namespace Go.Proofs.Ytmhgpgaikcimnaa
set_option linter.unusedSimpArgs false
set_option linter.unusedVariables false
set_option linter.unusedSectionVars false
open Go.RowKit

/-- what the program's functions are to tell of no frame -/
structure NSays : Prop where
  size : ∀ (w : World), Calls Try.prog 21 #[.pointer none] w fun e w' => e = .returned (.tuple #[.int .i64 0, .int .i64 0]) ∧ AnyLater w w'
  at_ : ∀ (w : World) (x y : Int), I64 x → I64 y → Calls Try.prog 14 #[.pointer none, .int .i64 x, .int .i64 y] w fun e w' => e = .returned (.int .u32 0) ∧ AnyLater w w'
  fill : ∀ (w : World) (r : Rt) (c : Int), r.I64 → U32 c → Calls Try.prog 22 #[.pointer none, rtV r, .int .u32 c] w fun e w' => e = .returned (.int .i64 0) ∧ AnyLater w w'
  dots : ∀ (w : World) (v : Value) (l : List Rt) (c : Int), RRt w v l → (∀ r ∈ l, r.I64) → l.length ≤ 100 → U32 c → Calls Try.prog 23 #[.pointer none, v, .int .u32 c] w fun e w' => e = .returned (.int .i64 0) ∧ AnyLater w w'
  shift : ∀ (w : World) (d : Int), I64 d → Calls Try.prog 18 #[.pointer none, .int .i64 d] w fun e w' => e = .returned (.tuple #[]) ∧ AnyLater w w'
  line : ∀ (w : World) (y : Int), I64 y → Calls Try.prog 17 #[.pointer none, .int .i64 y] w fun e w' => ∃ v, e = .returned v ∧ AnyLater w w' ∧ RU w' v []
  lay : ∀ (w : World) (y : Int), I64 y → Calls Try.prog 24 #[.pointer none, .int .i64 y, .slice none 0 0] w fun e w' => e = .returned (.bool false) ∧ AnyLater w w'
  writes : ∀ (w : World), Calls Try.prog 12 #[.pointer none] w fun e w' => e = .returned (.int .i64 0) ∧ AnyLater w w'
  clone : ∀ (w : World), Calls Try.prog 19 #[.pointer none] w fun e w' => e = .returned (.pointer none) ∧ AnyLater w w'
section
variable {Fr : World → Nat → FM → (Nat → Prop) → Prop}
set_option maxRecDepth 100000 in
set_option maxHeartbeats 12800000 in
theorem frameNone_any (F : FSays Fr) (N : NSays) (w : World) (A : AM) (hA : A.Ok w) :
    Calls Try.prog 7 #[actV A] w fun e w' => e = .returned (.bool true) ∧ AnyLater w w' := by
  have HN := Lib.hid N
  have CV := Lib.hid (fun w' => lives_any F w')
  have HO := Lib.hid hA
  clear F N hA
  unfold actV
  go_enter Try.func7, Try.ntmps7
  go_wp2_with fail
  first | refine settle_wp (fun wS => AnyLater w wS ∧ wS.heap[w.heap.size]? = some (.cells #[.int .i64 A.kind, .int .i64 A.n, .int .i64 A.r.x, .int .i64 A.r.y, .int .i64 A.r.a, .int .i64 A.r.b, .int .u32 A.c, A.v] 36)) ?_ ?_ | refine settle_calls (fun wS => AnyLater w wS ∧ wS.heap[w.heap.size]? = some (.cells #[.int .i64 A.kind, .int .i64 A.n, .int .i64 A.r.x, .int .i64 A.r.y, .int .i64 A.r.a, .int .i64 A.r.b, .int .u32 A.c, A.v] 36)) ?_ ?_
  · refine ⟨?_, ?_⟩
    · repeat' (first | with_reducible assumption | with_reducible exact AnyLater.refl _ | with_reducible apply AnyLater.setCell | with_reducible apply AnyLater.later | with_reducible apply AnyLater.drewN | with_reducible apply AnyLater.drew | with_reducible apply AnyLater.alloc | ((try simp only [World.size_alloc, World.size_setCell, World.size_drew]); (try dsimp only); omega))
    · ((repeat (first | with_reducible assumption | ((with_reducible apply heap_new); (try simp only [World.size_alloc, World.size_setCell, World.size_drew, World.heap_drewN]); done) | ((with_reducible apply heap_new); (try simp only [World.size_alloc, World.size_setCell, World.size_drew, World.heap_drewN]); omega) | (with_reducible refine heap_old (by (try simp only [World.size_alloc, World.size_setCell, World.size_drew, World.heap_drewN]); omega) ?_) | (with_reducible refine heap_drew ?_) | (with_reducible refine heap_far (by omega) ?_) | (with_reducible apply heap_at))); all_goals rfl)
  rintro w1 ⟨b_w1, s0_w1⟩
  have a_w1 := b_w1
  have r0_w1 := own_row s0_w1
  have f0_w1 := own_free s0_w1
  have l0_w1 := own_lt s0_w1
  have z_w1 := b_w1.below.size
  refine (HN.out.size w1).mono ?_
  rintro e w2 ⟨rfl, b_w2⟩
  have a_w2 := b_w1.trans b_w2
  have s0_w2 := any_own b_w2 s0_w1
  have r0_w2 := own_row s0_w2
  clear r0_w1 b_w2
  go_wp2_with fail
  refine (HN.out.shift w2 A.n HO.out.n).mono ?_
  rintro e w3 ⟨rfl, b_w3⟩
  have a_w3 := a_w2.trans b_w3
  have s0_w3 := any_own b_w3 s0_w2
  have r0_w3 := own_row s0_w3
  clear r0_w2 b_w3
  go_wp2_with fail
  refine (HN.out.at_ w3 0 0 (by unfold I64; omega) (by unfold I64; omega)).mono ?_
  rintro e w4 ⟨rfl, b_w4⟩
  have a_w4 := a_w3.trans b_w4
  have s0_w4 := any_own b_w4 s0_w3
  have r0_w4 := own_row s0_w4
  clear r0_w3 b_w4
  go_wp2_with fail
  refine (HN.out.fill w4 A.r A.c HO.out.r HO.out.c).mono ?_
  rintro e w5 ⟨rfl, b_w5⟩
  have a_w5 := a_w4.trans b_w5
  have s0_w5 := any_own b_w5 s0_w4
  have r0_w5 := own_row s0_w5
  clear r0_w4 b_w5
  have l0_w5 := own_lt s0_w5
  have hd : RRt (w5.alloc (.cells #[.int .i64 A.r.x, .int .i64 A.r.y, .int .i64 A.r.a, .int .i64 A.r.b] 32)) (.slice (some ⟨w5.heap.size, 0, none⟩) 1 1) [A.r] := by
    refine ⟨_, 1, rfl, by rw [World.size_alloc]; omega, fun j hj => ?_⟩
    obtain rfl : j = 0 := by simpa using hj
    have h := fun j => own_row (heap_new (w := w5) (o := .cells #[.int .i64 A.r.x, .int .i64 A.r.y, .int .i64 A.r.a, .int .i64 A.r.b] 32) rfl) j
    exact ⟨h 0, h 1, h 2, h 3⟩
  have HD := Lib.hid hd
  clear hd
  go_wp2_with fail
  refine (HN.out.dots _ _ [A.r] A.c HD.out (fun r hr => by rw [List.mem_singleton.1 hr]; exact HO.out.r) (by simp) HO.out.c).mono ?_
  rintro e w6 ⟨rfl, b_w6⟩
  have a_w6 := a_w5.trans (((AnyLater.refl w5).alloc _).trans b_w6)
  clear s0_w5 r0_w5 l0_w5 b_w6 HD
  go_wp2_with fail
  refine (HN.out.line w6 0 (by unfold I64; omega)).mono ?_
  rintro e w7 ⟨v7, rfl, b_w7, h7⟩
  obtain ⟨Ad, cap, rfl, _⟩ := h7
  have a_w7 := a_w6.trans b_w7
  clear b_w7
  go_wp2_with fail
  refine (HN.out.lay w7 0 (by unfold I64; omega)).mono ?_
  rintro e w8 ⟨rfl, b_w8⟩
  have a_w8 := a_w7.trans b_w8
  clear b_w8
  go_wp2_with fail
  refine (HN.out.writes w8).mono ?_
  rintro e w9 ⟨rfl, b_w9⟩
  have a_w9 := a_w8.trans b_w9
  clear b_w9
  go_wp2_with fail
  refine (HN.out.clone w9).mono ?_
  rintro e w10 ⟨rfl, b_w10⟩
  have a_w10 := a_w9.trans b_w10
  clear b_w10
  go_wp2_with fail
  refine (CV.out w10).mono ?_
  rintro e w11 ⟨rfl, b_w11⟩
  go_wp2_with fail
  go_ret
  exact ⟨rfl, a_w10.trans b_w11⟩
end
end Go.Proofs.Ytmhgpgaikcimnaa
