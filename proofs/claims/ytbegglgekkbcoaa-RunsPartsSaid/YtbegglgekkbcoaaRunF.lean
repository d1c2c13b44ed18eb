/- runs: what the program's functions are to tell; lives; RunsTells, walked. -/
import Derived.Test.YtbegglgekkbcoaaRunE
import Derived.Deep.RegionHeld
namespace Go.Proofs.Ytbegglgekkbcoaa
set_option linter.unusedSimpArgs false
set_option linter.unusedVariables false
set_option linter.unusedSectionVars false
open Go.RowKit

/-- runs in memory that holds runs -/
def RRt (w : World) (v : Value) (l : Runs) : Prop := RRn w v l ∧ ∀ b, vblk v = some b → ∃ cs, w.heap[b]? = some (.cells cs 45)
theorem RRt.later {w w' : World} {v : Value} {l : Runs} (h : RRt w v l) (ha : AnyLater w w') : RRt w' v l := ⟨h.1.later ha, fun b hb => by
  obtain ⟨cs, hcs⟩ := h.2 b hb
  exact ⟨cs, any_own ha hcs⟩⟩
theorem ORn.typed {w : World} {B : Nat} {v : Value} {l : Runs} (h : ORn w B v l) : RRt w v l := ⟨h.reads, fun b hb => by
  rcases h.2 with ⟨rfl, _⟩ | ⟨g, cap, cur, rfl, h2, h3, _⟩
  · cases hb
  · cases hb
    exact ⟨cur, h3⟩⟩
/-- a store into memory that holds no runs -/
theorem RRt.far {w : World} {v : Value} {l : Runs} {g i : Nat} {cs : Array Value} {t : TypeId} {x : Value} (h : RRt w v l) (hg : w.heap[g]? = some (.cells cs t)) (ht : t ≠ 45) : RRt (w.setCell ⟨g, i, none⟩ x) v l := by
  have hne : ∀ b, vblk v = some b → b ≠ g := fun b hb e => by
    obtain ⟨c2, h2⟩ := h.2 b hb
    rw [e, hg] at h2
    cases h2
    exact ht rfl
  refine ⟨?_, fun b hb => ?_⟩
  · obtain ⟨A, cap, rfl, h2, h3⟩ := h.1
    refine ⟨A, cap, rfl, h2, fun h0 => ?_⟩
    obtain ⟨b, off, rfl, hb, hc⟩ := h3 h0
    have hbg : g ≠ b := fun e => hne b rfl e.symm
    refine ⟨b, off, rfl, by simpa using hb, fun j hj => ?_⟩
    rw [World.cell?_setCell_far _ _ _ _ hbg, World.cell?_setCell_far _ _ _ _ hbg]
    exact hc j hj
  · obtain ⟨c2, h2⟩ := h.2 b hb
    exact ⟨c2, heap_far (hne b hb) h2⟩
/-- a call that answers with runs, and changes nothing that was -/
def Tells1 (W : World) (m : Runs) (e : Ending) (w' : World) : Prop := ∃ u, e = .returned u ∧ AnyLater W w' ∧ RRt w' u m
/-- a call that answers with runs and a code -/
def Tells2 (W : World) (m : Runs) (c : Int) (e : Ending) (w' : World) : Prop := ∃ u, e = .returned (.tuple #[u, .int .i64 c]) ∧ AnyLater W w' ∧ RRt w' u m
/-- runs that a function is asked about -/
def Asks (w : World) (v : Value) (l : Runs) : Prop := RRt w v l ∧ NumsR l ∧ l.length ≤ 40000
structure RSays : Prop where
  good : ∀ {w : World} {v : Value} (l : Runs) (c : Bool), decide (tidyR l = l) = c → Asks w v l → Calls Try.prog 15 #[v] w fun e w' => e = .returned (.bool c) ∧ AnyLater w w'
  tidy : ∀ {w : World} {v : Value} (l m : Runs), tidyR l = m → Asks w v l → Calls Try.prog 12 #[v] w (Tells1 w m)
  len : ∀ {w : World} {v : Value} (l : Runs) (n : Nat), (sR l).length = n → Asks w v l → Calls Try.prog 16 #[v] w fun e w' => e = .returned (.int .i64 (n : Int)) ∧ AnyLater w w'
  style : ∀ {w : World} {v : Value} (l : Runs) (i c : Int), atR l i = c → Asks w v l → I64s i → Calls Try.prog 17 #[v, .int .i64 i] w fun e w' => e = .returned (.int .i64 c) ∧ AnyLater w w'
  set : ∀ {w : World} {v : Value} (l m : Runs) (f t s c : Int), setR l f t s = (m, c) → Asks w v l → I64s f → I64s t → I64s s → Calls Try.prog 18 #[v, .int .i64 f, .int .i64 t, .int .i64 s] w (Tells2 w m c)
  ins : ∀ {w : World} {v : Value} (l m : Runs) (a n c : Int), insR l a n = (m, c) → Asks w v l → I64s a → I64s n → Calls Try.prog 20 #[v, .int .i64 a, .int .i64 n] w (Tells2 w m c)
  del : ∀ {w : World} {v : Value} (l m : Runs) (a n c : Int), delR l a n = (m, c) → Asks w v l → I64s a → I64s n → Calls Try.prog 21 #[v, .int .i64 a, .int .i64 n] w (Tells2 w m c)
  part : ∀ {w : World} {v : Value} (l m : Runs) (f t : Int), partR l f t = m → Asks w v l → I64s f → I64s t → Calls Try.prog 23 #[v, .int .i64 f, .int .i64 t] w (Tells1 w m)
theorem Asks.later {w w' : World} {v : Value} {l : Runs} (h : Asks w v l) (ha : AnyLater w w') : Asks w' v l := ⟨h.1.later ha, h.2⟩
theorem goodS_i64 {s : Int} (h : goodS s = true) : I64s s := by have := goodS_in h; constructor <;> omega
theorem nums_of {l : List Int} (h : ∀ s ∈ l, goodS s = true) (hl : l.length ≤ 16777216) : NumsR (ofR l) := fun r hr => by
  have := ofR_fair h r hr
  exact ⟨by constructor <;> omega, goodS_i64 this.2.2⟩
theorem nums_tidy (l : Runs) : NumsR (tidyR l) := nums_of sR_good (sR_len l)
set_option maxRecDepth 100000 in
set_option maxHeartbeats 1600000 in
theorem rlives_any (T : RSays) (w : World) : Calls Try.prog 10 #[] w fun e w' => e = .returned (.bool true) ∧ AnyLater w w' := by
  have hn2 : NumsR [(2, 5)] := fun r hr => by cases List.mem_singleton.1 hr; exact ⟨by constructor <;> omega, by constructor <;> omega⟩
  have hn5 : NumsR [(5, 5)] := fun r hr => by cases List.mem_singleton.1 hr; exact ⟨by constructor <;> omega, by constructor <;> omega⟩
  have HI := Lib.hid (fun (w : World) v (h : RRt w v [(2, 5)]) => T.ins (w := w) (v := v) [(2, 5)] [(5, 5)] 1 3 0 (by decide) ⟨h, hn2, by simp⟩ (by constructor <;> omega) (by constructor <;> omega))
  have HG := Lib.hid (fun (w : World) v (h : RRt w v [(5, 5)]) => T.good (w := w) (v := v) [(5, 5)] true (by decide) ⟨h, hn5, by simp⟩)
  have gb := guard_run
  have eb := eqlRun
  clear T hn2 hn5
  go_enter Try.func10, Try.ntmps10
  go_wp2_with fail
  have hr : RRt (w.alloc (.cells #[.int .i64 2, .int .i64 5] 45)) (.slice (some ⟨w.heap.size, 0, none⟩) 1 1) [(2, 5)] := (ORn.one (B := 0) (Nat.zero_le _) (heap_new rfl)).typed
  refine (HI.out _ _ hr).mono ?_
  rintro e w1 ⟨u, rfl, b1, r1⟩
  have HR1 := Lib.hid r1
  have HA1 : Hid (AnyLater w w1) := Lib.hid (((AnyLater.refl w).alloc _).trans b1)
  obtain ⟨A, cap, rfl, h2, h3⟩ := r1.1
  obtain ⟨b, off, rfl, hb, hc⟩ := h3 (by simp)
  obtain ⟨c0, c1⟩ := hc 0 (by simp)
  have c0 : w1.cell? ⟨b, off, none⟩ = some (.int .i64 5) := c0
  have c1 : w1.cell? ⟨b, off + 1, none⟩ = some (.int .i64 5) := c1
  clear hc h3 hr b1
  simp only [List.length_cons, List.length_nil, Nat.zero_add] at *
  go_wp2_with (go_at_call 15; refine (HG.out _ _ HR1.out).mono ?_; rintro e w2 ⟨rfl, b2⟩; have HA2 := Lib.hid (HA1.out.trans b2); clear b2)
  go_ret
  exact ⟨rfl, HA2.out⟩
end Go.Proofs.Ytbegglgekkbcoaa
