/- runs: what the program's functions are to tell; lives; RunsTells, walked. -/
import Derived.Test.YtimplngemjdodaaDoorRunD
import Derived.Deep.RegionHeld
namespace Go.Proofs.YtimplngemjdodaaDoor
set_option linter.unusedSimpArgs false
set_option linter.unusedVariables false
set_option linter.unusedSectionVars false
open Go.RowKit

/-- runs in memory that holds runs -/
def RRt (w : World) (v : Value) (l : Runs) : Prop := RRn w v l ∧ ∀ b, vblk v = some b → ∃ cs, w.heap[b]? = some (.cells cs 48)
theorem RRt.later {w w' : World} {v : Value} {l : Runs} (h : RRt w v l) (ha : AnyLater w w') : RRt w' v l := ⟨h.1.later ha, fun b hb => by
  obtain ⟨cs, hcs⟩ := h.2 b hb
  exact ⟨cs, any_own ha hcs⟩⟩
theorem ORn.typed {w : World} {B : Nat} {v : Value} {l : Runs} (h : ORn w B v l) : RRt w v l := ⟨h.reads, fun b hb => by
  rcases h.2 with ⟨rfl, _⟩ | ⟨g, cap, cur, rfl, h2, h3, _⟩
  · cases hb
  · cases hb
    exact ⟨cur, h3⟩⟩
/-- a store into memory that holds no runs -/
theorem RRt.far {w : World} {v : Value} {l : Runs} {g i : Nat} {cs : Array Value} {t : TypeId} {x : Value} (h : RRt w v l) (hg : w.heap[g]? = some (.cells cs t)) (ht : t ≠ 48) : RRt (w.setCell ⟨g, i, none⟩ x) v l := by
  have hne : ∀ b, vblk v = some b → b ≠ g := fun b hb e => by
    obtain ⟨c2, h2⟩ := h.2 b hb
    rw [e, hg] at h2
    cases h2
    exact ht rfl
  refine ⟨?_, fun b hb => ?_⟩
  · obtain ⟨A, cap, rfl, h2, h3⟩ := h.1
    refine ⟨A, cap, rfl, h2, fun h0 => ?_⟩
    obtain ⟨b, off, rfl, hb, hc⟩ := h3 h0
    have hbg : g ≠ b := fun e => hne b rfl e.symm
    refine ⟨b, off, rfl, by simpa using hb, fun j hj => ?_⟩
    rw [World.cell?_setCell_far _ _ _ _ hbg, World.cell?_setCell_far _ _ _ _ hbg]
    exact hc j hj
  · obtain ⟨c2, h2⟩ := h.2 b hb
    exact ⟨c2, heap_far (hne b hb) h2⟩
/-- a call that answers with runs, and changes nothing that was -/
def Tells1 (W : World) (m : Runs) (e : Ending) (w' : World) : Prop := ∃ u, e = .returned u ∧ AnyLater W w' ∧ RRt w' u m
/-- a call that answers with runs and a code -/
def Tells2 (W : World) (m : Runs) (c : Int) (e : Ending) (w' : World) : Prop := ∃ u, e = .returned (.tuple #[u, .int .i64 c]) ∧ AnyLater W w' ∧ RRt w' u m
/-- runs that a function is asked about -/
def Asks (w : World) (v : Value) (l : Runs) : Prop := RRt w v l ∧ NumsR l ∧ l.length ≤ 40000
theorem Asks.later {w w' : World} {v : Value} {l : Runs} (h : Asks w v l) (ha : AnyLater w w') : Asks w' v l := ⟨h.1.later ha, h.2⟩
theorem goodS_i64 {s : Int} (h : goodS s = true) : I64s s := by have := goodS_in h; constructor <;> omega
theorem nums_of {l : List Int} (h : ∀ s ∈ l, goodS s = true) (hl : l.length ≤ 16777216) : NumsR (ofR l) := fun r hr => by
  have := ofR_fair h r hr
  exact ⟨by constructor <;> omega, goodS_i64 this.2.2⟩
theorem nums_tidy (l : Runs) : NumsR (tidyR l) := nums_of sR_good (sR_len l)
end Go.Proofs.YtimplngemjdodaaDoor
