/- rope: ropes in memory; what is noted of one, its parts, whether it is right: by contract. -/
import Derived.Test.YtiicaldnegcdiaaGreatRopK
import Derived.Test.YtiicaldnegcdiaaGreatRopH
namespace Go.Proofs.YtiicaldnegcdiaaGreat
set_option linter.unusedSimpArgs false
set_option linter.unusedVariables false
set_option linter.unusedSectionVars false
open Go.RowKit

/-- the rope at g, of up to so many bytes, is this tree -/
def IsR (w : World) (g : Nat) (most : Int) (t : Tr) : Prop := ∃ rv, w.heap[g]? = some (.cells #[rv, .int .i64 most] 76) ∧ IsT w t rv
theorem IsR.later {w w' : World} {g : Nat} {most : Int} {t : Tr} (h : IsR w g most t) (ha : AnyLater w w') : IsR w' g most t := by
  obtain ⟨rv, h1, h2⟩ := h
  exact ⟨rv, any_own ha h1, IsT.later ha h2⟩
/-- a tree as a rope keeps it -/
structure Tr.Ok (t : Tr) : Prop where
  fair : t.Fair
  even : t.Even
  len : t.len ≤ 60000
set_option maxRecDepth 100000 in
theorem rnoted_any (g : Nat) (most : Int) (t : Tr) (w : World) (h : IsR w g most t) : Calls Tryz.prog 64 #[.pointer (some ⟨g, 0, none⟩)] w fun e w' => e = .returned (sumV t) ∧ AnyLater w w' := by
  obtain ⟨rv, hg, ht⟩ := h
  have HN := Lib.hid (fun (w' : World) (b : AnyLater w w') => noted_any t rv w' (ht.later b))
  obtain ⟨q, rfl⟩ := ht.ptr
  unfold sumV at HN ⊢
  have lg := own_lt hg
  have ng : w.heap.size ≠ g := by omega
  have r0 := own_row hg
  have HG := Lib.hid hg
  clear ht hg
  generalize t.len = a1 at *
  generalize t.nf = a2 at *
  generalize t.np = a3 at *
  generalize t.lev = a4 at *
  go_enter Tryz.func64, Tryz.ntmps64
  go_wp2_with fail
  have s0 : (w.alloc (.cells #[.int .i64 0, .int .i64 0, .int .i64 0, .int .i64 0] 100)).heap[w.heap.size]? = some (.cells #[.int .i64 0, .int .i64 0, .int .i64 0, .int .i64 0] 100) := heap_new rfl
  refine (HN.out _ (by repeat' (first | with_reducible assumption | with_reducible exact AnyLater.refl _ | with_reducible apply AnyLater.setCell | with_reducible apply AnyLater.later | with_reducible apply AnyLater.drewN | with_reducible apply AnyLater.drew | with_reducible apply AnyLater.alloc | ((try simp only [World.size_alloc, World.size_setCell, World.size_drew]); (try dsimp only); omega)))).mono ?_
  rintro e w2 ⟨rfl, b2⟩
  have s2 := any_own b2 s0
  have r2 := own_row s2
  have f2 := own_free s2
  have aw : AnyLater w w2 := AnyLater.trans (by repeat' (first | with_reducible assumption | with_reducible exact AnyLater.refl _ | with_reducible apply AnyLater.setCell | with_reducible apply AnyLater.later | with_reducible apply AnyLater.drewN | with_reducible apply AnyLater.drew | with_reducible apply AnyLater.alloc | ((try simp only [World.size_alloc, World.size_setCell, World.size_drew]); (try dsimp only); omega))) b2
  clear s0 b2 r0
  go_wp2_with fail
  refine bodyPost_ret (v := .agg #[.int .i64 (a1 : Int), .int .i64 (a2 : Int), .int .i64 (a3 : Int), .int .i64 (a4 : Int)]) (by simp [results, Tryz.results64, go_sem, *]) rfl ⟨rfl, ?_⟩
  repeat' (first | with_reducible assumption | with_reducible exact AnyLater.refl _ | with_reducible apply AnyLater.setCell | with_reducible apply AnyLater.later | with_reducible apply AnyLater.drewN | with_reducible apply AnyLater.drew | with_reducible apply AnyLater.alloc | ((try simp only [World.size_alloc, World.size_setCell, World.size_drew]); (try dsimp only); omega))
theorem rnoted_nil (w : World) : Calls Tryz.prog 64 #[.pointer none] w fun e w' => e = .returned (sumV .nil) ∧ AnyLater w w' := by
  go_enter Tryz.func64, Tryz.ntmps64
  go_wp2_with fail
  refine bodyPost_ret (v := sumV .nil) (by simp [results, Tryz.results64, go_sem, sumV, Tr.len, Tr.nf, Tr.np, Tr.lev]) rfl ⟨rfl, ?_⟩
  repeat' (first | with_reducible assumption | with_reducible exact AnyLater.refl _ | with_reducible apply AnyLater.setCell | with_reducible apply AnyLater.later | with_reducible apply AnyLater.drewN | with_reducible apply AnyLater.drew | with_reducible apply AnyLater.alloc | ((try simp only [World.size_alloc, World.size_setCell, World.size_drew]); (try dsimp only); omega))
/-- a rope, or none: what it is taken for where it is asked how much it is -/
def IsRN (w : World) (v : Value) (t : Tr) : Prop := (v = .pointer none ∧ t = .nil) ∨ ∃ g most, v = .pointer (some ⟨g, 0, none⟩) ∧ IsR w g most t
theorem IsRN.later {w w' : World} {v : Value} {t : Tr} (h : IsRN w v t) (ha : AnyLater w w') : IsRN w' v t := by
  rcases h with h | ⟨g, most, e, h⟩
  · exact .inl h
  · exact .inr ⟨g, most, e, h.later ha⟩
theorem rnote_any (v : Value) (t : Tr) (w : World) (h : IsRN w v t) : Calls Tryz.prog 64 #[v] w fun e w' => e = .returned (sumV t) ∧ AnyLater w w' := by
  rcases h with ⟨rfl, rfl⟩ | ⟨g, most, rfl, h⟩
  · exact rnoted_nil w
  · exact rnoted_any g most t w h
set_option maxRecDepth 100000 in
theorem rlen_any (v : Value) (t : Tr) (w : World) (h : IsRN w v t) : Calls Tryz.prog 56 #[v] w fun e w' => e = .returned (.int .i64 (t.len : Int)) ∧ AnyLater w w' := by
  have HN := Lib.hid (rnote_any v t w h)
  unfold sumV at HN
  have f0 := fld0
  clear h
  go_enter Tryz.func56, Tryz.ntmps56
  go_wp2_with fail
  refine HN.out.mono ?_
  rintro e w2 ⟨rfl, b2⟩
  go_wp2_with fail
  go_ret
  exact ⟨rfl, b2⟩
set_option maxRecDepth 100000 in
theorem rbreaks_any (v : Value) (t : Tr) (w : World) (h : IsRN w v t) : Calls Tryz.prog 43 #[v] w fun e w' => e = .returned (.int .i64 (t.nf : Int)) ∧ AnyLater w w' := by
  have HN := Lib.hid (rnote_any v t w h)
  unfold sumV at HN
  have f0 := fld1
  clear h
  go_enter Tryz.func43, Tryz.ntmps43
  go_wp2_with fail
  refine HN.out.mono ?_
  rintro e w2 ⟨rfl, b2⟩
  go_wp2_with fail
  go_ret
  exact ⟨rfl, b2⟩
end Go.Proofs.YtiicaldnegcdiaaGreat
