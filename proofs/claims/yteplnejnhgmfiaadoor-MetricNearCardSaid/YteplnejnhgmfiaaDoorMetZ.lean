/- metric: how an argument is opened that is a row that is laid out, or a slice of such rows. -/
import Derived.Test.YteplnejnhgmfiaaDoorMetA
import Derived.Test.YteplnejnhgmfiaaDoorCelZ
import Derived.Test.YteplnejnhgmfiaaDoorNumZ
namespace Go.Proofs.YteplnejnhgmfiaaDoor
set_option linter.unusedSimpArgs false
set_option linter.unusedVariables false
set_option linter.unusedSectionVars false
open Go.ChangeShapes Go.WideShapes Go.ChangeAt Go.RowKit Go.Deep

theorem mcellsI : Tryd.prog.cellsOf 3 = 1 := by kernel_rfl
theorem mcellsB : Tryd.prog.cellsOf 4 = 1 := by kernel_rfl
theorem mcellsCS : Tryd.prog.cellsOf 41 = 1 := by kernel_rfl
theorem mcellsIS : Tryd.prog.cellsOf 33 = 1 := by kernel_rfl
theorem mcellsL : Tryd.prog.cellsOf 43 = 7 := by kernel_rfl
section
variable {H : Type} {enc : TypeId × Value → H} {w : World} {base : Nat} {spare : Nat → Bool} {held : Bool}
set_option maxRecDepth 100000 in
/-- the seven cells of a row -/
theorem trod_laid {fuel : Nat} {cs : List Value} {x : DataW H × List MemPlace} (h : DataW.trod enc Tryd.prog w base spare held fuel 43 cs = some x) : ∃ (q : LdV) (r : Ld), cs = ldF.fl q ∧ IsLd w q r ∧ LdOk r := by
  obtain ⟨xs, m, _, _, hcl, hl, hi⟩ := DataW.trod_struct Tryd.underlying43 h
  have hlen : cs.length = 7 := hcl.trans mcellsL
  match cs, hlen, xs, hl with
  | [v0, v1, v2, v3, v4, v5, v6], _, [x0, x1, x2, x3, x4, x5, x6], _ =>
    have g0 := hi 0 _ rfl
    have g1 := hi 1 _ rfl
    have g2 := hi 2 _ rfl
    have g3 := hi 3 _ rfl
    have g4 := hi 4 _ rfl
    have g5 := hi 5 _ rfl
    have g6 := hi 6 _ rfl
    simp [mcellsI, mcellsB, mcellsCS, mcellsIS] at g0 g1 g2 g3 g4 g5 g6
    obtain ⟨l0, k0, o0⟩ := trod_cels g0
    obtain ⟨l1, k1, o1⟩ := trod_nums Tryd.underlying33 Tryd.underlying3 mcellsI g1
    obtain ⟨n2, e2, _, q2⟩ := DataW.trod_int Tryd.underlying3 g2
    obtain ⟨n3, e3, _, q3⟩ := DataW.trod_int Tryd.underlying3 g3
    obtain ⟨n4, e4, _, q4⟩ := DataW.trod_int Tryd.underlying3 g4
    obtain ⟨n5, e5, _, q5⟩ := DataW.trod_int Tryd.underlying3 g5
    obtain ⟨b6, e6, _⟩ := DataW.trod_bool Tryd.underlying4 g6
    cases e2; cases e3; cases e4; cases e5; cases e6
    obtain ⟨A0, c0, rfl, -⟩ := k0.form
    obtain ⟨A1, c1, rfl, -⟩ := k1.form
    exact ⟨⟨A0, _, c0, A1, _, c1, n2, n3, n4, n5, b6⟩, ⟨l0, l1, n2, n3, n4, n5, b6⟩, rfl, ⟨⟨k0, k1⟩, rfl, rfl, rfl, rfl, rfl⟩, ⟨bnd_i64 q2, bnd_i64 q3, bnd_i64 q4, bnd_i64 q5⟩, o0, fun y hy => bnd_i64 (o1 y hy)⟩
end
set_option maxRecDepth 100000 in
/-- a row by value -/
theorem open_laid {H : Type} {enc : TypeId × Value → H} {w : World} {b0 : Nat} {r : Reach} {v : Value} {d : DataW H} {p : List MemPlace}
    (hv : Value.okWide Tryd.prog w r b0 43 v) (h : DataW.Trod enc Tryd.prog w 0 (fun _ => true) true 43 v d p) :
    ∃ a1 k1 a2 k2, ∃ r : Ld, v = .agg #[.slice a1 r.cs.length k1, .slice a2 r.xs.length k2, .int .i64 r.up, .int .i64 r.dn, .int .i64 r.fr, .int .i64 r.en, .bool r.la] ∧ FR celF w (.slice a1 r.cs.length k1) r.cs ∧ RI w (.slice a2 r.xs.length k2) r.xs ∧ LdOk r := by
  have hagg : ∃ cs : Array Value, v = .agg cs := by
    unfold Value.okWide at hv
    rw [Tryd.underlying43] at hv
    obtain ⟨cs, rfl, _⟩ := hv
    exact ⟨cs, rfl⟩
  obtain ⟨cs, rfl⟩ := hagg
  obtain ⟨fuel, hf⟩ := h
  obtain ⟨q, r, e, ⟨⟨h1, h2⟩, h3, h4, h5, h6, h7⟩, hok⟩ := trod_laid hf
  obtain ⟨A1, c1, e1, -⟩ := h1.form
  obtain ⟨A2, c2, e2, -⟩ := h2.form
  refine ⟨A1, c1, A2, c2, r, ?_, by rw [← e1]; exact h1, by rw [← e2]; exact h2, hok⟩
  have e0 : cs.toList = ldF.fl q := e
  have : ldF.fl q = [.slice A1 r.cs.length c1, .slice A2 r.xs.length c2, .int .i64 r.up, .int .i64 r.dn, .int .i64 r.fr, .int .i64 r.en, .bool r.la] := by
    unfold ldF
    simp only [e1, e2, h3, h4, h5, h6, h7]
  rw [this] at e0
  rw [← e0]
set_option maxRecDepth 100000 in
/-- a slice of rows -/
theorem open_laids {H : Type} {enc : TypeId × Value → H} {w : World} {b0 : Nat} {r : Reach} {v : Value} {d : DataW H} {p : List MemPlace}
    (hv : Value.okWide Tryd.prog w r b0 29 v) (h : DataW.Trod enc Tryd.prog w 0 (fun _ => true) true 29 v d p) : ∃ L : List Ld, LR w v L ∧ LdsOk L := by
  obtain ⟨a0, len, cap, rfl⟩ := okWide_slice Tryd.underlying29 hv
  obtain ⟨fuel, hf⟩ := h
  rcases open_slice Tryd.underlying29 hf with ⟨hcs, _⟩ | ⟨a, len', cap', m, n, D, Pl, hcs, _, hl, _, hm, _, hx⟩
  · simp [Value.cells] at hcs
    obtain ⟨rfl, rfl, rfl⟩ := hcs
    exact ⟨[], LR.void _ _ _, fun r hr => by cases hr⟩
  · simp [Value.cells] at hcs
    obtain ⟨rfl, rfl, rfl⟩ := hcs
    simp only [if_true] at hm
    have rows : ∀ i, i < len → ∃ qr : LdV × Ld, (IsLd w qr.1 qr.2 ∧ LdOk qr.2) ∧ ∀ k, k < 7 → w.cell? (a.add (i * 7 + k)) = (ldF.fl qr.1)[k]? := by
      intro i hi
      obtain ⟨cs', h1, h2⟩ := hx i (by omega)
      rw [mcellsL] at h1
      obtain ⟨_, hlen, hcell⟩ := World.cells?_some h1
      obtain ⟨q, r, e, hq, hr⟩ := trod_laid h2
      refine ⟨(q, r), ⟨hq, hr⟩, fun k hk => ?_⟩
      have := hcell k hk
      rw [add_add] at this
      rw [this, e]
    have hdef : Inhabited (LdV × Ld) := ⟨(⟨none, 0, 0, none, 0, 0, 0, 0, 0, 0, false⟩, ⟨[], [], 0, 0, 0, 0, false⟩)⟩
    have choice : ∃ f : Nat → LdV × Ld, ∀ i, i < len → (IsLd w (f i).1 (f i).2 ∧ LdOk (f i).2) ∧ ∀ k, k < 7 → w.cell? (a.add (i * 7 + k)) = (ldF.fl (f i).1)[k]? :=
      ⟨fun i => if h : i < len then Classical.choose (rows i h) else hdef.default, fun i hi => by simp only [dif_pos hi]; exact Classical.choose_spec (rows i hi)⟩
    obtain ⟨f, hf2⟩ := choice
    refine ⟨(List.range len).map fun i => (f i).2, ⟨(List.range len).map fun i => (f i).1, fr_of_cells _ (by simp) hl (fun j hj i x hx => ?_), by simp, fun j hj hj' => ?_⟩, fun r hr => ?_⟩
    · have hj' : j < len := by simpa using hj
      simp only [List.getElem_map, List.getElem_range] at hx
      have hi7 : i < 7 := (List.getElem?_eq_some_iff.1 hx).1
      rw [← hx]
      exact (hf2 j hj').2 i hi7
    · have hj2 : j < len := by simpa using hj
      simp only [List.getElem_map, List.getElem_range]
      exact (hf2 j hj2).1.1
    · obtain ⟨i, hi, rfl⟩ := List.mem_map.1 hr
      exact (hf2 i (List.mem_range.1 hi)).1.2
end Go.Proofs.YteplnejnhgmfiaaDoor
