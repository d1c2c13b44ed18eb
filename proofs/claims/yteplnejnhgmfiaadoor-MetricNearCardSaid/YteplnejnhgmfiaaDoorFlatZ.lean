/- How arguments are opened that are slices of structs whose fields are each one number, whatever the struct (text Flat). -/
import Derived.Test.YteplnejnhgmfiaaDoorFlat
import Derived.Test.YteplnejnhgmfiaaDoorLaw
import Derived.OpenShut
import Derived.Deep.SlicePairs
namespace Go.Proofs.YteplnejnhgmfiaaDoor
set_option linter.unusedSimpArgs false
set_option linter.unusedVariables false
set_option linter.unusedSectionVars false
open Go.ChangeShapes Go.WideShapes Go.ChangeAt Go.RowKit Go.Deep

/-- each field is a number of its kind, and lies where its number is -/
def FieldsOk (P : Program) : List Field → List IntKind → Nat → Prop
  | [], [], _ => True
  | f :: fs, k :: ks, i => (f.offset = i ∧ P.cellsOf f.type = 1 ∧ P.underlying f.type = some (.int k)) ∧ FieldsOk P fs ks (i + 1)
  | _, _, _ => False
theorem FieldsOk.len {P : Program} : ∀ {fs : List Field} {ks : List IntKind} {i : Nat}, FieldsOk P fs ks i → fs.length = ks.length
  | [], [], _, _ => rfl
  | _ :: _, _ :: _, _, h => by rw [List.length_cons, List.length_cons, h.2.len]
  | [], _ :: _, _, h => h.elim
  | _ :: _, [], _, h => h.elim
theorem FieldsOk.get {P : Program} : ∀ {fs : List Field} {ks : List IntKind} {i : Nat}, FieldsOk P fs ks i → ∀ {j : Nat} {f : Field} {k : IntKind}, fs[j]? = some f → ks[j]? = some k → f.offset = i + j ∧ P.cellsOf f.type = 1 ∧ P.underlying f.type = some (.int k)
  | [], [], _, _, j, _, _, hf, _ => by simp at hf
  | f :: fs, k :: ks, i, h, 0, _, _, hf, hk => by
    simp only [List.getElem?_cons_zero, Option.some.injEq] at hf hk
    subst hf hk
    exact ⟨h.1.1, h.1.2⟩
  | f :: fs, k :: ks, i, h, j + 1, _, _, hf, hk => by
    rw [List.getElem?_cons_succ] at hf hk
    have := h.2.get hf hk
    exact ⟨by omega, this.2⟩
  | [], _ :: _, _, h, _, _, _, _, _ => h.elim
  | _ :: _, [], _, h, _, _, _, _, _ => h.elim
/-- the numbers of a slice of structs -/
theorem trod_flats {H : Type} {enc : TypeId × Value → H} {P : Program} {w : World} {base : Nat} {spare : Nat → Bool} {held : Bool} {fuel : Nat} {t e : TypeId} {fs : Array Field} {v : Value} {x : DataW H × List MemPlace} (ks : List IntKind) (ht : P.underlying t = some (.slice e)) (he : P.underlying e = some (.struct fs)) (ce : P.cellsOf e = ks.length)
    (hfs : FieldsOk P fs.toList ks 0) (hf : DataW.trod enc P w base spare held fuel t [v] = some x) :
    v = .slice none 0 0 ∨ ∃ (a : Addr) (len cap : Nat) (f : Nat → Nat → Int), v = .slice (some a) len cap ∧ len ≤ cap ∧ ∀ i, i < len → ∀ (j : Nat) (k : IntKind), ks[j]? = some k → w.cell? (a.add (i * ks.length + j)) = some (.int k (f i j)) ∧ (Lit.int k (f i j)).wf = true := by
  rcases open_slice ht hf with ⟨hcs, _⟩ | ⟨a, len, cap, m, n, D, Pl, hcs, _, hl, hm, hmm, _, hcell⟩
  · cases hcs
    exact .inl rfl
  · right
    cases hcs
    have hlm : len ≤ m := by rw [hmm]; split <;> omega
    have nums : ∀ i, i < len → ∀ j, ∃ x : Int, ∀ k, ks[j]? = some k → w.cell? (a.add (i * ks.length + j)) = some (.int k x) ∧ (Lit.int k x).wf = true := by
      intro i hi j
      rcases hk : ks[j]? with _ | k
      · exact ⟨0, fun k hk => by cases hk⟩
      · obtain ⟨cs', h1, h2⟩ := hcell i (by omega)
        rw [ce] at h1
        obtain ⟨_, hlen, hc⟩ := World.cells?_some h1
        obtain ⟨xs, q, _, _, _, hxl, hfld⟩ := DataW.trod_struct he h2
        have hj : j < ks.length := (List.getElem?_eq_some_iff.1 hk).1
        have hjf : j < fs.toList.length := by rw [hfs.len]; exact hj
        have hff : fs.toList[j]? = some fs.toList[j] := List.getElem?_eq_getElem hjf
        obtain ⟨g1, g2, g3⟩ := hfs.get hff hk
        have g := hfld j fs.toList[j] (by rw [← Array.getElem?_toList]; exact hff)
        rw [g1, g2, Nat.zero_add] at g
        rcases hx : xs[j]? with _ | y
        · rw [List.getElem?_eq_none_iff] at hx
          have : fs.toList.length = fs.size := by simp
          omega
        · rw [hx] at g
          obtain ⟨x, ex, _, wx⟩ := DataW.trod_int g3 g
          refine ⟨x, fun k' hk' => ?_⟩
          cases hk'
          have e0 := hc j (by omega)
          rw [add_add] at e0
          refine ⟨?_, wx⟩
          rw [e0]
          have : (cs'.drop j).take 1 = [.int k x] := ex
          have h3 := congrArg (fun l => l[0]?) this
          simpa using h3
    have choice : ∃ f : Nat → Nat → Int, ∀ i, i < len → ∀ (j : Nat) (k : IntKind), ks[j]? = some k → w.cell? (a.add (i * ks.length + j)) = some (.int k (f i j)) ∧ (Lit.int k (f i j)).wf = true :=
      ⟨fun i j => if h : i < len then Classical.choose (nums i h j) else 0, fun i hi j => by simp only [dif_pos hi]; exact Classical.choose_spec (nums i hi j)⟩
    obtain ⟨f, hf2⟩ := choice
    exact ⟨a, len, cap, f, rfl, hl, hf2⟩
theorem open_flats {H : Type} {enc : TypeId × Value → H} {P : Program} {w : World} {b0 : Nat} {r : Reach} {t e : TypeId} {fs : Array Field} {v : Value} {d : DataW H} {p : List MemPlace} (ks : List IntKind) (ht : P.underlying t = some (.slice e)) (he : P.underlying e = some (.struct fs)) (ce : P.cellsOf e = ks.length)
    (hfs : FieldsOk P fs.toList ks 0) (hv : Value.okWide P w r b0 t v) (h : DataW.Trod enc P w 0 (fun _ => true) true t v d p) :
    v = .slice none 0 0 ∨ ∃ (a : Addr) (len cap : Nat) (f : Nat → Nat → Int), v = .slice (some a) len cap ∧ len ≤ cap ∧ ∀ i, i < len → ∀ (j : Nat) (k : IntKind), ks[j]? = some k → w.cell? (a.add (i * ks.length + j)) = some (.int k (f i j)) ∧ (Lit.int k (f i j)).wf = true := by
  obtain ⟨a0, len, cap, rfl⟩ := okWide_slice ht hv
  obtain ⟨fuel, hf⟩ := h
  exact trod_flats ks ht he ce hfs hf
/-- such a slice reads as structs -/
theorem fr_of_cells {α : Type} {F : Flat α} {w : World} {a : Addr} {len cap : Nat} (l : List α) (hl : l.length = len) (hlc : len ≤ cap) (hc : ∀ (j : Nat) (h : j < l.length) (i : Nat) (x : Value), (F.fl l[j])[i]? = some x → w.cell? (a.add (j * F.k + i)) = some x) : FR F w (.slice (some a) len cap) l := by
  subst hl
  refine ⟨some a, cap, rfl, hlc, fun h0 => ?_⟩
  have h00 : ∃ x, (F.fl (l[0]'h0))[0]? = some x := ⟨_, List.getElem?_eq_getElem (by rw [F.len]; exact F.pos)⟩
  obtain ⟨x, hx⟩ := h00
  have hc0 := hc 0 h0 0 x hx
  obtain ⟨b, off, spot⟩ := a
  have hspot : spot = none := by simpa [Addr.add] using World.cell?_spot hc0
  subst hspot
  refine ⟨b, off, rfl, World.block_lt_of_cell? w ⟨b, off, none⟩ (by rw [faddr_add, Nat.zero_mul, Nat.zero_add, Nat.add_zero] at hc0; exact hc0), fun j hj i y hy => ?_⟩
  have := hc j hj i y hy
  rw [faddr_add] at this
  rw [Nat.add_assoc]
  exact this
end Go.Proofs.YteplnejnhgmfiaaDoor
