/- rope: acts, one or a list of them, in memory; the text with which the laws begin. -/
import Derived.Test.YtiiojgneljgakaaRopU
namespace Go.Proofs.Ytiiojgneljgakaa
set_option linter.unusedSimpArgs false
set_option linter.unusedVariables false
set_option linter.unusedSectionVars false
open Go.RowKit

/-- an act -/
structure AM where
  kind : Int
  at_ : Int
  n : Int
  v : Value
  b : List Int
def I64r (z : Int) : Prop := -9223372036854775808 ≤ z ∧ z ≤ 9223372036854775807
structure AM.Ok (A : AM) (w : World) : Prop where
  kind : I64r A.kind
  at_ : I64r A.at_
  n : I64r A.n
  row : RN .u8 w A.v A.b
  bytes : Bytes A.b
def actV (A : AM) : Value := .agg #[.int .i64 A.kind, .int .i64 A.at_, .int .i64 A.n, A.v]
/-- a slice of acts -/
def RAct (w : World) (v : Value) (l : List AM) : Prop := ∃ (A : Option Addr) (cap : Nat), v = .slice A l.length cap ∧ (∀ (j : Nat) (h : j < l.length), l[j].Ok w) ∧
  (0 < l.length → ∃ b off, A = some ⟨b, off, none⟩ ∧ b < w.heap.size ∧ ∀ (j : Nat) (h : j < l.length), w.cell? ⟨b, off + j * 4, none⟩ = some (.int .i64 l[j].kind) ∧ w.cell? ⟨b, off + j * 4 + 1, none⟩ = some (.int .i64 l[j].at_) ∧ w.cell? ⟨b, off + j * 4 + 2, none⟩ = some (.int .i64 l[j].n) ∧ w.cell? ⟨b, off + j * 4 + 3, none⟩ = some l[j].v)
theorem AM.Ok.later {A : AM} {w w' : World} (h : A.Ok w) (a : AnyLater w w') : A.Ok w' := ⟨h.kind, h.at_, h.n, h.row.later a, h.bytes⟩
/-- an act done to both -/
theorem does_any (W w : World) (g xg : Nat) (L : List Int) (A : AM) (h : Both w g xg L) (hW : AnyLater W w) (hg : W.heap.size ≤ g) (hx : W.heap.size ≤ xg) (ok : A.Ok w) :
    Calls Try.prog 7 #[.pointer (some ⟨g, 0, none⟩), .pointer (some ⟨xg, 0, none⟩), .agg #[.int .i64 A.kind, .int .i64 A.at_, .int .i64 A.n, A.v]] w fun e w' => e = .returned (.bool true) ∧ AnyLater W w' ∧ ∃ L', Both w' g xg L' := by
  by_cases hk : A.kind = 1
  · rw [hk]
    exact does_del W w g xg L A.b A.at_ A.n A.v h hW hg hx ok.row
  · exact does_ins W w g xg L A.b A.kind A.at_ A.n A.v h hW hg hx ok.row ok.bytes hk

/-! ### the text with which the laws begin -/
def one : List Int := [111, 110, 101, 10, 116, 119, 111, 10]
theorem one_ok : (insT .nil 0 one).Ok := insT_ok ⟨trivial, trivial, Nat.zero_le _⟩ (Nat.le_refl _) (by decide) (by unfold Bytes one; decide) (by decide)
theorem one_bs : (insT .nil 0 one).bs = one := by rw [insT_bs]; rfl
theorem new_one (w : World) (u : Value) (hu : RN .u8 w u one) : Calls Try.prog 6 #[u, .int .i64 3000] w fun e w' => ∃ g, e = .returned (.tuple #[.pointer (some ⟨g, 0, none⟩), .int .i64 0]) ∧ AnyLater w w' ∧ w.heap.size ≤ g ∧ IsR w' g 3000 (insT .nil 0 one) :=
  rnew_yes u one 3000 w hu (by unfold Bytes one; decide) (by decide) (by decide) ⟨by decide, by decide⟩ (by decide)
theorem lit_one {w : World} {g : Nat} {m : Nat × Nat} (h : w.heap[g]? = some (.cells #[.int .u8 111, .int .u8 110, .int .u8 101, .int .u8 10, .int .u8 116, .int .u8 119, .int .u8 111, .int .u8 10] 5 m)) : RT .u8 5 w (.slice (some ⟨g, 0, none⟩) 8 8) one :=
  ⟨_, 8, rfl, Nat.le_refl _, fun _ => ⟨g, 0, _, m, rfl, h, fun j hj => by
    have hj8 : j < 8 := hj
    have : j = 0 ∨ j = 1 ∨ j = 2 ∨ j = 3 ∨ j = 4 ∨ j = 5 ∨ j = 6 ∨ j = 7 := by omega
    rcases this with rfl | rfl | rfl | rfl | rfl | rfl | rfl | rfl <;> rfl⟩⟩
theorem both_one {w : World} {g xg : Nat} {bv : Value} (hr : IsR w g 3000 (insT .nil 0 one)) (hx : w.heap[xg]? = some (.cells #[bv, .int .i64 3000] 31)) (hb : RT .u8 5 w bv one) : Both w g xg one :=
  ⟨_, hr, one_ok, one_bs, ⟨bv, hx, hb⟩, by unfold Bytes one; decide, by decide⟩
end Go.Proofs.Ytiiojgneljgakaa
