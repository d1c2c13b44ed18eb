/- rope: what the program and the document do to a text, whatever is asked: bytes put in, bytes taken away. -/
import Derived.Test.YtiicaldnegcdiaaGreatRopR
import Derived.Lib.SlBytesConst
namespace Go.Proofs.YtiicaldnegcdiaaGreat
set_option linter.unusedSimpArgs false
set_option linter.unusedVariables false
set_option linter.unusedSectionVars false
open Go.RowKit

def insC (n : Nat) (most x : Int) (m : Nat) : Int := if x < 0 ∨ (n : Int) < x then 1 else if most - n < m then 2 else 0
def insO (L : List Int) (most x : Int) (b : List Int) : List Int := if insC L.length most x b.length = 0 then L.take x.toNat ++ (b ++ L.drop x.toNat) else L
def insTT (t : Tr) (most x : Int) (b : List Int) : Tr := if insC t.len most x b.length = 0 ∧ 0 < b.length then insT t x.toNat b else t
theorem insTT_bs (t : Tr) (most x : Int) (b : List Int) : (insTT t most x b).bs = insO t.bs most x b := by
  unfold insTT insO
  rw [Tr.len_bs]
  by_cases h : insC t.len most x b.length = 0
  · rw [if_pos h]
    by_cases h2 : 0 < b.length
    · rw [if_pos ⟨h, h2⟩, insT_bs]
    · obtain rfl := List.eq_nil_of_length_eq_zero (Nat.eq_zero_of_not_pos h2)
      rw [if_neg (by simp)]; simp
  · rw [if_neg h, if_neg (fun q => h q.1)]
theorem insC_zero {n m : Nat} {most x : Int} (h : insC n most x m = 0) : 0 ≤ x ∧ x ≤ n ∧ (n : Int) + m ≤ most := by
  unfold insC at h
  split at h
  · cases h
  · split at h
    · cases h
    · omega
theorem insTT_ok {t : Tr} {most x : Int} {b : List Int} (ok : t.Ok) (hb : Bytes b) (hm : most ≤ 60000) : (insTT t most x b).Ok := by
  unfold insTT
  split
  · rename_i h
    have := insC_zero h.1
    exact insT_ok ok (by omega) h.2 hb (by omega)
  · exact ok
theorem insO_len {L : List Int} {most x : Int} {b : List Int} (h : (L.length : Int) ≤ most) : ((insO L most x b).length : Int) ≤ most := by
  unfold insO
  split
  · rename_i hc
    have := insC_zero hc
    rw [List.length_append, List.length_append, List.length_take, List.length_drop]; omega
  · exact h
theorem insO_bytes {L : List Int} {most x : Int} {b : List Int} (h : Bytes L) (hb : Bytes b) : Bytes (insO L most x b) := by
  unfold insO
  split
  · intro c hc
    rcases List.mem_append.1 hc with hc | hc
    · exact h c (List.mem_of_mem_take hc)
    · rcases List.mem_append.1 hc with hc | hc
      · exact hb c hc
      · exact h c (List.mem_of_mem_drop hc)
  · exact h
theorem IsR.but_of {w w' : World} {g : Nat} {most : Int} {t : Tr} (h : IsR w g most t) (a : AnyLater w w') : But g w w' ∧ IsR w' g most t := ⟨But.of a, h.later a⟩
/-- Insert, whatever is asked -/
theorem rins_all (g : Nat) (most x : Int) (t : Tr) (u : Value) (b : List Int) (w : World) (h : IsR w g most t) (ok : t.Ok) (hu : RN .u8 w u b) (hb : Bytes b) (hm : (t.len : Int) ≤ most ∧ most ≤ 60000) :
    Calls Tryz.prog 39 #[.pointer (some ⟨g, 0, none⟩), .int .i64 x, u] w fun e w' => e = .returned (.int .i64 (insC t.len most x b.length)) ∧ But g w w' ∧ IsR w' g most (insTT t most x b) := by
  have hlen := ok.len
  by_cases h1 : x < 0 ∨ (t.len : Int) < x
  · have e1 : insC t.len most x b.length = 1 := by unfold insC; rw [if_pos h1]
    have e2 : insTT t most x b = t := by unfold insTT; rw [if_neg (fun q => by rw [e1] at q; cases q.1)]
    rw [e1, e2]
    refine (rins_bad g most t x u w h h1).mono ?_
    rintro e w' ⟨rfl, a⟩
    exact ⟨rfl, h.but_of a⟩
  · obtain ⟨i, rfl⟩ := Int.eq_ofNat_of_zero_le (show 0 ≤ x by omega)
    by_cases h2 : most - t.len < b.length
    · have e1 : insC t.len most i b.length = 2 := by unfold insC; rw [if_neg h1, if_pos h2]
      have e2 : insTT t most i b = t := by unfold insTT; rw [if_neg (fun q => by rw [e1] at q; cases q.1)]
      rw [e1, e2]
      obtain ⟨A, cap, rfl, -⟩ := hu.form
      refine (rins_full g most t i b.length A cap w h ok (by omega) h2 ⟨by omega, by omega⟩).mono ?_
      rintro e w' ⟨rfl, a⟩
      exact ⟨rfl, h.but_of a⟩
    · have e1 : insC t.len most i b.length = 0 := by unfold insC; rw [if_neg h1, if_neg h2]
      rw [e1]
      by_cases h3 : 0 < b.length
      · have e2 : insTT t most i b = insT t i b := by unfold insTT; rw [if_pos ⟨e1, h3⟩]; rfl
        rw [e2]
        exact rins_yes g most t i u b w h ok (by omega) hu hb h3 (by omega) ⟨by omega, by omega⟩ (by omega)
      · have e2 : insTT t most i b = t := by unfold insTT; rw [if_neg (fun q => h3 q.2)]
        rw [e2]
        obtain ⟨A, cap, rfl, -⟩ := hu.form
        have e3 : b.length = 0 := by omega
        rw [e3]
        refine (rins_none g most t i A cap w h ok (by omega) hm.1 ⟨by omega, by omega⟩).mono ?_
        rintro e w' ⟨rfl, a⟩
        exact ⟨rfl, h.but_of a⟩
/-! ### taken away -/
noncomputable def delC (n : Nat) (x m : Int) : Int := open Classical in if In3 x m n then 0 else 1
noncomputable def delG (L : List Int) (x m : Int) : List Int := open Classical in if In3 x m L.length then (L.drop x.toNat).take m.toNat else []
noncomputable def rdelL (L : List Int) (x m : Int) : List Int := open Classical in if In3 x m L.length then L.take x.toNat ++ L.drop (x.toNat + m.toNat) else L
noncomputable def delTT (t : Tr) (x m : Int) : Tr := open Classical in if In3 x m t.len ∧ 0 < m then delT t x.toNat m.toNat else t
theorem delTT_bs (t : Tr) (x m : Int) : (delTT t x m).bs = rdelL t.bs x m := by
  unfold delTT rdelL
  rw [Tr.len_bs]
  by_cases h : In3 x m t.len
  · rw [if_pos h]
    by_cases h2 : 0 < m
    · rw [if_pos ⟨h, h2⟩, delT_bs]
    · have e : m.toNat = 0 := by omega
      rw [if_neg (fun q => h2 q.2), e, Nat.add_zero, List.take_append_drop]
  · rw [if_neg h, if_neg (fun q => h q.1)]
theorem delTT_ok {t : Tr} {x m : Int} (ok : t.Ok) : (delTT t x m).Ok := by
  unfold delTT
  split
  · exact delT_ok ok
  · exact ok
theorem delL_len (L : List Int) (x m : Int) : (rdelL L x m).length ≤ L.length := by
  unfold rdelL
  split
  · rw [List.length_append, List.length_take, List.length_drop]; omega
  · exact Nat.le_refl _
theorem delL_bytes {L : List Int} {x m : Int} (h : Bytes L) : Bytes (rdelL L x m) := by
  unfold rdelL
  split
  · intro c hc
    rcases List.mem_append.1 hc with hc | hc
    · exact h c (List.mem_of_mem_take hc)
    · exact h c (List.mem_of_mem_drop hc)
  · exact h
/-! ### rows that were written out; what is not touched; acts -/
theorem RN.lit {k : IntKind} {t : TypeId} {w : World} {g : Nat} {cs : Array Value} {m : Nat × Nat} (l : List Int) (h : w.heap[g]? = some (.cells cs t m)) (e : cs.toList = l.map (Value.int k)) : RN k w (.slice (some ⟨g, 0, none⟩) l.length l.length) l := by
  refine ⟨_, _, rfl, Nat.le_refl _, fun h0 => ⟨g, 0, rfl, own_lt h, fun j hj => ?_⟩⟩
  have : cs[0 + j]? = some (.int k l[j]) := by
    rw [Nat.zero_add, ← Array.getElem?_toList, e]
    simp [hj]
  simpa [World.cell?, h] using this
theorem isB.form {l : List Int} {v : Value} {w : World} (h : isB l v w) : ∃ A cap, v = .slice A l.length cap ∧ l.length ≤ cap := RT.form h
/-- an act -/
structure RAM where
  kind : Int
  at_ : Int
  n : Int
  v : Value
  b : List Int
def I64r (z : Int) : Prop := -9223372036854775808 ≤ z ∧ z ≤ 9223372036854775807
structure RAM.Ok (A : RAM) (w : World) : Prop where
  kind : I64r A.kind
  at_ : I64r A.at_
  n : I64r A.n
  row : RN .u8 w A.v A.b
  bytes : Bytes A.b
def ractV (A : RAM) : Value := .agg #[.int .i64 A.kind, .int .i64 A.at_, .int .i64 A.n, A.v]
/-- a slice of acts -/
def RAct (w : World) (v : Value) (l : List RAM) : Prop := ∃ (A : Option Addr) (cap : Nat), v = .slice A l.length cap ∧ (∀ (j : Nat) (h : j < l.length), l[j].Ok w) ∧
  (0 < l.length → ∃ b off, A = some ⟨b, off, none⟩ ∧ b < w.heap.size ∧ ∀ (j : Nat) (h : j < l.length), w.cell? ⟨b, off + j * 4, none⟩ = some (.int .i64 l[j].kind) ∧ w.cell? ⟨b, off + j * 4 + 1, none⟩ = some (.int .i64 l[j].at_) ∧ w.cell? ⟨b, off + j * 4 + 2, none⟩ = some (.int .i64 l[j].n) ∧ w.cell? ⟨b, off + j * 4 + 3, none⟩ = some l[j].v)
theorem RAM.Ok.later {A : RAM} {w w' : World} (h : A.Ok w) (a : AnyLater w w') : A.Ok w' := ⟨h.kind, h.at_, h.n, h.row.later a, h.bytes⟩
end Go.Proofs.YtiicaldnegcdiaaGreat
