/- rope: what the program and the document do to a text, whatever is asked: bytes put in, bytes taken away. -/
import Derived.Test.YtiicaldnegcdiaaRopR
import Derived.Lib.SlBytesConst
namespace Go.Proofs.Ytiicaldnegcdiaa
set_option linter.unusedSimpArgs false
set_option linter.unusedVariables false
set_option linter.unusedSectionVars false
open Go.RowKit

def insC (n : Nat) (most x : Int) (m : Nat) : Int := if x < 0 ∨ (n : Int) < x then 1 else if most - n < m then 2 else 0
def insO (L : List Int) (most x : Int) (b : List Int) : List Int := if insC L.length most x b.length = 0 then L.take x.toNat ++ (b ++ L.drop x.toNat) else L
def insTT (t : Tr) (most x : Int) (b : List Int) : Tr := if insC t.len most x b.length = 0 ∧ 0 < b.length then insT t x.toNat b else t
theorem insTT_bs (t : Tr) (most x : Int) (b : List Int) : (insTT t most x b).bs = insO t.bs most x b := by
  unfold insTT insO
  rw [Tr.len_bs]
  by_cases h : insC t.len most x b.length = 0
  · rw [if_pos h]
    by_cases h2 : 0 < b.length
    · rw [if_pos ⟨h, h2⟩, insT_bs]
    · obtain rfl := List.eq_nil_of_length_eq_zero (Nat.eq_zero_of_not_pos h2)
      rw [if_neg (by simp)]; simp
  · rw [if_neg h, if_neg (fun q => h q.1)]
theorem insC_zero {n m : Nat} {most x : Int} (h : insC n most x m = 0) : 0 ≤ x ∧ x ≤ n ∧ (n : Int) + m ≤ most := by
  unfold insC at h
  split at h
  · cases h
  · split at h
    · cases h
    · omega
theorem insTT_ok {t : Tr} {most x : Int} {b : List Int} (ok : t.Ok) (hb : Bytes b) (hm : most ≤ 60000) : (insTT t most x b).Ok := by
  unfold insTT
  split
  · rename_i h
    have := insC_zero h.1
    exact insT_ok ok (by omega) h.2 hb (by omega)
  · exact ok
theorem insO_len {L : List Int} {most x : Int} {b : List Int} (h : (L.length : Int) ≤ most) : ((insO L most x b).length : Int) ≤ most := by
  unfold insO
  split
  · rename_i hc
    have := insC_zero hc
    rw [List.length_append, List.length_append, List.length_take, List.length_drop]; omega
  · exact h
theorem insO_bytes {L : List Int} {most x : Int} {b : List Int} (h : Bytes L) (hb : Bytes b) : Bytes (insO L most x b) := by
  unfold insO
  split
  · intro c hc
    rcases List.mem_append.1 hc with hc | hc
    · exact h c (List.mem_of_mem_take hc)
    · rcases List.mem_append.1 hc with hc | hc
      · exact hb c hc
      · exact h c (List.mem_of_mem_drop hc)
  · exact h
theorem IsR.but_of {w w' : World} {g : Nat} {most : Int} {t : Tr} (h : IsR w g most t) (a : AnyLater w w') : But g w w' ∧ IsR w' g most t := ⟨But.of a, h.later a⟩
/-- Insert, whatever is asked -/
theorem rins_all (g : Nat) (most x : Int) (t : Tr) (u : Value) (b : List Int) (w : World) (h : IsR w g most t) (ok : t.Ok) (hu : RN .u8 w u b) (hb : Bytes b) (hm : (t.len : Int) ≤ most ∧ most ≤ 60000) :
    Calls Try.prog 69 #[.pointer (some ⟨g, 0, none⟩), .int .i64 x, u] w fun e w' => e = .returned (.int .i64 (insC t.len most x b.length)) ∧ But g w w' ∧ IsR w' g most (insTT t most x b) := by
  have hlen := ok.len
  by_cases h1 : x < 0 ∨ (t.len : Int) < x
  · have e1 : insC t.len most x b.length = 1 := by unfold insC; rw [if_pos h1]
    have e2 : insTT t most x b = t := by unfold insTT; rw [if_neg (fun q => by rw [e1] at q; cases q.1)]
    rw [e1, e2]
    refine (rins_bad g most t x u w h h1).mono ?_
    rintro e w' ⟨rfl, a⟩
    exact ⟨rfl, h.but_of a⟩
  · obtain ⟨i, rfl⟩ := Int.eq_ofNat_of_zero_le (show 0 ≤ x by omega)
    by_cases h2 : most - t.len < b.length
    · have e1 : insC t.len most i b.length = 2 := by unfold insC; rw [if_neg h1, if_pos h2]
      have e2 : insTT t most i b = t := by unfold insTT; rw [if_neg (fun q => by rw [e1] at q; cases q.1)]
      rw [e1, e2]
      obtain ⟨A, cap, rfl, -⟩ := hu.form
      refine (rins_full g most t i b.length A cap w h ok (by omega) h2 ⟨by omega, by omega⟩).mono ?_
      rintro e w' ⟨rfl, a⟩
      exact ⟨rfl, h.but_of a⟩
    · have e1 : insC t.len most i b.length = 0 := by unfold insC; rw [if_neg h1, if_neg h2]
      rw [e1]
      by_cases h3 : 0 < b.length
      · have e2 : insTT t most i b = insT t i b := by unfold insTT; rw [if_pos ⟨e1, h3⟩]; rfl
        rw [e2]
        exact rins_yes g most t i u b w h ok (by omega) hu hb h3 (by omega) ⟨by omega, by omega⟩ (by omega)
      · have e2 : insTT t most i b = t := by unfold insTT; rw [if_neg (fun q => h3 q.2)]
        rw [e2]
        obtain ⟨A, cap, rfl, -⟩ := hu.form
        have e3 : b.length = 0 := by omega
        rw [e3]
        refine (rins_none g most t i A cap w h ok (by omega) hm.1 ⟨by omega, by omega⟩).mono ?_
        rintro e w' ⟨rfl, a⟩
        exact ⟨rfl, h.but_of a⟩
theorem xins_all (g : Nat) (most x : Int) (L : List Int) (u : Value) (b : List Int) (w : World) (h : IsX w g most L) (hu : RN .u8 w u b) (hm : (L.length : Int) ≤ most ∧ most ≤ 60000) :
    Calls Try.prog 73 #[.pointer (some ⟨g, 0, none⟩), .int .i64 x, u] w fun e w' => e = .returned (.int .i64 (insC L.length most x b.length)) ∧ But g w w' ∧ IsX w' g most (insO L most x b) := by
  by_cases h1 : x < 0 ∨ (L.length : Int) < x
  · have e1 : insC L.length most x b.length = 1 := by unfold insC; rw [if_pos h1]
    have e2 : insO L most x b = L := by unfold insO; rw [if_neg (by rw [e1]; decide)]
    rw [e1, e2]
    refine (xins_bad g most x L u w h h1).mono ?_
    rintro e w' ⟨rfl, a⟩
    exact ⟨rfl, But.of a, h.later a⟩
  · obtain ⟨i, rfl⟩ := Int.eq_ofNat_of_zero_le (show 0 ≤ x by omega)
    by_cases h2 : most - L.length < b.length
    · have e1 : insC L.length most i b.length = 2 := by unfold insC; rw [if_neg h1, if_pos h2]
      have e2 : insO L most i b = L := by unfold insO; rw [if_neg (by rw [e1]; decide)]
      rw [e1, e2]
      obtain ⟨A, cap, rfl, -⟩ := hu.form
      refine (xins_full g most i b.length L A cap w h (by omega) h2 ⟨by omega, by omega⟩ (by omega)).mono ?_
      rintro e w' ⟨rfl, a⟩
      exact ⟨rfl, But.of a, h.later a⟩
    · have e1 : insC L.length most i b.length = 0 := by unfold insC; rw [if_neg h1, if_neg h2]
      have e2 : insO L most i b = L.take i ++ (b ++ L.drop i) := by unfold insO; rw [if_pos e1]; rfl
      rw [e1, e2]
      exact xins_yes g most i L b u w h hu (by omega) (by omega) ⟨by omega, by omega⟩ (by omega)

/-! ### taken away -/
noncomputable def delC (n : Nat) (x m : Int) : Int := open Classical in if In3 x m n then 0 else 1
noncomputable def delG (L : List Int) (x m : Int) : List Int := open Classical in if In3 x m L.length then (L.drop x.toNat).take m.toNat else []
noncomputable def rdelL (L : List Int) (x m : Int) : List Int := open Classical in if In3 x m L.length then L.take x.toNat ++ L.drop (x.toNat + m.toNat) else L
noncomputable def delTT (t : Tr) (x m : Int) : Tr := open Classical in if In3 x m t.len ∧ 0 < m then delT t x.toNat m.toNat else t
theorem delTT_bs (t : Tr) (x m : Int) : (delTT t x m).bs = rdelL t.bs x m := by
  unfold delTT rdelL
  rw [Tr.len_bs]
  by_cases h : In3 x m t.len
  · rw [if_pos h]
    by_cases h2 : 0 < m
    · rw [if_pos ⟨h, h2⟩, delT_bs]
    · have e : m.toNat = 0 := by omega
      rw [if_neg (fun q => h2 q.2), e, Nat.add_zero, List.take_append_drop]
  · rw [if_neg h, if_neg (fun q => h q.1)]
theorem delTT_ok {t : Tr} {x m : Int} (ok : t.Ok) : (delTT t x m).Ok := by
  unfold delTT
  split
  · exact delT_ok ok
  · exact ok
theorem delL_len (L : List Int) (x m : Int) : (rdelL L x m).length ≤ L.length := by
  unfold rdelL
  split
  · rw [List.length_append, List.length_take, List.length_drop]; omega
  · exact Nat.le_refl _
theorem delL_bytes {L : List Int} {x m : Int} (h : Bytes L) : Bytes (rdelL L x m) := by
  unfold rdelL
  split
  · intro c hc
    rcases List.mem_append.1 hc with hc | hc
    · exact h c (List.mem_of_mem_take hc)
    · exact h c (List.mem_of_mem_drop hc)
  · exact h
/-- Delete, whatever is asked -/
theorem rdel_all (g : Nat) (most x m : Int) (t : Tr) (w : World) (h : IsR w g most t) (ok : t.Ok) :
    Calls Try.prog 71 #[.pointer (some ⟨g, 0, none⟩), .int .i64 x, .int .i64 m] w fun e w' => ∃ u, e = .returned (.tuple #[u, .int .i64 (delC t.len x m)]) ∧ But g w w' ∧ IsR w' g most (delTT t x m) ∧ isB (delG t.bs x m) u w' := by
  have hlb := Tr.len_bs t
  by_cases h1 : In3 x m t.len
  · obtain ⟨h2, h3, h4, h5⟩ := id h1
    obtain ⟨i, rfl⟩ := Int.eq_ofNat_of_zero_le h2
    obtain ⟨k, rfl⟩ := Int.eq_ofNat_of_zero_le h4
    have e1 : delC t.len i k = 0 := by unfold delC; rw [if_pos h1]
    have e2 : delG t.bs i k = (t.bs.drop i).take k := by unfold delG; rw [if_pos (by rw [hlb]; exact h1)]; rfl
    rw [e1, e2]
    by_cases h6 : 0 < k
    · have e3 : delTT t i k = delT t i k := by unfold delTT; rw [if_pos ⟨h1, by omega⟩]; rfl
      rw [e3]
      exact rdel_yes g most t i k w h ok (by omega) h6
    · have e4 : k = 0 := by omega
      subst e4
      have e3 : delTT t i ((0 : Nat) : Int) = t := by unfold delTT; rw [if_neg (fun q => by have := q.2; omega)]
      rw [e3]
      refine (rdel_none g most t i w h ok h1).mono ?_
      rintro e w' ⟨rfl, a⟩
      exact ⟨_, rfl, But.of a, h.later a, by rw [List.take_zero]; exact RT.nil _⟩
  · have e1 : delC t.len x m = 1 := by unfold delC; rw [if_neg h1]
    have e2 : delG t.bs x m = [] := by unfold delG; rw [if_neg (by rw [hlb]; exact h1)]
    have e3 : delTT t x m = t := by unfold delTT; rw [if_neg (fun q => h1 q.1)]
    rw [e1, e2, e3]
    refine (rdel_bad g most t x m w h ok h1).mono ?_
    rintro e w' ⟨rfl, a⟩
    exact ⟨_, rfl, But.of a, h.later a, RT.nil _⟩
theorem xdel_all (g : Nat) (most x m : Int) (L : List Int) (w : World) (h : IsX w g most L) (hl : L.length ≤ 60000) :
    Calls Try.prog 72 #[.pointer (some ⟨g, 0, none⟩), .int .i64 x, .int .i64 m] w fun e w' => ∃ u, e = .returned (.tuple #[u, .int .i64 (delC L.length x m)]) ∧ But g w w' ∧ IsX w' g most (rdelL L x m) ∧ isB (delG L x m) u w' := by
  by_cases h1 : In3 x m L.length
  · obtain ⟨h2, h3, h4, h5⟩ := id h1
    obtain ⟨i, rfl⟩ := Int.eq_ofNat_of_zero_le h2
    obtain ⟨k, rfl⟩ := Int.eq_ofNat_of_zero_le h4
    have e1 : delC L.length i k = 0 := by unfold delC; rw [if_pos h1]
    have e2 : delG L i k = (L.drop i).take k := by unfold delG; rw [if_pos h1]; rfl
    have e3 : rdelL L i k = L.take i ++ L.drop (i + k) := by unfold rdelL; rw [if_pos h1]; rfl
    rw [e1, e2, e3]
    exact xdel_yes g most i k L w h (by omega) hl
  · have e1 : delC L.length x m = 1 := by unfold delC; rw [if_neg h1]
    have e2 : delG L x m = [] := by unfold delG; rw [if_neg h1]
    have e3 : rdelL L x m = L := by unfold rdelL; rw [if_neg h1]
    rw [e1, e2, e3]
    refine (xdel_bad g most x m L w h h1 hl).mono ?_
    rintro e w' ⟨A, rfl, a⟩
    exact ⟨_, rfl, But.of a, h.later a, A, 0, rfl, Nat.le_refl _, fun h => by simp at h⟩

/-! ### rows that were written out; what is not touched; acts -/
theorem RN.lit {k : IntKind} {t : TypeId} {w : World} {g : Nat} {cs : Array Value} {m : Nat × Nat} (l : List Int) (h : w.heap[g]? = some (.cells cs t m)) (e : cs.toList = l.map (Value.int k)) : RN k w (.slice (some ⟨g, 0, none⟩) l.length l.length) l := by
  refine ⟨_, _, rfl, Nat.le_refl _, fun h0 => ⟨g, 0, rfl, own_lt h, fun j hj => ?_⟩⟩
  have : cs[0 + j]? = some (.int k l[j]) := by
    rw [Nat.zero_add, ← Array.getElem?_toList, e]
    simp [hj]
  simpa [World.cell?, h] using this
theorem isB.form {l : List Int} {v : Value} {w : World} (h : isB l v w) : ∃ A cap, v = .slice A l.length cap ∧ l.length ≤ cap := RT.form h
theorem IsX.but {w w' : World} {g xg : Nat} {most : Int} {bs : List Int} {cs : Array Value} (h : IsX w xg most bs) (hb : But g w w') (hg : w.heap[g]? = some (.cells cs 97)) : IsX w' xg most bs := by
  obtain ⟨bv, h1, h2⟩ := h
  refine ⟨bv, hb.own h1 (fun e => ?_), h2.but hb hg (by decide)⟩
  rw [e, hg] at h1
  cases h1
theorem IsR.but {w w' : World} {g xg : Nat} {most : Int} {t : Tr} {cs : Array Value} (h : IsR w g most t) (hb : But xg w w') (hx : w.heap[xg]? = some (.cells cs 41)) : IsR w' g most t := by
  obtain ⟨rv, h1, h2⟩ := h
  refine ⟨rv, hb.own h1 (fun e => ?_), IsT.but hb hx (by decide) (by decide) (by decide) h2⟩
  rw [e, hx] at h1
  cases h1
/-- an act -/
structure RAM where
  kind : Int
  at_ : Int
  n : Int
  v : Value
  b : List Int
def I64r (z : Int) : Prop := -9223372036854775808 ≤ z ∧ z ≤ 9223372036854775807
structure RAM.Ok (A : RAM) (w : World) : Prop where
  kind : I64r A.kind
  at_ : I64r A.at_
  n : I64r A.n
  row : RN .u8 w A.v A.b
  bytes : Bytes A.b
def ractV (A : RAM) : Value := .agg #[.int .i64 A.kind, .int .i64 A.at_, .int .i64 A.n, A.v]
/-- a slice of acts -/
def RAct (w : World) (v : Value) (l : List RAM) : Prop := ∃ (A : Option Addr) (cap : Nat), v = .slice A l.length cap ∧ (∀ (j : Nat) (h : j < l.length), l[j].Ok w) ∧
  (0 < l.length → ∃ b off, A = some ⟨b, off, none⟩ ∧ b < w.heap.size ∧ ∀ (j : Nat) (h : j < l.length), w.cell? ⟨b, off + j * 4, none⟩ = some (.int .i64 l[j].kind) ∧ w.cell? ⟨b, off + j * 4 + 1, none⟩ = some (.int .i64 l[j].at_) ∧ w.cell? ⟨b, off + j * 4 + 2, none⟩ = some (.int .i64 l[j].n) ∧ w.cell? ⟨b, off + j * 4 + 3, none⟩ = some l[j].v)
theorem RAM.Ok.later {A : RAM} {w w' : World} (h : A.Ok w) (a : AnyLater w w') : A.Ok w' := ⟨h.kind, h.at_, h.n, h.row.later a, h.bytes⟩
end Go.Proofs.Ytiicaldnegcdiaa
