/- What every law's last step needs: a law that answers true in a later world keeps its arguments; and how a value that is made of numbers and bools alone is opened. No condition. -/
import Derived.Test.YtgfmfkjebnllnaaLater
import Derived.Test.YtgfmfkjebnllnaaRows
import Derived.WideKeyArgs
import Derived.Carry
import Derived.Deep.Slices
import Derived.DataShut
namespace Go.Proofs.Ytgfmfkjebnllnaa
set_option linter.unusedSimpArgs false
set_option linter.unusedVariables false
set_option linter.unusedSectionVars false
open Go.ChangeShapes Go.WideShapes Go.ChangeAt Go.RowKit
set_option linter.unusedVariables false

theorem bnd_i64 {a : Int} (h : (Lit.int .i64 a).wf = true) : -9223372036854775808 ≤ a ∧ a ≤ 9223372036854775807 := (Lit.wf_int_iff .i64 a).1 h
theorem bnd_i32 {a : Int} (h : (Lit.int .i32 a).wf = true) : -2147483648 ≤ a ∧ a ≤ 2147483647 := (Lit.wf_int_iff .i32 a).1 h
theorem bnd_u8 {a : Int} (h : (Lit.int .u8 a).wf = true) : 0 ≤ a ∧ a ≤ 255 := (Lit.wf_int_iff .u8 a).1 h
theorem bnd_u16 {a : Int} (h : (Lit.int .u16 a).wf = true) : 0 ≤ a ∧ a ≤ 65535 := (Lit.wf_int_iff .u16 a).1 h
theorem bnd_u32 {a : Int} (h : (Lit.int .u32 a).wf = true) : 0 ≤ a ∧ a ≤ 4294967295 := (Lit.wf_int_iff .u32 a).1 h
theorem bnd_u64 {a : Int} (h : (Lit.int .u64 a).wf = true) : 0 ≤ a ∧ a ≤ 18446744073709551615 := (Lit.wf_int_iff .u64 a).1 h
section
variable {H : Type} {enc : TypeId × Value → H} {P : Program}

/-- all arguments read in a later world as they read before -/
theorem trodAll_later (hl : laidOutB P = true) {W W' : World} (hb : Below W.heap.size W W') {sp : Nat → Bool} :
    ∀ (ts : List TypeId) (vs : List Value) (ds : List (DataW H)) (ps : List MemPlace), (∀ t ∈ ts, P.readableRec t = true ∧ t < P.types.size) →
      DataW.TrodAll enc P W 0 (fun _ => true) true ts vs ds ps → (∀ x ∈ ps, x.block < W.heap.size) → (∀ x ∈ ps, sp x.block = true) → DataW.TrodAll enc P W' 0 sp true ts vs ds ps := by
  intro ts
  induction ts with
  | nil =>
    intro vs ds ps _ h _ _
    obtain ⟨rfl, rfl, rfl⟩ := trodAll_nil h
    exact trodAll_mk0
  | cons t ts ih =>
    intro vs ds ps hr h hlt hsp
    obtain ⟨v, vs', d, ds', p, q, rfl, rfl, rfl, h1, h2⟩ := trodAll_cons h
    obtain ⟨r1, r2⟩ := hr t (by simp)
    refine trodAll_cons_mk ?_ (ih vs' ds' q (fun t ht => hr t (by simp [ht])) h2 (fun x hx => hlt x (by simp [hx])) (fun x hx => hsp x (by simp [hx])))
    exact WideElems.Trod_stays hl r1 r2 h1 (fun x hx => hb.same (hlt x (by simp [hx]))) (fun x hx => hsp x (by simp [hx]))

theorem readable_of {ts : List TypeId} (h : ts.all (fun t => P.readableRec t && decide (t < P.types.size)) = true) : ∀ t ∈ ts, P.readableRec t = true ∧ t < P.types.size := by
  intro t ht
  have := List.all_eq_true.1 h t ht
  simpa using this
/-- the last step of a law -/
theorem law_post {f : Func} {s : ChangeSpec} {fresh : Bool} {W W' : World} {args : Array Value} {ds gs : List (DataW H)} {before : List MemPlace} {T : TypeId}
    (hl : laidOutB P = true) (hW : DataW.Whole enc P f.params.toList s.vars false W args.toList ds gs before) (hv : s.vars = [])
    (hr : ∀ t ∈ f.params.toList, P.readableRec t = true ∧ t < P.types.size) (hT : f.resultTypes = #[T]) (hu : P.underlying T = some .bool)
    (h1 : (s.fn H (ds ++ gs)).results = [.lit (.bool true)]) (h2 : (s.fn H (ds ++ gs)).args = ds) (h3 : (s.fn H (ds ++ gs)).vars = []) (hb : Below W.heap.size W W') :
    s.post enc P f false fresh false false W args (.bool true) W' := by
  have hlt : ∀ p ∈ before, p.block < W.heap.size := fun p hp => hW.lt p hp
  have hW0 := hW
  obtain ⟨p, q, hA, hV, rfl, hz, hn⟩ := hW
  rw [hv] at hV
  obtain ⟨rfl, rfl⟩ := trodVars_none hV
  rw [List.append_nil] at hlt
  have hargs : ∀ sp : Nat → Bool, (∀ x ∈ p, sp x.block = true) → DataW.TrodAll enc P W' 0 sp true f.params.toList args.toList ds p :=
    fun sp hsp => trodAll_later hl hb _ _ _ _ hr hA hlt hsp
  have hres : ∀ (b : Nat) (sp : Nat → Bool) (hd : Bool), DataW.TrodAll enc P W' b sp hd f.resultTypes.toList ((Value.bool true).resultList f.resultTypes.size) [.lit (.bool true)] [] := by
    intro b sp hd
    rw [hT]
    exact trodAll_cons_mk (shut_bool hu true) trodAll_mk0
  refine ⟨ds, [], p ++ [], [], p, [], hW0, ?_, ?_, ?_, World.keptBut_mono (fun x hx => ⟨hx, Or.inr (Or.inl (by simpa using hx))⟩) (hb.frame (· ∈ p ++ [])), fun h => by cases h⟩
  · rw [h1]; exact hres _ _ _
  · rw [h2]; exact hargs _ (fun x hx => by simpa using hlt x hx)
  · rw [h3, hv]; exact rfl

/-! ### values made of numbers and bools alone -/
/-- the cells' kinds, none for a bool -/
def flatFields (g : TypeId → Option (List (Option IntKind))) (P : Program) : List Field → Nat → Option (List (Option IntKind))
  | [], _ => some []
  | f :: fs, off =>
    match g f.type with
    | some ks => if f.offset = off ∧ P.cellsOf f.type = ks.length then (flatFields g P fs (off + ks.length)).map (ks ++ ·) else none
    | none => none
def flatK (P : Program) : Nat → TypeId → Option (List (Option IntKind))
  | 0, _ => none
  | d + 1, t =>
    match P.underlying t with
    | some (.int k) => some [some k]
    | some .bool => some [none]
    | some (.array n e) =>
      match flatK P d e with
      | some ks => if P.cellsOf e = ks.length ∧ P.cellsOf t = n * ks.length then some (List.replicate n ks).flatten else none
      | none => none
    | some (.struct fs) =>
      match flatFields (flatK P d) P fs.toList 0 with
      | some ks => if P.cellsOf t = ks.length then some ks else none
      | none => none
    | _ => none
def cellOk : Option IntKind → Value → Prop
  | some k, v => ∃ n, v = .int k n ∧ (Lit.int k n).wf = true
  | none, v => ∃ b, v = .bool b
def allOk : List (Option IntKind) → List Value → Prop
  | [], vs => vs = []
  | k :: ks, vs => ∃ v rest, vs = v :: rest ∧ cellOk k v ∧ allOk ks rest
theorem allOk_append : ∀ {ks ks' : List (Option IntKind)} {vs vs' : List Value}, allOk ks vs → allOk ks' vs' → allOk (ks ++ ks') (vs ++ vs')
  | [], _, _, _, h, h' => by cases h; exact h'
  | k :: ks, _, _, _, h, h' => by
    obtain ⟨v, rest, rfl, h1, h2⟩ := h
    exact ⟨v, rest ++ _, rfl, h1, allOk_append h2 h'⟩
theorem allOk_length : ∀ {ks : List (Option IntKind)} {vs : List Value}, allOk ks vs → vs.length = ks.length
  | [], _, h => by cases h; rfl
  | k :: ks, _, h => by
    obtain ⟨v, rest, rfl, h1, h2⟩ := h
    simp [allOk_length h2]

variable {w : World} {base : Nat} {spare : Nat → Bool} {held : Bool}
/-- what is shown of every type -/
def FlatSaid (enc : TypeId × Value → H) (P : Program) (w : World) (base : Nat) (spare : Nat → Bool) (held : Bool) (g : TypeId → Option (List (Option IntKind))) : Prop :=
  ∀ (t : TypeId) (ks : List (Option IntKind)) (fuel : Nat) (cs : List Value) (x : DataW H × List MemPlace), g t = some ks → DataW.trod enc P w base spare held fuel t cs = some x → allOk ks cs ∧ x.2 = []
theorem flat_fields {g : TypeId → Option (List (Option IntKind))} (hg : FlatSaid enc P w base spare held g) (m : Nat) (cs : List Value) :
    ∀ (fs : List Field) (off : Nat) (ks : List (Option IntKind)) (xs : List (DataW H × List MemPlace)), flatFields g P fs off = some ks → xs.length = fs.length →
      (∀ (i : Nat) (f : Field), fs[i]? = some f → DataW.trod enc P w base spare held m f.type ((cs.drop f.offset).take (P.cellsOf f.type)) = xs[i]?) →
      allOk ks ((cs.drop off).take ks.length) ∧ xs.flatMap (·.2) = [] := by
  intro fs
  induction fs with
  | nil =>
    intro off ks xs h hl _
    simp only [flatFields, Option.some.injEq] at h
    subst h
    obtain rfl := List.eq_nil_of_length_eq_zero (by simpa using hl)
    exact ⟨by simp [allOk], rfl⟩
  | cons f fs ih =>
    intro off ks xs h hl hf
    simp only [flatFields] at h
    cases hk : g f.type with
    | none => rw [hk] at h; cases h
    | some k1 =>
      rw [hk] at h
      simp only at h
      split at h
      · rename_i hc
        obtain ⟨ho, hs⟩ := hc
        cases hr : flatFields g P fs (off + k1.length) with
        | none => rw [hr] at h; cases h
        | some k2 =>
          rw [hr] at h
          simp only [Option.map_some, Option.some.injEq] at h
          subst h
          match xs, hl with
          | x :: xs, hl =>
            have h0 := hf 0 f rfl
            rw [ho, hs] at h0
            obtain ⟨a1, a2⟩ := hg _ _ _ _ x hk h0
            obtain ⟨b1, b2⟩ := ih (off + k1.length) k2 xs hr (by simpa using hl) (fun i f' hi => hf (i + 1) f' hi)
            refine ⟨?_, by simp [a2, b2]⟩
            rw [List.length_append, List.take_add, List.drop_drop]
            exact allOk_append a1 b1
      · cases h
theorem flat_array {ks : List (Option IntKind)} {e : TypeId} (m : Nat) : ∀ (n : Nat) (cs : List Value) (xs : List (DataW H × List MemPlace)), cs.length = n * ks.length → xs.length = n →
    (∀ (i : Nat) (x : DataW H × List MemPlace), i < n → xs[i]? = some x → allOk ks ((cs.drop (i * ks.length)).take ks.length) ∧ x.2 = []) → allOk (List.replicate n ks).flatten cs ∧ xs.flatMap (·.2) = [] := by
  intro n
  induction n with
  | zero =>
    intro cs xs hc hl _
    obtain rfl := List.eq_nil_of_length_eq_zero hl
    exact ⟨List.eq_nil_of_length_eq_zero (by omega), rfl⟩
  | succ n ih =>
    intro cs xs hc hl hx
    match xs, hl with
    | x :: xs, hl =>
      obtain ⟨a1, a2⟩ := hx 0 x (by omega) rfl
      obtain ⟨b1, b2⟩ := ih (cs.drop ks.length) xs (by rw [List.length_drop, hc, Nat.succ_mul]; omega) (by simpa using hl) (fun i y hi hy => by
        have := hx (i + 1) y (by omega) hy
        rw [List.drop_drop, Nat.add_comm, ← Nat.succ_mul]; exact this)
      refine ⟨?_, by simp [a2, b2]⟩
      rw [List.replicate_succ, List.flatten_cons, ← List.take_append_drop ks.length cs]
      simp only [Nat.zero_mul, List.drop_zero] at a1
      exact allOk_append a1 b1
theorem flat_said : ∀ d : Nat, FlatSaid enc P w base spare held (flatK P d) := by
  intro d
  induction d with
  | zero => intro t ks fuel cs x h; cases h
  | succ d ih =>
    intro t ks fuel cs x h hx
    unfold flatK at h
    cases hu : P.underlying t with
    | none => rw [hu] at h; cases h
    | some ty =>
      rw [hu] at h
      cases ty <;> simp only at h <;> try (cases h; done)
      case bool =>
        cases h
        obtain ⟨b, rfl, rfl⟩ := DataW.trod_bool hu hx
        exact ⟨⟨_, _, rfl, ⟨b, rfl⟩, rfl⟩, rfl⟩
      case int k =>
        cases h
        obtain ⟨n, rfl, rfl, hwf⟩ := DataW.trod_int hu hx
        exact ⟨⟨_, _, rfl, ⟨n, rfl, hwf⟩, rfl⟩, rfl⟩
      case array n e =>
        cases hk : flatK P d e with
        | none => rw [hk] at h; cases h
        | some k1 =>
          rw [hk] at h
          simp only at h
          split at h
          · rename_i hc
            cases h
            obtain ⟨xs, m, _, rfl, hcl, hl, hi⟩ := DataW.trod_array hu hx
            exact flat_array (e := e) m n cs xs (by rw [hcl, hc.2]) hl (fun i x hin hix => by
              have h1 := hi i hin
              rw [hix, hc.1] at h1
              exact ih _ _ _ _ _ hk h1)
          · cases h
      case struct fs =>
        cases hk : flatFields (flatK P d) P fs.toList 0 with
        | none => rw [hk] at h; cases h
        | some k1 =>
          rw [hk] at h
          simp only at h
          split at h
          · rename_i hc
            cases h
            obtain ⟨xs, m, _, rfl, hcl, hl, hi⟩ := DataW.trod_struct hu hx
            obtain ⟨a1, a2⟩ := flat_fields ih m cs fs.toList 0 ks xs hk (by simpa using hl) (fun i f hf => hi i f (by simpa using hf))
            refine ⟨?_, a2⟩
            rw [List.drop_zero, List.take_of_length_le (by omega)] at a1
            exact a1
          · cases h
/-- a struct or an array by value, made of numbers and bools alone -/
theorem open_flat {r : Reach} {b0 : Nat} {t : TypeId} {v : Value} {d : DataW H} {p : List MemPlace} {ks : List (Option IntKind)} (dep : Nat) (hk : flatK P dep t = some ks)
    (ha : (∃ fs, P.underlying t = some (.struct fs)) ∨ ∃ n e, P.underlying t = some (.array n e)) (hv : Value.okWide P w r b0 t v) (h : DataW.Trod enc P w base spare held t v d p) :
    ∃ cs : List Value, v = .agg cs.toArray ∧ allOk ks cs := by
  have hagg : ∃ cs : Array Value, v = .agg cs := by
    unfold Value.okWide at hv
    rcases ha with ⟨fs, hu⟩ | ⟨n, e, hu⟩
    all_goals
      rw [hu] at hv
      obtain ⟨cs, rfl, _⟩ := hv
      exact ⟨cs, rfl⟩
  obtain ⟨cs, rfl⟩ := hagg
  obtain ⟨fuel, hf⟩ := h
  exact ⟨cs.toList, by simp, (flat_said dep t ks fuel _ _ hk hf).1⟩
end
end Go.Proofs.Ytgfmfkjebnllnaa
