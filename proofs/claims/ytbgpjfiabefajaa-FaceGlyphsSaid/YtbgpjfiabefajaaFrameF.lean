/- frame: what the program's functions are to tell of frames. -/
import Derived.Test.YtbgpjfiabefajaaFrameE
namespace Go.Proofs.Ytbgpjfiabefajaa
set_option linter.unusedSimpArgs false
set_option linter.unusedVariables false
set_option linter.unusedSectionVars false
open Go.RowKit

/-- a slice that reads as these rectangles -/
def RRt (w : World) (v : Value) (l : List Rt) : Prop := ∃ (b cap : Nat), v = .slice (some ⟨b, 0, none⟩) l.length cap ∧ b < w.heap.size ∧ ∀ (j : Nat) (h : j < l.length), w.cell? ⟨b, j * 4, none⟩ = some (.int .i64 l[j].x) ∧ w.cell? ⟨b, j * 4 + 1, none⟩ = some (.int .i64 l[j].y) ∧ w.cell? ⟨b, j * 4 + 2, none⟩ = some (.int .i64 l[j].a) ∧ w.cell? ⟨b, j * 4 + 3, none⟩ = some (.int .i64 l[j].b)
/-- the block of a slice is none of S -/
def Off (v : Value) (S : Nat → Prop) : Prop := ∀ b off n c, v = .slice (some ⟨b, off, none⟩) n c → ¬ S b
def dotsM (l : List Rt) (c : Int) (m : FM) : FM := l.foldl (fun m r => fillM r c m) m
def dotsN (l : List Rt) (m : FM) : Int := (l.map fun r => cntA r m.w m.rows.length).sum
def sameB (m k : FM) : Bool := decide (m.w = k.w ∧ m.rows = k.rows)
def ptr (a : Nat) : Value := .pointer (some ⟨a, 0, none⟩)
def Small (m : FM) : Prop := m.Ok ∧ m.w ≤ 4096 ∧ m.rows.length ≤ 4096 ∧ 0 ≤ m.n ∧ m.n ≤ 1000000000000
abbrev U32 (c : Int) : Prop := 0 ≤ c ∧ c ≤ 4294967295
/-- what the program's functions are to tell; Fr: the program's frame at a is m, in the blocks of S -/
structure FSays (Fr : World → Nat → FM → (Nat → Prop) → Prop) : Prop where
  apart : ∀ {w w' : World} {a : Nat} {m : FM} {S T : Nat → Prop}, Fr w a m S → Keeps T w w' → Apart S T → Fr w' a m S
  below : ∀ {w : World} {a : Nat} {m : FM} {S : Nat → Prop}, Fr w a m S → ∀ k, S k → k < w.heap.size
  new : ∀ (W H : Nat) (w : World), W ≤ 4096 → H ≤ 4096 → Calls Try.prog 13 #[.int .i64 W, .int .i64 H] w fun e w' => ∃ a S, e = .returned (.tuple #[ptr a, .int .i64 0]) ∧ AnyLater w w' ∧ Fr w' a (newM W H) S ∧ ∀ k, S k → w.heap.size ≤ k
  newBad : ∀ (W H : Int) (w : World), I64 W → I64 H → W < 0 ∨ H < 0 ∨ 4096 < W ∨ 4096 < H → Calls Try.prog 13 #[.int .i64 W, .int .i64 H] w fun e w' => e = .returned (.tuple #[.pointer none, .int .i64 1]) ∧ AnyLater w w'
  size : ∀ {w : World} {a : Nat} {m : FM} {S : Nat → Prop}, Fr w a m S → Small m → Calls Try.prog 57 #[ptr a] w fun e w' => e = .returned (.tuple #[.int .i64 m.w, .int .i64 (m.rows.length : Int)]) ∧ AnyLater w w'
  at_ : ∀ {w : World} {a : Nat} {m : FM} {S : Nat → Prop} (x y c : Int), atM x y m = c → Fr w a m S → Small m → I64 x → I64 y → Calls Try.prog 53 #[ptr a, .int .i64 x, .int .i64 y] w fun e w' => e = .returned (.int .u32 c) ∧ AnyLater w w'
  fill : ∀ {w : World} {a : Nat} {m : FM} {S : Nat → Prop} (r : Rt) (c n : Int), cntA r m.w m.rows.length = n → Fr w a m S → Small m → r.I64 → U32 c → Calls Try.prog 52 #[ptr a, rtV r, .int .u32 c] w fun e w' => e = .returned (.int .i64 n) ∧ Keeps S w w' ∧ ∃ S', Fr w' a (fillM r c m) S' ∧ Grown w S S'
  dots : ∀ {w : World} {a : Nat} {m : FM} {S : Nat → Prop} (v : Value) (l : List Rt) (c n : Int), dotsN l m = n → Fr w a m S → Small m → RRt w v l → Off v S → (∀ r ∈ l, r.I64) → l.length ≤ 100 → U32 c → Calls Try.prog 56 #[ptr a, v, .int .u32 c] w fun e w' => e = .returned (.int .i64 n) ∧ Keeps S w w' ∧ ∃ S', Fr w' a (dotsM l c m) S' ∧ Grown w S S'
  shift : ∀ {w : World} {a : Nat} {m : FM} {S : Nat → Prop} (d : Int), Fr w a m S → Small m → I64 d → Calls Try.prog 19 #[ptr a, .int .i64 d] w fun e w' => e = .returned (.tuple #[]) ∧ Keeps S w w' ∧ ∃ S', Fr w' a (shiftM d m) S' ∧ Grown w S S'
  line : ∀ {w : World} {a : Nat} {m : FM} {S : Nat → Prop} (y : Int), Fr w a m S → Small m → I64 y → Calls Try.prog 21 #[ptr a, .int .i64 y] w fun e w' => ∃ v, e = .returned v ∧ AnyLater w w' ∧ RU w' v (lineM y m)
  lay : ∀ {w : World} {a : Nat} {m : FM} {S : Nat → Prop} (y : Int) (v : Value) (l : List Int) (c : Bool), layB y l m = c → Fr w a m S → Small m → I64 y → RU w v l → Off v S → l.length ≤ 5000 → Calls Try.prog 55 #[ptr a, .int .i64 y, v] w fun e w' => e = .returned (.bool c) ∧ Keeps S w w' ∧ ∃ S', Fr w' a (layM y l m) S' ∧ Grown w S S'
  writes : ∀ {w : World} {a : Nat} {m : FM} {S : Nat → Prop}, Fr w a m S → Small m → Calls Try.prog 17 #[ptr a] w fun e w' => e = .returned (.int .i64 m.n) ∧ AnyLater w w'
  clone : ∀ {w : World} {a : Nat} {m : FM} {S : Nat → Prop}, Fr w a m S → Small m → Calls Try.prog 22 #[ptr a] w fun e w' => ∃ b T, e = .returned (ptr b) ∧ AnyLater w w' ∧ Fr w' b ⟨m.w, m.rows, 0⟩ T ∧ ∀ k, T k → w.heap.size ≤ k
  same : ∀ {w : World} {a b : Nat} {m k : FM} {S T : Nat → Prop} (c : Bool), sameB m k = c → Fr w a m S → Fr w b k T → Small m → Small k → Calls Try.prog 23 #[ptr a, ptr b] w fun e w' => e = .returned (.bool c) ∧ AnyLater w w'
  sameNone : ∀ {w : World} {a : Nat} {m : FM} {S : Nat → Prop}, Fr w a m S → Small m → Calls Try.prog 23 #[ptr a, .pointer none] w fun e w' => e = .returned (.bool false) ∧ AnyLater w w'
  noneSame : ∀ (w : World), Calls Try.prog 23 #[.pointer none, .pointer none] w fun e w' => e = .returned (.bool true) ∧ AnyLater w w'
theorem FSays.later {Fr : World → Nat → FM → (Nat → Prop) → Prop} (F : FSays Fr) {w w' : World} {a : Nat} {m : FM} {S : Nat → Prop} (h : Fr w a m S) (ha : AnyLater w w') : Fr w' a m S := F.apart h (Keeps.of (S := fun _ => False) ha) (fun _ _ h => h)
end Go.Proofs.Ytbgpjfiabefajaa
