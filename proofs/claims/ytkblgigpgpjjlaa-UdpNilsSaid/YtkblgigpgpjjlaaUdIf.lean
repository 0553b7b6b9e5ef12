/- What the laws' walks of udp ask of the program's box, as one structure: the walks take it as given; the program's contracts (a later text) give it. -/
import Derived.Test.YtkblgigpgpjjlaaUdOpen
import Derived.Test.YtkblgigpgpjjlaaUdRef4
import Derived.Test.YtkblgigpgpjjlaaChg
namespace Go.Proofs.Ytkblgigpgpjjlaa
set_option linter.unusedVariables false
set_option linter.unusedSimpArgs false
open Go.ChangeShapes Go.WideShapes Go.ChangeAt Go.RowKit

/-- The box behind the pointer to block pb: its blocks S, what it holds. -/
abbrev UbT := World → (Nat → Prop) → Nat → Ub → Prop
/-- What a call that changes the box leaves. -/
def UPost (Up : UbT) (w w' : World) (S : Nat → Prop) (pb : Nat) (u : Ub) : Prop := ChgS S w w' ∧ ∃ S' : Nat → Prop, Up w' S' pb u ∧ ∀ b, S' b → S b ∨ w.heap.size ≤ b
/-- How many may be lost where counts are asked. -/
def FewU (u : Ub) : Prop := 0 ≤ u.lost ∧ u.lost ≤ 1000000
structure UIf (Up : UbT) : Prop where
  ok : ∀ {w : World} {S : Nat → Prop} {pb : Nat} {u : Ub}, Up w S pb u → UOk u
  keep : ∀ {w w' : World} {S : Nat → Prop} {pb : Nat} {u : Ub}, Up w S pb u → w.heap.size ≤ w'.heap.size → (∀ b, S b → w'.heap[b]? = w.heap[b]?) → Up w' S pb u
  lt : ∀ {w : World} {S : Nat → Prop} {pb : Nat} {u : Ub}, Up w S pb u → ∀ b, S b → b < w.heap.size
  new : ∀ (w : World) (most room : Int), (1 ≤ most ∧ most ≤ 64) → (1 ≤ room ∧ room ≤ 1048576) → Calls Try.prog 8 #[.int .i64 most, .int .i64 room] w fun e w' => ∃ pb S, e = .returned (.tuple #[.pointer (some ⟨pb, 0, none⟩), .int .i64 0]) ∧ Up w' S pb (noneU most room) ∧ (∀ b, S b → w.heap.size ≤ b) ∧ Grow w w'
  newNot : ∀ (w : World) (most room : Int), In64 most → In64 room → ¬ ((1 ≤ most ∧ most ≤ 64) ∧ (1 ≤ room ∧ room ≤ 1048576)) → Calls Try.prog 8 #[.int .i64 most, .int .i64 room] w fun e w' => e = .returned (.tuple #[.pointer none, .int .i64 1]) ∧ Grow w w'
  meet : ∀ {w : World} {S : Nat → Prop} {pb : Nat} {u : Ub}, Up w S pb u → FewU u → ∀ e : Ed, e.Ok →
    Calls Try.prog 15 #[.pointer (some ⟨pb, 0, none⟩), .agg #[.int .u32 e.ad, .int .u16 e.po]] w fun e' w' => e' = .returned (.int .i64 (meE e)) ∧ UPost Up w w' S pb (meU u e)
  put : ∀ {w : World} {S : Nat → Prop} {pb : Nat} {u : Ub}, Up w S pb u → FewU u → ∀ (f : Ed) (v : Value) (d : List UInt8), f.Ok → Byt w v d → (0 < d.length → ∀ k, v.ownBlock = some k → ¬ S k) → d.length ≤ 100000 →
    Calls Try.prog 10 #[.pointer (some ⟨pb, 0, none⟩), .agg #[.int .u32 f.ad, .int .u16 f.po, v]] w fun e' w' => e' = .returned (.int .i64 (puE u ⟨f, d⟩)) ∧ UPost Up w w' S pb (puU u ⟨f, d⟩)
  take : ∀ {w : World} {S : Nat → Prop} {pb : Nat} {u : Ub}, Up w S pb u → ∀ n : Int, In64 n →
    Calls Try.prog 12 #[.pointer (some ⟨pb, 0, none⟩), .int .i64 n] w fun e' w' => ∃ v, e' = .returned (.tuple #[.agg #[.int .u32 (tkuM u n).f.ad, .int .u16 (tkuM u n).f.po, v], .int .i64 (tkuN u n), .int .i64 (tkuE u n)]) ∧ Byt w' v (tkuM u n).d ∧ UPost Up w w' S pb (tkuU u n)
  tell : ∀ {w : World} {S : Nat → Prop} {pb : Nat} {u : Ub}, Up w S pb u → ∀ n : Int, In64 n →
    Calls Try.prog 17 #[.pointer (some ⟨pb, 0, none⟩), .int .i64 n] w fun e' w' => e' = .returned (.tuple #[]) ∧ UPost Up w w' S pb (teU u n)
  peer : ∀ {w : World} {S : Nat → Prop} {pb : Nat} {u : Ub}, Up w S pb u → Calls Try.prog 18 #[.pointer (some ⟨pb, 0, none⟩)] w fun e' w' => e' = .returned (.tuple #[.agg #[.int .u32 u.pe.ad, .int .u16 u.pe.po], .bool (decide (u.pe ≠ noE))]) ∧ Grow w w'
  len : ∀ {w : World} {S : Nat → Prop} {pb : Nat} {u : Ub}, Up w S pb u → Calls Try.prog 19 #[.pointer (some ⟨pb, 0, none⟩)] w fun e' w' => e' = .returned (.int .i64 (u.L.length : Int)) ∧ Grow w w'
  held : ∀ {w : World} {S : Nat → Prop} {pb : Nat} {u : Ub}, Up w S pb u → Calls Try.prog 20 #[.pointer (some ⟨pb, 0, none⟩)] w fun e' w' => e' = .returned (.int .i64 (heldL u.L : Int)) ∧ Grow w w'
  lost : ∀ {w : World} {S : Nat → Prop} {pb : Nat} {u : Ub}, Up w S pb u → Calls Try.prog 22 #[.pointer (some ⟨pb, 0, none⟩)] w fun e' w' => e' = .returned (.int .i64 u.lost) ∧ Grow w w'
  ready : ∀ {w : World} {S : Nat → Prop} {pb : Nat} {u : Ub}, Up w S pb u → Calls Try.prog 23 #[.pointer (some ⟨pb, 0, none⟩)] w fun e' w' => e' = .returned (.bool (readyU u)) ∧ Grow w w'
  meetNil : ∀ (w : World) (e : Ed), Calls Try.prog 15 #[.pointer none, .agg #[.int .u32 e.ad, .int .u16 e.po]] w fun e' w' => e' = .returned (.int .i64 7) ∧ Grow w w'
  putNil : ∀ (w : World) (f : Ed) (v : Value) (d : List UInt8), Byt w v d → Calls Try.prog 10 #[.pointer none, .agg #[.int .u32 f.ad, .int .u16 f.po, v]] w fun e' w' => e' = .returned (.int .i64 7) ∧ Grow w w'
  takeNil : ∀ (w : World) (n : Int), Calls Try.prog 12 #[.pointer none, .int .i64 n] w fun e' w' => e' = .returned (.tuple #[.agg #[.int .u32 0, .int .u16 0, .slice none 0 0], .int .i64 0, .int .i64 7]) ∧ Grow w w'
  tellNil : ∀ (w : World) (n : Int), Calls Try.prog 17 #[.pointer none, .int .i64 n] w fun e' w' => e' = .returned (.tuple #[]) ∧ Grow w w'
  peerNil : ∀ w : World, Calls Try.prog 18 #[.pointer none] w fun e' w' => e' = .returned (.tuple #[.agg #[.int .u32 0, .int .u16 0], .bool false]) ∧ Grow w w'
  lenNil : ∀ w : World, Calls Try.prog 19 #[.pointer none] w fun e' w' => e' = .returned (.int .i64 0) ∧ Grow w w'
  heldNil : ∀ w : World, Calls Try.prog 20 #[.pointer none] w fun e' w' => e' = .returned (.int .i64 0) ∧ Grow w w'
  lostNil : ∀ w : World, Calls Try.prog 22 #[.pointer none] w fun e' w' => e' = .returned (.int .i64 0) ∧ Grow w w'
  readyNil : ∀ w : World, Calls Try.prog 23 #[.pointer none] w fun e' w' => e' = .returned (.bool false) ∧ Grow w w'
theorem ucode_any (x : Int) (w : World) : Calls Try.prog 9 #[.int .i64 x] w fun e w' => e = .returned (.int .i64 x) ∧ w' = w := by
  go_enter Try.func9, Try.ntmps9
  go_wp2_with fail
  go_ret
  exact ⟨rfl, rfl⟩
theorem ucode_grow (x : Int) (w : World) : Calls Try.prog 9 #[.int .i64 x] w fun e w' => e = .returned (.int .i64 x) ∧ Grow w w' := (ucode_any x w).mono fun _ _ ⟨h1, h2⟩ => ⟨h1, by rw [h2]; exact Grow.refl _⟩
section
variable {Up : UbT} {w w' : World} {S : Nat → Prop} {pb : Nat} {u : Ub}
theorem UIf.grow (I : UIf Up) (h : Up w S pb u) (g : Grow w w') : Up w' S pb u := I.keep h g.size fun b hb => g.block b (I.lt h b hb)
end
end Go.Proofs.Ytkblgigpgpjjlaa
