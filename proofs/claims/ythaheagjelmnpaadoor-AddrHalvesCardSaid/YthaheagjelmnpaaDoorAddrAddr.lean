/- Reading addresses: address. -/
import Derived.Test.YthaheagjelmnpaaDoorAddrNext
namespace Go.Proofs.YthaheagjelmnpaaDoor
set_option linter.unusedVariables false
set_option linter.unusedSimpArgs false
open Go.ChangeShapes Go.WideShapes Go.ChangeAt Go.RowKit

def quadR (b0 b1 b2 b3 : Nat) (R : List UInt8) : List UInt8 := Lib.itoa (b0 : Int) ++ 46 :: (Lib.itoa (b1 : Int) ++ 46 :: (Lib.itoa (b2 : Int) ++ 46 :: (Lib.itoa (b3 : Int) ++ R)))
theorem quadR_eq (b0 b1 b2 b3 : Nat) (R : List UInt8) : quadR b0 b1 b2 b3 R = quad b0 b1 b2 b3 ++ R := by simp [quadR, quad]
def quadV (b0 b1 b2 b3 : Nat) : Nat := ((b0 * 256 + b1) * 256 + b2) * 256 + b3

theorem stops_mark {most n : Nat} {c : UInt8} {r : List UInt8} (h : c.toNat < 48) : Stops most n (c :: r) := by
  intro c' r' e
  cases e
  exact .inl h
theorem stops_nil (most n : Nat) : Stops most n [] := fun c r e => by cases e
theorem glue_byte {a b : Nat} (ha : a < 16777216) (hb : b < 256) : bits .or .u32 ((a : Int) * 256) (b : Int) = (a : Int) * 256 + (b : Int) := by
  rw [u32_or _ _ (by omega) (by omega) (by omega) (by omega)]
  have e1 : ((a : Int) * 256).toNat = a * 256 := by omega
  rw [e1, Int.toNat_natCast, nat_join 8 _ _ (by omega) (by omega)]
  omega

theorem readV_to {p N K q : Nat} (hK : 0 < K) (hq : q = p + K) : readV p N K = .tuple #[.int .i64 (N : Int), .int .i64 (q : Int), .bool true] := by
  subst hq
  unfold readV
  rw [decide_eq_true hK]
  rfl
theorem calls_to {P : Program} {f : FuncId} {args : Array Value} {w : World} {v v' : Value} (h : Calls P f args w fun e w' => e = .returned v ∧ w = w') (e : v = v') : Calls P f args w fun e w' => e = .returned v' ∧ w = w' := by
  subst e; exact h

set_option maxHeartbeats 3200000 in
theorem address_any (b0 b1 b2 b3 : Nat) (R : List UInt8) (h0 : b0 ≤ 255) (h1 : b1 ≤ 255) (h2 : b2 ≤ 255) (h3 : b3 ≤ 255) (hst : Stops 255 b3 R) (s : ByteArray) (hs : s = str (quadR b0 b1 b2 b3 R)) (hz : s.size ≤ 140737488351232) (w : World) :
    Calls Tryd.prog 22 #[.string s] w
      fun e w' => e = .returned (.tuple #[.int .u32 (quadV b0 b1 b2 b3 : Int), .int .i64 ((quad b0 b1 b2 b3).length : Int), .bool true]) ∧ w = w' := by
  have l0 := itoa_pos b0 (by omega)
  have l1 := itoa_pos b1 (by omega)
  have l2 := itoa_pos b2 (by omega)
  have l3 := itoa_pos b3 (by omega)
  obtain ⟨p1, hp1⟩ : ∃ p1, p1 = (Lib.itoa (b0 : Int)).length := ⟨_, rfl⟩
  obtain ⟨p2, hp2⟩ : ∃ p2, p2 = p1 + 1 + (Lib.itoa (b1 : Int)).length := ⟨_, rfl⟩
  obtain ⟨p3, hp3⟩ : ∃ p3, p3 = p2 + 1 + (Lib.itoa (b2 : Int)).length := ⟨_, rfl⟩
  obtain ⟨p4, hp4⟩ : ∃ p4, p4 = p3 + 1 + (Lib.itoa (b3 : Int)).length := ⟨_, rfl⟩
  have m0 : Hid (∀ w, Calls Tryd.prog 26 #[.string s, .int .i64 0, .int .i64 255] w fun e w' => e = .returned (.tuple #[.int .i64 (b0 : Int), .int .i64 (p1 : Int), .bool true]) ∧ w = w') := fun w => by
    refine calls_to (number_any s 0 255 (Nat.zero_le _) hz (by decide) b0 _ ?_ w) (readV_to (K := (Lib.itoa (b0 : Int)).length) (by omega) (by omega))
    rw [hs, str_drop, List.drop_zero]
    exact read_itoa h0 (by omega) (stops_mark (by decide))
  have m1 : Hid (∀ w, Calls Tryd.prog 24 #[.string s, .int .i64 (p1 : Int), .int .u8 46, .int .i64 255] w fun e w' => e = .returned (.tuple #[.int .i64 (b1 : Int), .int .i64 (p2 : Int), .bool true]) ∧ w = w') := fun w =>
    calls_to (next_at (Lib.itoa (b0 : Int)) _ (46 :: (Lib.itoa (b2 : Int) ++ 46 :: (Lib.itoa (b3 : Int) ++ R))) 46 255 b1 p1 hp1 rfl (by decide) (by decide) h1 (stops_mark (by decide)) s hs hz w) (readV_to (by omega) hp2)
  have m2 : Hid (∀ w, Calls Tryd.prog 24 #[.string s, .int .i64 (p2 : Int), .int .u8 46, .int .i64 255] w fun e w' => e = .returned (.tuple #[.int .i64 (b2 : Int), .int .i64 (p3 : Int), .bool true]) ∧ w = w') := fun w =>
    calls_to (next_at (Lib.itoa (b0 : Int) ++ 46 :: Lib.itoa (b1 : Int)) _ (46 :: (Lib.itoa (b3 : Int) ++ R)) 46 255 b2 p2 (by simp; omega) rfl (by decide) (by decide) h2 (stops_mark (by decide)) s (by rw [hs]; congr 1; simp [quadR]) hz w) (readV_to (by omega) hp3)
  have m3 : Hid (∀ w, Calls Tryd.prog 24 #[.string s, .int .i64 (p3 : Int), .int .u8 46, .int .i64 255] w fun e w' => e = .returned (.tuple #[.int .i64 (b3 : Int), .int .i64 (p4 : Int), .bool true]) ∧ w = w') := fun w =>
    calls_to (next_at (Lib.itoa (b0 : Int) ++ 46 :: (Lib.itoa (b1 : Int) ++ 46 :: Lib.itoa (b2 : Int))) _ R 46 255 b3 p3 (by simp; omega) rfl (by decide) (by decide) h3 hst s (by rw [hs]; congr 1; simp [quadR]) hz w) (readV_to (by omega) hp4)
  have hl : (quad b0 b1 b2 b3).length = p4 := by simp [quad]; omega
  rw [hl]
  clear hl hs hst hp1 hp2 hp3 hp4 l0 l1 l2 l3
  have g1 := glue_byte (a := b0) (b := b1) (by omega) (by omega)
  have g2 : bits .or .u32 (((b0 : Int) * 256 + (b1 : Int)) * 256) (b2 : Int) = ((b0 : Int) * 256 + (b1 : Int)) * 256 + (b2 : Int) := glue_byte (a := b0 * 256 + b1) (b := b2) (by omega) (by omega)
  have g3 : bits .or .u32 ((((b0 : Int) * 256 + (b1 : Int)) * 256 + (b2 : Int)) * 256) (b3 : Int) = (((b0 : Int) * 256 + (b1 : Int)) * 256 + (b2 : Int)) * 256 + (b3 : Int) := glue_byte (a := (b0 * 256 + b1) * 256 + b2) (b := b3) (by omega) (by omega)
  have x0 : (b0 : Int) % 4294967296 = b0 := by omega
  have x1 : (b1 : Int) % 4294967296 = b1 := by omega
  have x2 : (b2 : Int) % 4294967296 = b2 := by omega
  have x3 : (b3 : Int) % 4294967296 = b3 := by omega
  go_enter Tryd.func22, Tryd.ntmps22
  go_wp2_with fail
  refine (m0.out _).mono ?_
  rintro e w' ⟨rfl, rfl⟩
  go_wp2_with fail
  go_loopg [2, 3, 4, 6] 3 (fun g s2 s3 s4 s6 wr => s4 = .bool true ∧ wr = w ∧ ((g = 3 ∧ s2 = .int .u32 (b0 : Int) ∧ s3 = .int .i64 (p1 : Int) ∧ s6 = .int .i64 1) ∨
    (g = 2 ∧ s2 = .int .u32 ((b0 : Int) * 256 + (b1 : Int)) ∧ s3 = .int .i64 (p2 : Int) ∧ s6 = .int .i64 2) ∨
    (g = 1 ∧ s2 = .int .u32 (((b0 : Int) * 256 + (b1 : Int)) * 256 + (b2 : Int)) ∧ s3 = .int .i64 (p3 : Int) ∧ s6 = .int .i64 3) ∨
    (g = 0 ∧ s2 = .int .u32 ((((b0 : Int) * 256 + (b1 : Int)) * 256 + (b2 : Int)) * 256 + (b3 : Int)) ∧ s3 = .int .i64 (p4 : Int) ∧ s6 = .int .i64 4)))
  case atStart => exact ⟨rfl, rfl, .inl ⟨rfl, rfl, rfl, rfl⟩⟩
  case round =>
    obtain ⟨rfl, rfl, hrel⟩ := hrel
    rcases hrel with ⟨rfl, rfl, rfl, rfl⟩ | ⟨rfl, rfl, rfl, rfl⟩ | ⟨rfl, rfl, rfl, rfl⟩ | ⟨rfl, rfl, rfl, rfl⟩
    · go_wp2_with fail
      refine (m1.out _).mono ?_
      rintro e w' ⟨rfl, rfl⟩
      go_wp2_with fail
      go_roundg 2
      case measure => omega
      case rel => exact ⟨rfl, rfl, .inr (.inl ⟨rfl, rfl, rfl, rfl⟩)⟩
    · go_wp2_with fail
      refine (m2.out _).mono ?_
      rintro e w' ⟨rfl, rfl⟩
      go_wp2_with fail
      go_roundg 1
      case measure => omega
      case rel => exact ⟨rfl, rfl, .inr (.inr (.inl ⟨rfl, rfl, rfl, rfl⟩))⟩
    · go_wp2_with fail
      refine (m3.out _).mono ?_
      rintro e w' ⟨rfl, rfl⟩
      go_wp2_with fail
      go_roundg 0
      case measure => omega
      case rel => exact ⟨rfl, rfl, .inr (.inr (.inr ⟨rfl, rfl, rfl, rfl⟩))⟩
    · go_wp2_with fail
      go_ret3
      exact ⟨rfl, rfl⟩
end Go.Proofs.YthaheagjelmnpaaDoor
