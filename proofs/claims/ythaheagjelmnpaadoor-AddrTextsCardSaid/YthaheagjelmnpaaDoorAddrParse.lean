/- Texts as addresses and nets: Parse, ParseNet; NetText; the page's example. -/
import Derived.Test.YthaheagjelmnpaaDoorAddrText
import Derived.Test.YthaheagjelmnpaaDoorAddrNet
namespace Go.Proofs.YthaheagjelmnpaaDoor
set_option linter.unusedVariables false
set_option linter.unusedSimpArgs false
open Go.ChangeShapes Go.WideShapes Go.ChangeAt Go.RowKit

theorem quad_small (b0 b1 b2 b3 : Nat) (h0 : b0 ≤ 255) (h1 : b1 ≤ 255) (h2 : b2 ≤ 255) (h3 : b3 ≤ 255) : (quad b0 b1 b2 b3).length ≤ 15 := by
  have z0 := itoa_pos b0 (by omega)
  have z1 := itoa_pos b1 (by omega)
  have z2 := itoa_pos b2 (by omega)
  have z3 := itoa_pos b3 (by omega)
  simp [quad]
  omega

set_option maxHeartbeats 800000 in
theorem Parse_any (b0 b1 b2 b3 : Nat) (h0 : b0 ≤ 255) (h1 : b1 ≤ 255) (h2 : b2 ≤ 255) (h3 : b3 ≤ 255) (w : World) :
    Calls Tryd.prog 7 #[.string (str (quad b0 b1 b2 b3))] w
      fun e w' => e = .returned (.tuple #[.int .u32 (quadV b0 b1 b2 b3 : Int), .int .i64 0, .int .i64 (((str (quad b0 b1 b2 b3)).size : Nat) : Int)]) ∧ w = w' := by
  have hl := quad_small b0 b1 b2 b3 h0 h1 h2 h3
  have hsz := str_size (quad b0 b1 b2 b3)
  have hA : Hid (∀ w, Calls Tryd.prog 22 #[.string (str (quad b0 b1 b2 b3))] w fun e w' => e = .returned (.tuple #[.int .u32 (quadV b0 b1 b2 b3 : Int), .int .i64 (((str (quad b0 b1 b2 b3)).size : Nat) : Int), .bool true]) ∧ w = w') := by
    rw [hsz]
    exact fun w => address_any b0 b1 b2 b3 [] h0 h1 h2 h3 (stops_nil _ _) _ (by rw [quadR_eq, List.append_nil]) (by omega) w
  clear hsz
  generalize quadV b0 b1 b2 b3 = V at *
  generalize str (quad b0 b1 b2 b3) = S at *
  go_enter Tryd.func7, Tryd.ntmps7
  go_wp2_with fail
  refine (hA.out _).mono ?_
  rintro e w' ⟨rfl, rfl⟩
  go_wp2_with fail
  go_ret3
  exact ⟨rfl, rfl⟩

set_option maxHeartbeats 800000 in
theorem Parse_more (b0 b1 b2 b3 : Nat) (c : UInt8) (R : List UInt8) (h0 : b0 ≤ 255) (h1 : b1 ≤ 255) (h2 : b2 ≤ 255) (h3 : b3 ≤ 255) (hst : Stops 255 b3 (c :: R)) (s : ByteArray) (hs : s = str (quadR b0 b1 b2 b3 (c :: R))) (hz : s.size ≤ 140737488351232) (w : World) :
    Calls Tryd.prog 7 #[.string s] w
      fun e w' => e = .returned (.tuple #[.int .u32 0, .int .i64 3, .int .i64 ((quad b0 b1 b2 b3).length : Int)]) ∧ w = w' := by
  have hsz : (quad b0 b1 b2 b3).length < s.size := by rw [hs, str_size, quadR_eq]; simp
  have hA : Hid (∀ w, Calls Tryd.prog 22 #[.string s] w fun e w' => e = .returned (.tuple #[.int .u32 (quadV b0 b1 b2 b3 : Int), .int .i64 ((quad b0 b1 b2 b3).length : Int), .bool true]) ∧ w = w') :=
    fun w => address_any b0 b1 b2 b3 (c :: R) h0 h1 h2 h3 hst _ hs hz w
  clear hs
  generalize quadV b0 b1 b2 b3 = V at *
  generalize (quad b0 b1 b2 b3).length = L at *
  go_enter Tryd.func7, Tryd.ntmps7
  go_wp2_with fail
  refine (hA.out _).mono ?_
  rintro e w' ⟨rfl, rfl⟩
  go_wp2_with fail
  go_ret3
  exact ⟨rfl, rfl⟩

set_option maxHeartbeats 1600000 in
theorem NetText_any (b0 b1 b2 b3 k : Nat) (h0 : b0 ≤ 255) (h1 : b1 ≤ 255) (h2 : b2 ≤ 255) (h3 : b3 ≤ 255) (a : Int) (ha : 0 ≤ a ∧ a ≤ 4294967295) (hk : k ≤ 32) (hn : netOf a k = (quadV b0 b1 b2 b3 : Int)) (w : World) (hg : Pow w) :
    Calls Tryd.prog 15 #[.int .u32 a, .int .i64 (k : Int)] w
      fun e w' => e = .returned (.tuple #[.string (str (quad b0 b1 b2 b3 ++ 47 :: Lib.itoa (k : Int))), .int .i64 0]) ∧ Grow w w' := by
  have hl := quad_small b0 b1 b2 b3 h0 h1 h2 h3
  rw [← str_size] at hl
  have z0 := itoa_pos k (by omega)
  rw [← str_size] at z0
  have hN : Hid (∀ w, Calls Tryd.prog 13 #[.int .u32 a, .int .i64 (k : Int)] w fun e w' => e = .returned (.tuple #[.int .u32 (netOf a k), .int .i64 0]) ∧ w = w') := fun w => Net_any a k ha (by omega) w
  have hT : Hid (∀ w, Pow w → Calls Tryd.prog 6 #[.int .u32 (netOf a k)] w fun e w' => e = .returned (.string (str (quad b0 b1 b2 b3))) ∧ Grow w w') := fun w hg => Text_any b0 b1 b2 b3 h0 h1 h2 h3 _ hn w hg
  have hI : Hid (∀ w, Pow w → Calls Tryd.prog 21 #[.int .i64 (k : Int)] w fun e w' => e = .returned (.string (str (Lib.itoa (k : Int)))) ∧ Grow w w') := PItoa_any k (by omega)
  obtain ⟨X1, x1⟩ : ∃ X, str (quad b0 b1 b2 b3) ++ ⟨#[47]⟩ = X := ⟨_, rfl⟩
  have x2 : X1 ++ str (Lib.itoa (k : Int)) = str (quad b0 b1 b2 b3 ++ 47 :: Lib.itoa (k : Int)) := by
    rw [← x1]
    show str (quad b0 b1 b2 b3) ++ str [47] ++ str (Lib.itoa (k : Int)) = _
    simp [str_add]
  have s1 := congrArg ByteArray.size x1
  simp only [ByteArray.size_append, show (⟨#[47]⟩ : ByteArray).size = 1 from rfl] at s1
  have sd : (⟨#[47]⟩ : ByteArray).size = 1 := rfl
  have t1 : X1.size ≤ 20 := by omega
  clear s1 hn
  generalize str (quad b0 b1 b2 b3 ++ 47 :: Lib.itoa (k : Int)) = Y at *
  generalize str (quad b0 b1 b2 b3) = S at *
  generalize str (Lib.itoa (k : Int)) = T at *
  generalize netOf a k = V at *
  go_enter Tryd.func15, Tryd.ntmps15
  go_wp2_with fail
  refine (hN.out _).mono ?_
  rintro e w' ⟨rfl, rfl⟩
  go_wp2_with fail
  refine (hT.out _ hg).mono ?_
  rintro e w1 ⟨rfl, hg1⟩
  have A1 := (show Aside _ from And.intro hg1 (hg.grow hg1))
  clear hg1
  go_wp2_with fail
  refine (hI.out _ A1.out.2).mono ?_
  rintro e w2 ⟨rfl, hg2⟩
  have A2 := (show Aside _ from A1.out.1.trans hg2)
  clear hg2
  go_wp2_with fail
  go_ret2
  exact ⟨rfl, A2.out⟩

set_option maxHeartbeats 400000 in
theorem NetText_not (a k : Int) (hk : k < 0 ∨ 32 < k) (w : World) :
    Calls Tryd.prog 15 #[.int .u32 a, .int .i64 k] w fun e w' => e = .returned (.tuple #[.string ⟨#[]⟩, .int .i64 1]) ∧ w = w' := by
  go_enter Tryd.func15, Tryd.ntmps15
  go_wp2_with fail
  refine (Net_not _ _ hk _).mono ?_
  rintro e w' ⟨rfl, rfl⟩
  go_wp2_with fail
  go_ret2
  exact ⟨rfl, rfl⟩

set_option maxHeartbeats 1600000 in
theorem ParseNet_any (b0 b1 b2 b3 k : Nat) (h0 : b0 ≤ 255) (h1 : b1 ≤ 255) (h2 : b2 ≤ 255) (h3 : b3 ≤ 255) (hk : k ≤ 32) (hn : (quadV b0 b1 b2 b3 : Int) % sz k = 0) (s : ByteArray) (hs : s = str (quad b0 b1 b2 b3 ++ 47 :: Lib.itoa (k : Int))) (w : World) :
    Calls Tryd.prog 19 #[.string s] w
      fun e w' => e = .returned (.tuple #[.int .u32 (quadV b0 b1 b2 b3 : Int), .int .i64 (k : Int), .int .i64 0, .int .i64 (s.size : Int)]) ∧ w = w' := by
  have hl := quad_small b0 b1 b2 b3 h0 h1 h2 h3
  have z0 := itoa_pos k (by omega)
  have hv : 0 ≤ (quadV b0 b1 b2 b3 : Int) ∧ (quadV b0 b1 b2 b3 : Int) ≤ 4294967295 := by unfold quadV; omega
  have hsz : s.size = (quad b0 b1 b2 b3).length + 1 + (Lib.itoa (k : Int)).length := by rw [hs, str_size]; simp; omega
  have hlow : bits .and .u32 (quadV b0 b1 b2 b3 : Int) (sz k - 1) = 0 := by rw [low_bits hv, hn]
  have hA : Hid (∀ w, Calls Tryd.prog 22 #[.string s] w fun e w' => e = .returned (.tuple #[.int .u32 (quadV b0 b1 b2 b3 : Int), .int .i64 ((quad b0 b1 b2 b3).length : Int), .bool true]) ∧ w = w') :=
    fun w => address_any b0 b1 b2 b3 (47 :: Lib.itoa (k : Int)) h0 h1 h2 h3 (stops_mark (by decide)) _ (by rw [hs, quadR_eq]) (by omega) w
  have hB : Hid (∀ w, Calls Tryd.prog 24 #[.string s, .int .i64 ((quad b0 b1 b2 b3).length : Int), .int .u8 47, .int .i64 32] w fun e w' => e = .returned (.tuple #[.int .i64 (k : Int), .int .i64 (s.size : Int), .bool true]) ∧ w = w') := fun w =>
    calls_to (next_at (quad b0 b1 b2 b3) _ [] 47 32 k _ rfl rfl (by decide) (by decide) hk (stops_nil _ _) s (by rw [hs, List.append_nil]; rfl) (by omega) w) (readV_to (by omega) hsz)
  have hL : Hid (∀ w, Calls Tryd.prog 23 #[.int .i64 (k : Int)] w fun e w' => e = .returned (.int .u32 (sz k - 1)) ∧ w = w') := fun w => lower_any k (by omega) w
  have hz : s.size ≤ 100 := by omega
  clear hs hn hsz
  generalize quadV b0 b1 b2 b3 = V at *
  generalize (quad b0 b1 b2 b3).length = L at *
  generalize (Lib.itoa (k : Int)).length = M at *
  generalize sz k - 1 = Z at *
  go_enter Tryd.func19, Tryd.ntmps19
  go_wp2_with fail
  refine (hA.out _).mono ?_
  rintro e w' ⟨rfl, rfl⟩
  go_wp2_with fail
  refine (hB.out _).mono ?_
  rintro e w' ⟨rfl, rfl⟩
  go_wp2_with fail
  refine (hL.out _).mono ?_
  rintro e w' ⟨rfl, rfl⟩
  go_wp2_with fail
  refine bodyPost_ret (by simp [results, Tryd.results19, go_sem]; try rfl) rfl ?_
  exact ⟨rfl, rfl⟩

theorem ex_text : str (quad 10 0 0 1) = ⟨#[49, 48, 46, 48, 46, 48, 46, 49]⟩ := by
  have e0 : Lib.itoa ((10 : Nat) : Int) = [49, 48] := itoa_two (by decide) (by decide)
  have e1 : Lib.itoa ((0 : Nat) : Int) = [48] := itoa_one (by decide)
  have e2 : Lib.itoa ((1 : Nat) : Int) = [49] := itoa_one (by decide)
  unfold quad
  rw [e0, e1, e2]
  rfl
theorem ex_more : (⟨#[49, 48, 46, 48, 46, 48, 46, 50, 53, 54]⟩ : ByteArray) = str (quadR 10 0 0 25 [54]) := by
  have e0 : Lib.itoa ((10 : Nat) : Int) = [49, 48] := itoa_two (by decide) (by decide)
  have e1 : Lib.itoa ((0 : Nat) : Int) = [48] := itoa_one (by decide)
  have e2 : Lib.itoa ((25 : Nat) : Int) = [50, 53] := itoa_two (by decide) (by decide)
  unfold quadR
  rw [e0, e1, e2]
  rfl
theorem ex_length : (quad 10 0 0 25).length = 9 := by
  have e0 : Lib.itoa ((10 : Nat) : Int) = [49, 48] := itoa_two (by decide) (by decide)
  have e1 : Lib.itoa ((0 : Nat) : Int) = [48] := itoa_one (by decide)
  have e2 : Lib.itoa ((25 : Nat) : Int) = [50, 53] := itoa_two (by decide) (by decide)
  unfold quad
  rw [e0, e1, e2]
  rfl

set_option maxHeartbeats 800000 in
theorem Alive_any (w : World) (hg : Pow w) : Calls Tryd.prog 12 #[] w fun e w' => e = .returned (.bool true) ∧ Grow w w' := by
  have hP : Hid (∀ w, Calls Tryd.prog 7 #[.string ⟨#[49, 48, 46, 48, 46, 48, 46, 50, 53, 54]⟩] w fun e w' => e = .returned (.tuple #[.int .u32 0, .int .i64 3, .int .i64 9]) ∧ w = w') := fun w => by
    have h := Parse_more 10 0 0 25 54 [] (by decide) (by decide) (by decide) (by decide) (fun c r e => by cases e; exact .inr (.inr (by decide))) _ ex_more (by decide) w
    rw [ex_length] at h
    exact h
  have hT : Hid (∀ w, Pow w → Calls Tryd.prog 6 #[.int .u32 167772161] w fun e w' => e = .returned (.string ⟨#[49, 48, 46, 48, 46, 48, 46, 49]⟩) ∧ Grow w w') := fun w hg => by
    have h := Text_any 10 0 0 1 (by decide) (by decide) (by decide) (by decide) 167772161 rfl w hg
    rw [ex_text] at h
    exact h
  go_enter Tryd.func12, Tryd.ntmps12
  go_wp2_with fail
  refine (hP.out _).mono ?_
  rintro e w' ⟨rfl, rfl⟩
  go_wp2_with fail
  refine (hT.out _ hg).mono ?_
  rintro e w1 ⟨rfl, hg1⟩
  have A1 := (show Aside _ from hg1)
  clear hg1
  go_wp2_with fail
  refine (Acode_any _ _).mono ?_
  rintro e w' ⟨rfl, rfl⟩
  go_wp2_with fail
  go_ret
  exact ⟨rfl, A1.out⟩
end Go.Proofs.YthaheagjelmnpaaDoor
