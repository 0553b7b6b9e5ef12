/- RtoSteady: its walk. -/
import Derived.Test.YtpbnpkbmefjiaaaRoIf
namespace Go.Proofs.Ytpbnpkbmefjiaaa
set_option linter.unusedVariables false
set_option linter.unusedSimpArgs false
open Go.ChangeShapes Go.WideShapes Go.ChangeAt Go.RowKit

/-- Behind k samples that are all the same. -/
def rst (c : Nat) : Nat → Ro
  | 0 => noneRo 1 1073741824 5
  | k + 1 => roSp (rst c k) c
def bq : Nat → Nat
  | 0 => 131070
  | k + 1 => bq k - bq k / 4
theorem rst_ok (c : Nat) (hc : c ≤ 65535) : ∀ k, RoOk (rst c k)
  | 0 => roOk_none (by decide) (by decide) (by decide) (by decide)
  | k + 1 => (rst_ok c hc k).sp (by omega)
theorem rst_at (c : Nat) (hc : c ≤ 65535) : ∀ k, (rst c (k + 1)).m = 8 * c ∧ (rst c (k + 1)).known = true ∧ (rst c (k + 1)).v ≤ bq k
  | 0 => by
    refine ⟨rfl, rfl, ?_⟩
    show 2 * c ≤ 131070
    omega
  | k + 1 => by
    obtain ⟨h1, h2, h3⟩ := rst_at c hc k
    refine ⟨?_, rfl, ?_⟩
    · show roM (rst c (k + 1)) c = _
      unfold roM
      rw [if_pos h2, h1]
      omega
    · show roV (rst c (k + 1)) c ≤ _
      unfold roV
      rw [if_pos h2, h1]
      show _ ≤ bq k - bq k / 4
      omega
theorem rst_now (c k : Nat) : (rst c (k + 1)).now = roNow 1 1073741824 (rst c (k + 1)).m (rst c (k + 1)).v := by
  have hl : ∀ k, (rst c k).least = 1 ∧ (rst c k).most = 1073741824 := fun k => by
    induction k with
    | zero => exact ⟨rfl, rfl⟩
    | succ k ih => exact ih
  show roNow (rst c k).least (rst c k).most _ _ = _
  rw [(hl k).1, (hl k).2]
  rfl
set_option maxRecDepth 10000 in
theorem rst_end (c : Nat) (hc : c ≤ 65535) : (rst c 60).m / 8 = c ∧ (rst c 60).v / 4 < 4 ∧ (rst c 60).now ≤ c + 16 := by
  have h1 : (rst c 60).m = 8 * c := (rst_at c hc 59).1
  have h3 : (rst c 60).v ≤ bq 59 := (rst_at c hc 59).2.2
  have hb : bq 59 ≤ 3 := by decide
  refine ⟨by rw [h1]; omega, by omega, ?_⟩
  rw [rst_now, h1]
  have h4 : (rst c 60).v ≤ 3 := Nat.le_trans h3 hb
  show roNow 1 1073741824 (8 * c) (rst c 60).v ≤ c + 16
  generalize (rst c 60).v = v at h4
  have h5 : roOne v ≤ 3 := by
    unfold roOne
    split <;> omega
  unfold roNow
  generalize roOne v = x at h5
  have h6 : roLow 1 (8 * c / 8 + x) ≤ c + 4 := by
    unfold roLow
    split <;> omega
  generalize roLow 1 (8 * c / 8 + x) = y at h6
  unfold roTop
  split <;> omega
set_option maxRecDepth 10000 in
set_option maxHeartbeats 2000000 in
theorem rtoSteady_if {Rp : RoT} (I : RIf Rp) (w : World) (a : Int) (ha : 0 ≤ a ∧ a ≤ 65535) : Calls Try.prog 4 #[.int .u16 a] w fun e w' => e = .returned (.bool true) ∧ Below w.heap.size w w' := by
  have c0 := I.new w 1 1073741824 5 (by unfold RoRight; omega)
  have HC := Lib.hid (fun x w => rcode_any x w)
  have HI := Lib.hid I
  have HLv := Lib.hid (fun w => rlive_any I w)
  obtain ⟨c, rfl⟩ : ∃ c : Nat, a = (c : Int) := ⟨a.toNat, by omega⟩
  have HK : Hid (c ≤ 65535 ∧ In64 (c : Int) ∧ clipT (c : Int) = c ∧ In64 3) := ⟨by omega, by unfold In64; omega, by have := clipT_of (t := (c : Int)) (by omega) (by omega); omega, by unfold In64; omega⟩
  have w0 : IntKind.i64.wrap (c : Int) = (c : Int) := IntWalk.i64_in _ (by omega)
  have w1 : wrap64 (c : Int) = (c : Int) := IntWalk.wrap64_in _ (by omega)
  clear ha I
  go_enter Try.func4, Try.ntmps4
  go_wp2_with fail
  refine c0.mono ?_
  rintro e wa ⟨pb, rfl, h1, g1⟩
  have H1 : Hid (Rp wa w.heap.size pb (rst c 0) ∧ Only w.heap.size Zr w wa) := ⟨h1, Only.grow g1 (Nat.le_refl _) Zr⟩
  clear c0 h1 g1
  go_wp2_with fail
  refine (HC.out _ _).mono ?_
  rintro e w' ⟨rfl, hw⟩
  subst w'
  go_wp2_with fail
  go_loopg [5] 60 (fun gk s5 wr => ∃ k : Nat, k ≤ 60 ∧ gk = 60 - k ∧ s5 = .int .i64 (k : Int) ∧ Hid (Rp wr w.heap.size pb (rst c k) ∧ Only w.heap.size Zr w wr))
  case atStart => exact ⟨0, Nat.zero_le _, rfl, rfl, H1⟩
  case round =>
    obtain ⟨k, hk, rfl, rfl, HR⟩ := hrel
    clear H1
    rename World => wr
    rcases Nat.lt_or_ge k 60 with hlt | hge
    · have i0 : (k : Int) < 60 := by omega
      have c1 := HI.out.sample HR.out.1 HR.out.2.size (c : Int) HK.out.2.1
      rw [HK.out.2.2.1] at c1
      go_wp2_with fail
      refine c1.mono ?_
      rintro e w2 ⟨rfl, h2, o2⟩
      have HR2 : Hid (Rp w2 w.heap.size pb (rst c (k + 1)) ∧ Only w.heap.size Zr w w2) := ⟨h2, HR.out.2.trans o2⟩
      clear c1 h2 o2 HR
      go_wp2_with fail
      go_roundg (60 - (k + 1))
      case measure => omega
      case rel => exact ⟨k + 1, by omega, rfl, by go_num, HR2⟩
    · obtain rfl : k = 60 := by omega
      have hend := rst_end c HK.out.1
      obtain ⟨X, hX⟩ : ∃ X, X = (rst c 60).m / 8 := ⟨_, rfl⟩
      obtain ⟨Y, hY⟩ : ∃ Y, Y = (rst c 60).v / 4 := ⟨_, rfl⟩
      obtain ⟨N, hN⟩ : ∃ N, N = (rst c 60).now := ⟨_, rfl⟩
      rw [← hX, ← hY, ← hN] at hend
      have c1 := HI.out.smooth HR.out.1
      rw [← hX, ← hY, hend.1] at c1
      have HN := Lib.hid (And.intro hN hend)
      clear hX hY hN hend
      go_wp2_with fail
      refine c1.mono ?_
      rintro e w2 ⟨rfl, g2⟩
      have HR2 : Hid (Rp w2 w.heap.size pb (rst c 60) ∧ Only w.heap.size Zr w w2) := ⟨HI.out.grow HR.out.1 g2, HR.out.2.trans (Only.grow g2 HR.out.2.size Zr)⟩
      clear c1 g2 HR
      go_wp2_with fail
      refine (HI.out.sampleNil _ 3 HK.out.2.2.2).mono ?_
      rintro e w3 ⟨rfl, g3⟩
      have HR3 : Hid (Rp w3 w.heap.size pb (rst c 60) ∧ Only w.heap.size Zr w w3) := ⟨HI.out.grow HR2.out.1 g3, HR2.out.2.trans (Only.grow g3 HR2.out.2.size Zr)⟩
      clear g3 HR2
      go_wp2_with fail
      refine (HI.out.backNil _).mono ?_
      rintro e w4 ⟨rfl, g4⟩
      have HR4 : Hid (Rp w4 w.heap.size pb (rst c 60) ∧ Only w.heap.size Zr w w4) := ⟨HI.out.grow HR3.out.1 g4, HR3.out.2.trans (Only.grow g4 HR3.out.2.size Zr)⟩
      clear g4 HR3
      go_wp2_with fail
      refine (HI.out.smoothNil _).mono ?_
      rintro e w5 ⟨rfl, g5⟩
      have HR5 : Hid (Rp w5 w.heap.size pb (rst c 60) ∧ Only w.heap.size Zr w w5) := ⟨HI.out.grow HR4.out.1 g5, HR4.out.2.trans (Only.grow g5 HR4.out.2.size Zr)⟩
      clear g5 HR4
      have q1 : (Y : Int) < 4 := by have := HN.out.2.2.1; omega
      go_wp2_with fail
      have c6 := HI.out.now HR5.out.1
      rw [← HN.out.1] at c6
      refine c6.mono ?_
      rintro e w6 ⟨rfl, g6⟩
      have HR6 : Hid (Only w.heap.size Zr w w6) := HR5.out.2.trans (Only.grow g6 HR5.out.2.size Zr)
      clear c6 g6 HR5
      have w2 : wrap64 ((c : Int) + 16) = (c : Int) + 16 := IntWalk.wrap64_in _ (by have := HK.out.1; omega)
      have q2 : (N : Int) ≤ (c : Int) + 16 := by have := HN.out.2.2.2; omega
      go_wp2_with fail
      refine (HI.out.nowNil _).mono ?_
      rintro e w7 ⟨rfl, g7⟩
      have HR7 : Hid (Only w.heap.size Zr w w7) := HR6.out.trans (Only.grow g7 HR6.out.size Zr)
      clear g7 HR6
      go_wp2_with fail
      refine (HI.out.backsNil _).mono ?_
      rintro e w8 ⟨rfl, g8⟩
      have HR8 : Hid (Only w.heap.size Zr w w8) := HR7.out.trans (Only.grow g8 HR7.out.size Zr)
      clear g8 HR7
      go_wp2_with fail
      refine (HLv.out _).mono ?_
      rintro e w9 ⟨rfl, g9⟩
      have HR9 : Hid (Only w.heap.size Zr w w9) := HR8.out.trans (Only.grow g9 HR8.out.size Zr)
      clear g9 HR8
      go_wp2_with fail
      go_ret
      exact ⟨rfl, HR9.out.low⟩
end Go.Proofs.Ytpbnpkbmefjiaaa
