/- Texts of bytes; the reference's Number. -/
import Derived.Test.YthaheagjelmnpaaDoorRows
import Derived.Test.YthaheagjelmnpaaDoorRead
import Derived.Test.YthaheagjelmnpaaDoorNum
import Derived.WalkKit
import Derived.ProofKit
import Derived.OpenShut
import Derived.ShutString
import Derived.ChangeOld
import Derived.Below
import Derived.BigQuiet
import Derived.Deep.QuietTactic
import Derived.WalkSpells
import Derived.WalkLawsBesides
import Derived.Outline
import Derived.Lib.Hide
import Derived.Lib.ItoaLen
import Derived.Lib.ItoaMem
import Derived.Deep.LoopGhost
import Derived.Deep.DeepCutAuto
namespace Go.Proofs.YthaheagjelmnpaaDoor
set_option linter.unusedVariables false
set_option linter.unusedSimpArgs false
open Go.ChangeShapes Go.WideShapes Go.ChangeAt Go.RowKit

/-- A list of bytes as a text. -/
def str (l : List UInt8) : ByteArray := ⟨l.toArray⟩
theorem str_size (l : List UInt8) : (str l).size = l.length := by unfold str; rw [ByteArray.size]; simp
theorem str_add (a b : List UInt8) : str a ++ str b = str (a ++ b) := by
  apply ByteArray.ext
  show ((⟨a.toArray⟩ : ByteArray) ++ ⟨b.toArray⟩).data = _
  rw [ByteArray.data_append]
  simp [str]
theorem str_self (s : ByteArray) : str s.data.toList = s := by apply ByteArray.ext; simp [str]
theorem digits_at : ∀ d : Fin 10, (⟨#[48, 49, 50, 51, 52, 53, 54, 55, 56, 57]⟩ : ByteArray).extract d.val (d.val + 1) = str [UInt8.ofNat (48 + d.val)] := by decide +kernel
theorem digit_at {d : Nat} (h : d < 10) : (⟨#[48, 49, 50, 51, 52, 53, 54, 55, 56, 57]⟩ : ByteArray).extract d (d + 1) = str [UInt8.ofNat (48 + d)] := digits_at ⟨d, h⟩

theorem itoa_big {q : Nat} (h : ¬ q < 10) : Lib.itoa (q : Int) = Lib.itoa ((q / 10 : Nat) : Int) ++ [UInt8.ofNat (48 + q % 10)] := by
  rw [Lib.itoa_nonneg, Lib.itoa_nonneg, Lib.decDigits, dif_neg h]
theorem itoa_nbig {q : Nat} (h : ¬ q < 10) : Lib.itoa (-(q : Int)) = Lib.itoa (-((q / 10 : Nat) : Int)) ++ [UInt8.ofNat (48 + q % 10)] := by
  rw [Lib.itoa_neg _ (by omega), Lib.itoa_neg _ (by omega), Lib.decDigits, dif_neg h]
  rfl
theorem itoa_one {q : Nat} (h : q < 10) : Lib.itoa (q : Int) = [UInt8.ofNat (48 + q)] := by rw [Lib.itoa_nonneg, Lib.decDigits_one h]
theorem itoa_none {q : Nat} (h : q < 10) (h1 : 1 ≤ q) : Lib.itoa (-(q : Int)) = [45] ++ [UInt8.ofNat (48 + q)] := by rw [Lib.itoa_neg _ h1, Lib.decDigits_one h]; rfl

theorem leaves_draws {P : Program} {f : FuncId} {args : Array Value} {w : World} {n : Nat} {v : Value}
    (h : Calls P f args (w.drewN n) fun e w' => e = .returned v ∧ ∃ m, w' = (w.drewN n).drewN m) :
    Calls P f args (w.drewN n) fun e w'' => e = .returned v ∧ ∃ m, w'' = w.drewN m :=
  h.mono fun _ _ ⟨he, m, hm⟩ => ⟨he, n + m, by rw [hm, World.drewN_drewN]⟩

set_option maxHeartbeats 1600000 in
theorem Number_k (k : Nat) : ∀ (n : Int) (w : World), n.natAbs ≤ k → -9223372036854775808 ≤ n → n ≤ 9223372036854775807 →
    Calls Tryd.prog 20 #[.int .i64 n] w fun e w' => e = .returned (.string (str (Lib.itoa n))) ∧ ∃ m, w' = w.drewN m := by
  induction k using Nat.strongRecOn with
  | _ k ih =>
    intro n w hk h0 h1
    rcases Int.lt_or_le n 0 with hn | hn
    · obtain ⟨q, hq⟩ : ∃ q : Nat, n = -(q : Int) := ⟨n.natAbs, by omega⟩
      subst hq
      have em : (-(q : Int)).tmod 10 = -((q % 10 : Nat) : Int) := by rw [Int.neg_tmod]; rfl
      have ed : (-(q : Int)).tdiv 10 = -((q / 10 : Nat) : Int) := by rw [Int.neg_tdiv]; rfl
      have hd10 : q % 10 < 10 := Nat.mod_lt _ (by decide)
      rcases Nat.lt_or_ge q 10 with hq | hq
      · have e1 := itoa_none hq (by omega)
        have e2 := digit_at hq
        have ez : q / 10 = 0 := by omega
        have em2 : q % 10 = q := by omega
        rw [ez] at ed
        rw [em2] at em
        rw [e1]
        clear e1 ez em2 hd10 ih
        have A : Aside ((⟨#[48, 49, 50, 51, 52, 53, 54, 55, 56, 57]⟩ : ByteArray).extract q (q + 1) = str [UInt8.ofNat (48 + q)]) := e2
        clear e2
        generalize hN : (-(q : Int)) = N at hk h0 h1 hn ed ⊢
        rw [hN] at em
        have em3 : N.tmod 10 = -(q : Int) := by rw [em, hN]
        clear em hN
        go_enter Tryd.func20, Tryd.ntmps20
        go_wp2_with fail
        go_ret
        refine ⟨congrArg (fun s => Ending.returned (Value.string s)) ?_, 0, rfl⟩
        rw [A.out]
        exact str_add [45] _
      · have e1 := itoa_nbig (q := q) (by omega)
        have e2 := digit_at hd10
        rw [e1]
        have IH := ih (q / 10) (by omega) (-((q / 10 : Nat) : Int))
        have hp : 1 ≤ q / 10 := by omega
        have hp2 : q / 10 ≤ 922337203685477580 := by omega
        have hl := Lib.itoa_length_le (-((q / 10 : Nat) : Int)) (by omega) (by omega)
        generalize Lib.itoa (-((q / 10 : Nat) : Int)) = T at *
        generalize q % 10 = d at *
        generalize q / 10 = q1 at *
        have A : Aside ((⟨#[48, 49, 50, 51, 52, 53, 54, 55, 56, 57]⟩ : ByteArray).extract d (d + 1) = str [UInt8.ofNat (48 + d)]) := e2
        have I : Hid (∀ (w : World), Calls Tryd.prog 20 #[.int .i64 (-(q1 : Int))] w fun e w' => e = .returned (.string (str T)) ∧ ∃ m, w' = w.drewN m) := fun w => IH w (by omega) (by omega) (by omega)
        have hsz : (str T).size ≤ 21 := by rw [str_size]; exact hl
        clear e2 e1 IH ih hl
        generalize hN : (-(q : Int)) = N at hk h0 h1 hn ed em ⊢
        clear hN
        have hw : wrap64 (-(q1 : Int)) = -(q1 : Int) := IntWalk.wrap64_in _ (by omega)
        have hz : (-(q1 : Int) == 0) = false := by simp; omega
        generalize hX : str T = X at I hsz
        go_enter Tryd.func20, Tryd.ntmps20
        go_wp2_with fail
        go_quiet (((go_at_call 20; exact leaves_draws (I.out _))))
        go_wp2_with fail
        go_ret
        refine ⟨congrArg (fun s => Ending.returned (Value.string s)) ?_, _, rfl⟩
        rw [A.out, ← hX]
        exact str_add _ _
    · obtain ⟨q, rfl⟩ := Int.eq_ofNat_of_zero_le hn
      have em : ((q : Int)).tmod 10 = ((q % 10 : Nat) : Int) := rfl
      have ed : ((q : Int)).tdiv 10 = ((q / 10 : Nat) : Int) := rfl
      have hd10 : q % 10 < 10 := Nat.mod_lt _ (by decide)
      rcases Nat.lt_or_ge q 10 with hq | hq
      · rw [itoa_one hq]
        have A : Aside ((⟨#[48, 49, 50, 51, 52, 53, 54, 55, 56, 57]⟩ : ByteArray).extract q (q + 1) = str [UInt8.ofNat (48 + q)]) := digit_at hq
        clear em ed hd10 ih
        go_enter Tryd.func20, Tryd.ntmps20
        go_wp2_with fail
        go_ret
        exact ⟨congrArg (fun s => Ending.returned (Value.string s)) A.out, 0, rfl⟩
      · rw [itoa_big (q := q) (by omega)]
        have e2 := digit_at hd10
        have IH := ih (q / 10) (by omega) ((q / 10 : Nat) : Int)
        have hl := Lib.itoa_length_le ((q / 10 : Nat) : Int) (by omega) (by omega)
        generalize Lib.itoa ((q / 10 : Nat) : Int) = T at *
        have hp : 1 ≤ q / 10 := by omega
        have hp2 : q / 10 ≤ 922337203685477580 := by omega
        generalize q % 10 = d at *
        generalize q / 10 = q1 at *
        have A : Aside ((⟨#[48, 49, 50, 51, 52, 53, 54, 55, 56, 57]⟩ : ByteArray).extract d (d + 1) = str [UInt8.ofNat (48 + d)]) := e2
        have I : Hid (∀ (w : World), Calls Tryd.prog 20 #[.int .i64 (q1 : Int)] w fun e w' => e = .returned (.string (str T)) ∧ ∃ m, w' = w.drewN m) := fun w => IH w (by omega) (by omega) (by omega)
        have hsz : (str T).size ≤ 21 := by rw [str_size]; exact hl
        clear e2 IH ih hl
        generalize hN : ((q : Int)) = N at hk h0 h1 hn ed em ⊢
        have hN10 : 10 ≤ N := by omega
        clear hN
        generalize hX : str T = X at I hsz
        go_enter Tryd.func20, Tryd.ntmps20
        go_wp2_with fail
        go_quiet (((go_at_call 20; exact leaves_draws (I.out _))))
        go_wp2_with fail
        go_ret
        refine ⟨congrArg (fun s => Ending.returned (Value.string s)) ?_, _, rfl⟩
        rw [A.out, ← hX]
        exact str_add _ _
theorem Number_any (n : Int) (h0 : -9223372036854775808 ≤ n) (h1 : n ≤ 9223372036854775807) (w : World) :
    Calls Tryd.prog 20 #[.int .i64 n] w fun e w' => e = .returned (.string (str (Lib.itoa n))) ∧ ∃ m, w' = w.drewN m := Number_k _ n w (Nat.le_refl _) h0 h1
end Go.Proofs.YthaheagjelmnpaaDoor
