/- Contracts: same; First. -/
import Derived.Test.YtmfgbanckehcgaaDoorTrailMade
import Derived.Laws.StructEq
import Derived.Deep.AppendSrc
namespace Go.Proofs.YtmfgbanckehcgaaDoor
set_option linter.unusedVariables false
set_option linter.unusedSimpArgs false
open Go.ChangeShapes Go.WideShapes Go.ChangeAt Go.RowKit

set_option maxHeartbeats 1600000 in
theorem same_true (l : PL) (a b : Value) (w : World) (ha : Plc w a l) (hz : Plc w b l) :
    Calls Tryd.prog 15 #[a, b] w fun e w' => e = .returned (.bool true) ∧ Grow w w' := by
  obtain ⟨A, c, rfl, hlc, hcm, hcell⟩ := id ha
  obtain ⟨A2, c2, rfl, hlc2, hcm2, hcell2⟩ := id hz
  have hm : l.length ≤ 9223372036854775807 := Nat.le_trans hlc hcm
  go_enter Tryd.func15, Tryd.ntmps15
  go_wp2_with fail
  go_loopg [5] l.length (fun g s5 wr => ∃ k : Nat, k ≤ l.length ∧ g = l.length - k ∧ s5 = .int .i64 (k : Int) ∧ Grow w wr)
  case atStart => exact ⟨0, Nat.zero_le _, rfl, rfl, Grow.refl _⟩
  case round =>
    obtain ⟨k, hk, rfl, rfl, hgr⟩ := hrel
    rcases Nat.lt_or_ge k l.length with hlt | hge
    · obtain ⟨b, off, rfl, hb, hc⟩ := hcell (by omega)
      obtain ⟨b2, off2, rfl, hb2, hc2⟩ := hcell2 (by omega)
      have x0 := (hc k hlt).1
      have x1 := (hc k hlt).2
      have y0 := (hc2 k hlt).1
      have y1 := (hc2 k hlt).2
      rw [← hgr.cell (p := ⟨b, off + k * 2, none⟩) hb] at x0
      rw [← hgr.cell (p := ⟨b, off + k * 2 + 1, none⟩) hb] at x1
      rw [← hgr.cell (p := ⟨b2, off2 + k * 2, none⟩) hb2] at y0
      rw [← hgr.cell (p := ⟨b2, off2 + k * 2 + 1, none⟩) hb2] at y1
      generalize l[k]'hlt = p at *
      have A1 : Aside (Grow w wr) := hgr
      clear hc hc2 hcell hcell2 hgr
      go_wp2_with fail
      go_quiet (fail)
      go_wp2_with fail
      go_roundg (l.length - (k + 1))
      case measure => omega
      case rel => exact ⟨k + 1, by omega, rfl, by go_num, A1.out.trans (Grow.drewN _ _)⟩
    · have A1 : Aside (Grow w wr) := hgr
      have hkk : k = l.length := by omega
      subst hkk
      clear hgr
      go_wp2_with fail
      go_ret
      exact ⟨rfl, A1.out⟩

/-- The first number that is not 0. -/
def firstNot : List Int → Int
  | [] => 0
  | n :: r => if n = 0 then firstNot r else n
theorem firstNot_drop {ns : List Int} {k : Nat} (h : k < ns.length) : firstNot (ns.drop k) = if ns[k] = 0 then firstNot (ns.drop (k + 1)) else ns[k] := by
  rw [List.drop_eq_getElem_cons h, firstNot]

set_option maxHeartbeats 1600000 in
theorem First_any (ns : List Int) (v : Value) (w : World) (hv : Rd w v (ns.map errV)) :
    Calls Tryd.prog 19 #[v] w fun e w' => e = .returned (errV (firstNot ns)) ∧ Grow w w' := by
  obtain ⟨A, c, hv', hlc, hcm, hcell⟩ := id hv
  simp only [List.length_map] at hv' hlc hcell
  subst hv'
  have hm : ns.length ≤ 9223372036854775807 := Nat.le_trans hlc hcm
  go_enter Tryd.func19, Tryd.ntmps19
  go_wp2_with fail
  go_loopg [7] ns.length (fun g s7 wr => w = wr ∧ ∃ k : Nat, k ≤ ns.length ∧ g = ns.length - k ∧ s7 = .int .i64 (k : Int) ∧ firstNot (ns.drop k) = firstNot ns)
  case atStart => exact ⟨rfl, 0, Nat.zero_le _, rfl, rfl, rfl⟩
  case round =>
    obtain ⟨rfl, k, hk, rfl, rfl, hf⟩ := hrel
    rcases Nat.lt_or_ge k ns.length with hlt | hge
    · obtain ⟨b, off, rfl, hb, hc⟩ := hcell (by omega)
      have x0 := hc k hlt
      simp only [List.getElem_map] at x0
      rw [firstNot_drop hlt] at hf
      generalize ns[k]'hlt = n at *
      clear hc hcell
      by_cases hn : n = 0
      · rw [if_pos hn] at hf
        rw [hn, errV_zero] at x0
        have A1 : Aside (firstNot (ns.drop (k + 1)) = firstNot ns) := hf
        clear hf hn
        go_wp2_with fail
        go_roundg (ns.length - (k + 1))
        case measure => omega
        case rel => exact ⟨rfl, k + 1, by omega, rfl, by go_num, A1.out⟩
      · rw [if_neg hn] at hf
        rw [errV_not hn] at x0
        have A1 : Aside (n = firstNot ns ∧ n ≠ 0) := ⟨hf, hn⟩
        clear hf hn
        go_wp2_with fail
        go_ret
        exact ⟨by rw [← A1.out.1, errV_not A1.out.2]; rfl, Grow.refl _⟩
    · have hkk : k = ns.length := by omega
      subst hkk
      rw [List.drop_length] at hf
      have A1 : Aside (0 = firstNot ns) := hf
      clear hf
      go_wp2_with fail
      go_ret
      exact ⟨by rw [← A1.out]; rfl, Grow.refl _⟩
end Go.Proofs.YtmfgbanckehcgaaDoor
