/- The reference's Same, of two that are the same. -/
import Derived.Test.YtfdoofkofljgnaaRtSearch
namespace Go.Proofs.Ytfdoofkofljgnaa
set_option linter.unusedVariables false
set_option linter.unusedSimpArgs false
open Go.ChangeShapes Go.WideShapes Go.ChangeAt Go.RowKit

set_option maxHeartbeats 1600000 in
theorem RSame_any (l : List Rt) (a b : Value) (w : World) (ha : Rts w a l) (hz : Rts w b l) :
    Calls Try.prog 11 #[a, b] w fun e w' => e = .returned (.bool true) ∧ Grow w w' := by
  obtain ⟨A, c, rfl, hlc, hcm⟩ := ha.form
  obtain ⟨A2, c2, rfl, hlc2, hcm2⟩ := hz.form
  have hm : l.length ≤ 9223372036854775807 := Nat.le_trans hlc hcm
  have HA := Lib.hid (And.intro ha hz)
  clear ha hz
  go_enter Try.func11, Try.ntmps11
  go_wp2_with fail
  go_loopg [5] l.length (fun g s5 wr => ∃ k : Nat, k ≤ l.length ∧ g = l.length - k ∧ s5 = .int .i64 (k : Int) ∧ Grow w wr)
  case atStart => exact ⟨0, Nat.zero_le _, rfl, rfl, Grow.refl _⟩
  case round =>
    obtain ⟨k, hk, rfl, rfl, hgr⟩ := hrel
    rcases Nat.lt_or_ge k l.length with hlt | hge
    · obtain ⟨b, off, rfl, hb, hc⟩ := HA.out.1.at_ (by omega)
      obtain ⟨b2, off2, rfl, hb2, hc2⟩ := HA.out.2.at_ (by omega)
      obtain ⟨x0, x1, x2, x3, x4⟩ := (hc k hlt).grow hgr hb
      obtain ⟨y0, y1, y2, y3, y4⟩ := (hc2 k hlt).grow hgr hb2
      generalize l[k]'hlt = p at *
      obtain ⟨pn, pb, pv, pi, pc⟩ := p
      have A1 : Aside (Grow w wr) := hgr
      have hkI : (k : Int) < (l.length : Int) := by omega
      clear hc hc2 hgr hb hb2
      go_wp2_with fail
      go_quiet (fail)
      go_wp2_with fail
      go_roundg (l.length - (k + 1))
      case measure => omega
      case rel => exact ⟨k + 1, by omega, rfl, by go_num, A1.out.trans ⟨rfl, rfl, rfl, Nat.le_refl _, fun _ _ => rfl⟩⟩
    · have A1 : Aside (Grow w wr) := hgr
      have hkk : k = l.length := by omega
      subst hkk
      clear hgr
      go_wp2_with fail
      go_ret
      exact ⟨rfl, A1.out⟩
end Go.Proofs.Ytfdoofkofljgnaa
