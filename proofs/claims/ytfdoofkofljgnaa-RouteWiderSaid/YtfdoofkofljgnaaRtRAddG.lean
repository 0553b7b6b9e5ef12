/- The reference's Add. -/
import Derived.Test.YtfdoofkofljgnaaRtRAddS
import Derived.Test.YtfdoofkofljgnaaRtRAddF
import Derived.Test.YtfdoofkofljgnaaRtRAddN
import Derived.Test.YtfdoofkofljgnaaRtPut
import Derived.Test.YtfdoofkofljgnaaRtFind
namespace Go.Proofs.Ytfdoofkofljgnaa
set_option linter.unusedVariables false
set_option linter.unusedSimpArgs false
open Go.ChangeShapes Go.WideShapes Go.ChangeAt Go.RowKit Go.Shelf

theorem RAdd_any (w : World) (v : Value) (l : List Rt) (hv : Rts w v l) (hlen : l.length ≤ 100000) (x : Rt) (hx : x.Ok) :
    Calls Try.prog 21 #[v, rtV x] w fun e w' => ∃ v', e = .returned (.tuple #[v', .int .i64 (raddE l x)]) ∧ Rts w' v' (raddL l x) ∧ NewOr w v v' ∧ Grow w w' := by
  obtain ⟨xn, xb, xv, xi, xc⟩ := x
  have hxn : 0 ≤ xn ∧ xn ≤ 4294967295 := ⟨hx.n0, hx.n1⟩
  unfold rtV
  cases hgd : (⟨xn, xb, xv, xi, xc⟩ : Rt).good with
  | false =>
    have e1 : raddE l ⟨xn, xb, xv, xi, xc⟩ = 1 := by unfold raddE; rw [if_neg (by rw [hgd]; simp)]
    have e2 : raddL l ⟨xn, xb, xv, xi, xc⟩ = l := by unfold raddL; rw [if_neg (by rw [hgd]; simp)]
    rw [e1, e2]
    have fin : (Calls Try.prog 21 #[v, .agg #[.int .u32 xn, .int .i64 xb, .int .u32 xv, .int .i64 xi, .int .i64 xc]] w fun e w' => e = .returned (.tuple #[v, .int .i64 1]) ∧ Grow w w') →
        Calls Try.prog 21 #[v, .agg #[.int .u32 xn, .int .i64 xb, .int .u32 xv, .int .i64 xi, .int .i64 xc]] w fun e w' => ∃ v', e = .returned (.tuple #[v', .int .i64 1]) ∧ Rts w' v' l ∧ NewOr w v v' ∧ Grow w w' := fun h => h.mono fun _ _ ⟨he, hg⟩ => ⟨v, he, hv.grow hg, .inl rfl, hg⟩
    have hb := Rt.good_not.1 hgd
    by_cases h1 : xb < 0
    · exact fin (RAdd_b0 w v xn xb xv xi xc hxn h1)
    by_cases h2 : 32 < xb
    · exact fin (RAdd_b1 w v xn xb xv xi xc hxn h1 h2)
    by_cases h3 : netOf xn xb = xn
    rotate_left
    · exact fin (RAdd_n w v xn xb xv xi xc hxn h1 h2 h3)
    by_cases h4 : xi < 0
    · exact fin (RAdd_i0 w v xn xb xv xi xc hxn h1 h2 h3 h4)
    by_cases h5 : 15 < xi
    · exact fin (RAdd_i1 w v xn xb xv xi xc hxn h1 h2 h3 h4 h5)
    by_cases h6 : xc < 0
    · exact fin (RAdd_c0 w v xn xb xv xi xc hxn h1 h2 h3 h4 h5 h6)
    by_cases h7 : 65535 < xc
    · exact fin (RAdd_c1 w v xn xb xv xi xc hxn h1 h2 h3 h4 h5 h6 h7)
    exact absurd ⟨show 0 ≤ xb by omega, show xb ≤ 32 by omega, h3, show 0 ≤ xi by omega, show xi ≤ 15 by omega, show 0 ≤ xc by omega, show xc ≤ 65535 by omega⟩ hb
  | true =>
    by_cases hp : placeOf l xn xb xc < l.length
    · have e1 : raddE l ⟨xn, xb, xv, xi, xc⟩ = 0 := by unfold raddE; rw [if_pos hgd, if_pos hp]
      have e2 : raddL l ⟨xn, xb, xv, xi, xc⟩ = l.set (placeOf l xn xb xc) ⟨xn, xb, xv, xi, xc⟩ := by unfold raddL; rw [if_pos hgd, if_pos hp]
      rw [e1, e2]
      exact RAdd_set w v l hv hlen xn xb xv xi xc hxn hgd hp
    · by_cases h64 : 64 ≤ l.length
      · have e1 : raddE l ⟨xn, xb, xv, xi, xc⟩ = 5 := by unfold raddE; rw [if_pos hgd, if_neg hp, if_pos h64]
        have e2 : raddL l ⟨xn, xb, xv, xi, xc⟩ = l := by unfold raddL; rw [if_pos hgd, if_neg hp, if_pos h64]
        rw [e1, e2]
        exact RAdd_full w v l hv hlen xn xb xv xi xc hxn hgd hp h64
      · have e1 : raddE l ⟨xn, xb, xv, xi, xc⟩ = 0 := by unfold raddE; rw [if_pos hgd, if_neg hp, if_neg h64]
        have e2 : raddL l ⟨xn, xb, xv, xi, xc⟩ = l ++ [⟨xn, xb, xv, xi, xc⟩] := by unfold raddL; rw [if_pos hgd, if_neg hp, if_neg h64]
        rw [e1, e2]
        exact RAdd_new w v l hv hlen xn xb xv xi xc hxn hgd hp h64
end Go.Proofs.Ytfdoofkofljgnaa
