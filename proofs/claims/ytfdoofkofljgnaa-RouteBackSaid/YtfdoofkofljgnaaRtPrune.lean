/- Contract: prune. -/
import Derived.Test.YtfdoofkofljgnaaRtSearch2
import Derived.Test.YtfdoofkofljgnaaTrieUpd
namespace Go.Proofs.Ytfdoofkofljgnaa
set_option linter.unusedVariables false
set_option linter.unusedSimpArgs false
open Go.ChangeShapes Go.WideShapes Go.ChangeAt Go.RowKit Go.Shelf

/-- M' is M with some nodes less, which had no routes. -/
structure Shrunk (M M' : Net) : Prop where
  sub : ∀ k x d, M' k x = some d → M k x = some d
  gone : ∀ k x d, M k x = some d → M' k x = some d ∨ d.ws = []
theorem Shrunk.refl (M : Net) : Shrunk M M := ⟨fun _ _ _ h => h, fun _ _ _ h => .inl h⟩
theorem Shrunk.less {M M' : Net} (h : Shrunk M M') {k : Nat} {x : Int} {d : Nd} (hd : M' k x = some d) (hw : d.ws = []) : Shrunk M (upd M' k x none) := by
  refine ⟨fun k2 x2 d2 hd2 => ?_, fun k2 x2 d2 hd2 => ?_⟩
  · by_cases hk : k2 = k ∧ x2 = x
    · obtain ⟨rfl, rfl⟩ := hk
      rw [upd_same] at hd2; cases hd2
    · rw [upd_other _ _ _ _ hk] at hd2
      exact h.sub _ _ _ hd2
  · by_cases hk : k2 = k ∧ x2 = x
    · obtain ⟨rfl, rfl⟩ := hk
      have := h.sub _ _ _ hd
      rw [hd2] at this
      cases this
      exact .inr hw
    · rw [upd_other _ _ _ _ hk]
      exact h.gone _ _ _ hd2

set_option maxRecDepth 10000 in
set_option maxHeartbeats 4000000 in
theorem prune_any (w : World) (base tb : Nat) (n : Int) (M : Net) (role : Nat → Role) (h : Trie w base tb n M role) (a : Int) (ha : 0 ≤ a ∧ a ≤ 4294967295) (kb : Nat) (d0 : Nd) (hd0 : M kb (netOf a kb) = some d0) (hlen : ∀ k x d, M k x = some d → d.ws.length ≤ 1000000) :
    Calls Try.prog 35 #[.pointer (some ⟨tb, 0, none⟩), .int .u32 a, .int .i64 (kb : Int)] w fun e w' => e = .returned (.tuple #[]) ∧ ∃ M', Trie w' base tb n M' role ∧ Moves role w role w' ∧ Shrunk M M' := by
  have cL := line_any w base tb n M role h a ha
  have HT := Lib.hid h
  have HL := Lib.hid hlen
  have HD := Lib.hid hd0
  have hkb : kb ≤ 32 := (h.node _ _ _ hd0).1
  clear h hlen hd0
  go_enter Try.func35, Try.ntmps35
  go_wp2_with fail
  refine cL.mono ?_
  rintro e w1 ⟨v, m, rfl, hm1, hm33, hsome, hnone, hown, hg1⟩
  have hkm : kb < m := by
    rcases Nat.lt_or_ge kb m with h1 | h1
    · exact h1
    · have := hnone kb h1
      rw [HD.out] at this
      cases this
  obtain ⟨lb, cap, rfl, hlB, hlb, hl1, hl2, hlc⟩ := line_row hown hm1
  have hcapm : cap ≤ 9223372036854775807 := hl2
  have HC := Lib.hid hlc
  have HS := Lib.hid hsome
  have HG := Lib.hid hg1
  have hlfree : role lb = .none := HT.out.free (.inr hlB)
  have HF := Lib.hid hlfree
  clear hlc hsome hnone hown hg1 hl2 cL hlfree
  go_wp2_with fail
  go_loopg [2] kb (fun g s2 wr => ∃ (j : Nat) (M' : Net), j ≤ kb ∧ g = j ∧ s2 = .int .i64 (j : Int) ∧ Trie wr base tb n M' role ∧ Moves role w1 role wr ∧ Shrunk M M' ∧ ∀ i, i ≤ j → M' i (netOf a (i : Int)) = M i (netOf a (i : Int)))
  case atStart => exact ⟨kb, M, Nat.le_refl _, rfl, rfl, HT.out.grow HG.out, Moves.refl _ _, Shrunk.refl _, fun _ _ => rfl⟩
  case round =>
    obtain ⟨j, M', hj, rfl, rfl, hT, hMv, hSh, hag⟩ := hrel
    rcases gk with _ | i
    · have A1 := Lib.hid (And.intro hT (And.intro ((Moves.grow HG.out).trans hMv) hSh))
      clear hT hMv hSh hag
      go_wp2_with fail
      go_end0
      exact ⟨rfl, M', A1.out⟩
    · obtain ⟨d1, hd1⟩ := HS.out (i + 1) (by omega)
      obtain ⟨d, hd⟩ := HS.out i (by omega)
      have hd1' := (hag (i + 1) (Nat.le_refl _)).trans hd1
      have hd' := (hag i (by omega)).trans hd
      have hn1 := (hT.node _ _ _ hd1').2.2
      have hn := (hT.node _ _ _ hd').2.2
      have hcl1 : wr.cell? ⟨lb, i + 1, none⟩ = some (.pointer (some ⟨d1.blk, 0, none⟩)) := by
        rw [hMv.1.cell (p := ⟨lb, i + 1, none⟩) hlb HF.out, HC.out (i + 1) (by omega), hd1]
        rfl
      have hcl0 : wr.cell? ⟨lb, i, none⟩ = some (.pointer (some ⟨d.blk, 0, none⟩)) := by
        rw [hMv.1.cell (p := ⟨lb, i, none⟩) hlb HF.out, HC.out i (by omega), hd]
        rfl
      have hem := empty_any wr base role M' (i + 1) _ d1 hn1 (HL.out _ _ _ hd1)
      have hbit := fun w => bit_any a i ha (by omega) w
      have hch := hT.child hd'
      have hx1 : (i : Int) + 1 < (m : Int) := by omega
      have hx2 : (i : Int) < (m : Int) := by omega
      have hx3 : ((i + 1 : Nat) : Int) - 1 = (i : Int) := by omega
      have hdlt : decide ((0 : Int) < ((i + 1 : Nat) : Int)) = true := decide_eq_true (by omega)
      cases hE : (d1.ws.isEmpty && (M' (i + 1 + 1) (netOf a ((i + 1 : Nat) : Int))).isNone && (M' (i + 1 + 1) (netOf a ((i + 1 : Nat) : Int) + sz (((i + 1 : Nat) : Int) + 1))).isNone) with
      | false =>
        rw [hE] at hem
        have A1 := Lib.hid (And.intro hT (And.intro ((Moves.grow HG.out).trans hMv) hSh))
        clear hT hMv hSh hag hE hd hd' hd1 hd1' hn hn1 hch
        go_wp2_with (go_at_call 44; refine hem.mono ?_; rintro e w' ⟨rfl, rfl⟩)
        go_end0
        exact ⟨rfl, M', A1.out⟩
      | true =>
        rw [hE] at hem
        simp only [Bool.and_eq_true, List.isEmpty_iff, Option.isNone_iff_eq_none] at hE
        obtain ⟨⟨hE1, hE2⟩, hE3⟩ := hE
        have hless := (hT.grow (Grow.drew wr)).less ha hd' hd1' hE2 hE3
        have hmv : Moves role wr role (wr.drew.setCell ⟨d.blk, (bitOf a i).toNat, none⟩ (.pointer none)) :=
          ⟨((Grow.drew wr).stays _).trans (Stays.set _ _ _ (by simp [hn.blk])), fun b _ hr => hr⟩
        have hag2 : ∀ i2, i2 ≤ i → upd M' (i + 1) (netOf a ((i + 1 : Nat) : Int)) none i2 (netOf a (i2 : Int)) = M i2 (netOf a (i2 : Int)) := fun i2 hi2 => by
          rw [upd_other _ _ _ _ (by omega)]; exact hag i2 (by omega)
        have A1 := Lib.hid (And.intro hless (And.intro (hMv.trans hmv) (And.intro (hSh.less hd1' hE1) hag2)))
        have hfz := hn.fz
        rw [hd1', show ptrOf (some d1) = .pointer (some ⟨d1.blk, 0, none⟩) from rfl] at hch
        clear hT hMv hSh hag hd hd' hd1 hd1' hn hn1 hless hmv hag2 hE1 hE2 hE3
        rcases bitOf_two a i with hb | hb
        all_goals
          rw [hb] at hbit hch A1
          simp only [Int.toNat_zero, Int.toNat_one] at hch A1
          go_wp2_with (go_at_call 44; refine hem.mono ?_; rintro e w' ⟨rfl, rfl⟩)
          go_region_with (go_at_call 39; refine (hbit _).mono ?_; rintro e w' ⟨rfl, rfl⟩)
          all_goals
            go_wp2_with fail
            go_roundg i
            case measure => omega
            case rel => exact ⟨i, _, by omega, rfl, by go_num, A1.out⟩
end Go.Proofs.Ytfdoofkofljgnaa
