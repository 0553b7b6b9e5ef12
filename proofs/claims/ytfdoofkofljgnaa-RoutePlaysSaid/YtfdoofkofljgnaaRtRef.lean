/- The reference's place, Remove, put. -/
import Derived.Test.YtfdoofkofljgnaaRtGrow
namespace Go.Proofs.Ytfdoofkofljgnaa
set_option linter.unusedVariables false
set_option linter.unusedSimpArgs false
open Go.ChangeShapes Go.WideShapes Go.ChangeAt Go.RowKit Go.Shelf

/-- A slice's block is the old one's, or a new one. -/
def NewOr (w : World) (v v' : Value) : Prop := v' = v ∨ ∀ b, v'.ownBlock = some b → w.heap.size ≤ b

def placeI (l : List Rt) (n b c : Int) : Int := if placeOf l n b c < l.length then (placeOf l n b c : Int) else -1
theorem placeI_yes {l : List Rt} {n b c : Int} {k : Nat} (hk : k < l.length) (h : l[k].at n b c = true) (hb : ∀ j (hj : j < l.length), j < k → l[j].at n b c = false) : placeI l n b c = (k : Int) := by
  have e : placeOf l n b c = k := by
    rcases Nat.lt_trichotomy (placeOf l n b c) k with h1 | h1 | h1
    · have hlt : placeOf l n b c < l.length := by omega
      have := hb _ hlt h1
      have h2 := placeOf_at hlt
      rw [Rt.at_iff.2 h2] at this
      cases this
    · exact h1
    · have := List.not_of_lt_findIdx (p := fun r : Rt => r.at n b c) (xs := l) (i := k) h1
      simp [h] at this
  unfold placeI
  rw [e, if_pos hk]
theorem placeI_no {l : List Rt} {n b c : Int} (hb : ∀ j (hj : j < l.length), l[j].at n b c = false) : placeI l n b c = -1 := by
  unfold placeI
  rw [if_neg]
  intro h
  have := hb _ h
  rw [Rt.at_iff.2 (placeOf_at h)] at this
  cases this
theorem at_false {x : Rt} {n b c : Int} (h : ¬ (x.net = n ∧ x.bits = b ∧ x.cost = c)) : x.at n b c = false := by
  rw [Bool.eq_false_iff]; exact fun h2 => h (Rt.at_iff.1 h2)

set_option maxRecDepth 10000 in
set_option maxHeartbeats 2000000 in
theorem place_any (w : World) (v : Value) (l : List Rt) (hv : Rts w v l) (n b c : Int) :
    Calls Try.prog 36 #[v, .int .u32 n, .int .i64 b, .int .i64 c] w fun e w' => e = .returned (.int .i64 (placeI l n b c)) ∧ w = w' := by
  obtain ⟨A, cp, rfl, hlc, hcm⟩ := hv.form
  have hcm2 : l.length ≤ 9223372036854775807 := Nat.le_trans hlc hcm
  have HV := Lib.hid hv
  clear hv
  go_enter Try.func36, Try.ntmps36
  go_wp2_with fail
  go_loopg [9] l.length (fun g s9 wr => w = wr ∧ ∃ k : Nat, k ≤ l.length ∧ g = l.length - k ∧ s9 = .int .i64 (k : Int) ∧ ∀ j (hj : j < l.length), j < k → l[j].at n b c = false)
  case atStart => exact ⟨rfl, 0, Nat.zero_le _, rfl, rfl, fun j hj h => by omega⟩
  case round =>
    obtain ⟨rfl, k, hk, rfl, rfl, hno⟩ := hrel
    rcases Nat.lt_or_ge k l.length with hlt | hge
    · obtain ⟨bl, off, rfl, hb, hcell⟩ := HV.out.at_ (by omega)
      obtain ⟨x0, x1, x2, x3, x4⟩ := hcell k hlt
      have hnx : ∀ h : l[k].at n b c = false, ∀ j (hj : j < l.length), j < k + 1 → l[j].at n b c = false := fun h j hj hjk => by
        rcases Nat.lt_or_ge j k with h1 | h1
        · exact hno j hj h1
        · obtain rfl : j = k := by omega
          exact h
      have hys := fun h : l[k].at n b c = true => placeI_yes hlt h hno
      have hltI : (k : Int) < (l.length : Int) := by omega
      have HN := Lib.hid (And.intro hnx hys)
      clear hnx hys hcell hb hno
      by_cases h1 : l[k].net = n
      · by_cases h2 : l[k].bits = b
        · by_cases h3 : l[k].cost = c
          · have hp := HN.out.2 (Rt.at_iff.2 ⟨h1, h2, h3⟩)
            have HP := Lib.hid hp
            clear hp
            rw [h1] at x0
            rw [h2] at x1
            rw [h3] at x4
            clear h1 h2 h3 x2 x3
            go_wp2_with fail
            go_ret
            exact ⟨by rw [HP.out]; rfl, rfl⟩
          · have hp := HN.out.1 (at_false fun h => h3 h.2.2)
            have HP := Lib.hid hp
            have d3 : (l[k].cost == c) = false := by simpa using h3
            clear hp
            rw [h1] at x0
            rw [h2] at x1
            generalize l[k].cost = cc at *
            clear h1 h2 h3 x2 x3
            go_wp2_with fail
            go_roundg (l.length - (k + 1))
            case measure => omega
            case rel => exact ⟨rfl, k + 1, by omega, rfl, by go_num, HP.out⟩
        · have hp := HN.out.1 (at_false fun h => h2 h.2.1)
          have HP := Lib.hid hp
          have d2 : (l[k].bits == b) = false := by simpa using h2
          clear hp
          rw [h1] at x0
          generalize l[k].bits = bb at *
          clear h1 h2 x2 x3 x4
          go_wp2_with fail
          go_roundg (l.length - (k + 1))
          case measure => omega
          case rel => exact ⟨rfl, k + 1, by omega, rfl, by go_num, HP.out⟩
      · have hp := HN.out.1 (at_false fun h => h1 h.1)
        have HP := Lib.hid hp
        have d1 : (l[k].net == n) = false := by simpa using h1
        clear hp
        generalize l[k].net = nn at *
        clear h1 x1 x2 x3 x4
        go_wp2_with fail
        go_roundg (l.length - (k + 1))
        case measure => omega
        case rel => exact ⟨rfl, k + 1, by omega, rfl, by go_num, HP.out⟩
    · have hkk : k = l.length := by omega
      subst hkk
      have hp := placeI_no fun j hj => hno j hj hj
      have HP := Lib.hid hp
      clear hp hno
      go_wp2_with fail
      go_ret
      exact ⟨by rw [HP.out]; rfl, rfl⟩

theorem Grow.row {e : TypeId} {w W w1 : World} {v : Value} {l : List Rt} (h : Grow w W) (hg : W.grownBy w1 v.ownBlock) (ho : Orow e W w.heap.size v l) : Grow w w1 := Below.grown h hg h.size fun k hk => (ho.lt k hk).1
/-- A slice cut from k on, whatever its capacity. -/
theorem Rts.tail {w : World} {b off n c k : Nat} {l : List Rt} (h : Rts w (.slice (some ⟨b, off, none⟩) n c) l) (hk : k ≤ n) : ∃ B : Addr, (if c = k then some (⟨b, off, none⟩ : Addr) else some ⟨b, off + k * 5, none⟩) = some B ∧ Hid (∀ w1, Grow w w1 → Rts w1 (.slice (some B) (n - k) (c - k)) (l.drop k)) := by
  by_cases hc : c = k
  · exact ⟨⟨b, off, none⟩, by simp [hc], fun w1 hg => (h.back0 hk hc).grow hg⟩
  · refine ⟨⟨b, off + k * 5, none⟩, by simp [hc], fun w1 hg => ?_⟩
    have := (h.back hk hc).grow hg
    simpa [add_at] using this

set_option maxRecDepth 10000 in
set_option maxHeartbeats 2000000 in
theorem RRemove_any (w : World) (v : Value) (l : List Rt) (hv : Rts w v l) (hlen : l.length ≤ 1000000) (n b c : Int) :
    Calls Try.prog 20 #[v, .int .u32 n, .int .i64 b, .int .i64 c] w fun e w' => ∃ v', e = .returned (.tuple #[v', .int .i64 (rremE l n b c)]) ∧ Rts w' v' (rremL l n b c) ∧ NewOr w v v' ∧ Grow w w' := by
  have cP := place_any w v l hv n b c
  by_cases hp : placeOf l n b c < l.length
  · have e1 : placeI l n b c = (placeOf l n b c : Int) := by unfold placeI; rw [if_pos hp]
    have e2 : rremE l n b c = 0 := by unfold rremE; rw [if_pos hp]
    have e3 : rremL l n b c = l.take (placeOf l n b c) ++ l.drop (placeOf l n b c + 1) := by unfold rremL; rw [if_pos hp, List.eraseIdx_eq_take_drop_succ]
    rw [e1] at cP
    rw [e2, e3]
    clear e1 e2 e3
    generalize placeOf l n b c = i at *
    obtain ⟨A, cp, hv', hlc, hcm⟩ := hv.form
    subst hv'
    obtain ⟨bl, off, rfl, hb, hraw⟩ := hv.raw (by omega)
    have hT := hv.tail (k := i + 1) (by omega)
    obtain ⟨B, hB, hTl⟩ := hT
    have hFr : Hid (∀ w1, Grow w w1 → Rts w1 (.slice (some ⟨bl, off, none⟩) i cp) (l.take i)) := fun w1 hg => (hv.front (by omega)).grow hg
    have htl : (l.take i).length = i := by rw [List.length_take]; omega
    have hdl : (l.drop (i + 1)).length = l.length - (i + 1) := List.length_drop
    have HL := Lib.hid (And.intro htl hdl)
    clear htl hdl hraw hv hb
    generalize hN : l.length = N at *
    have HN := Lib.hid hN
    clear hN
    have hcm2 : cp ≤ 9223372036854775807 := hcm
    have q0 : (i : Int) < 1000000 := by omega
    have q1 : (0 : Int) ≤ (i : Int) + 1 := by omega
    have q2 : (i : Int) + 1 ≤ (N : Int) := by omega
    have q3 : ((i : Int) + 1).toNat = i + 1 := by omega
    have q4 : (i : Int) ≤ (cp : Int) := by omega
    have q6 : IntKind.i64.wrap ((i : Int) + 1) = (i : Int) + 1 := IntWalk.i64_in _ (by omega)
    have q5 : decide ((i : Int) < 0) = false := decide_eq_false (by omega)
    go_enter Try.func20, Try.ntmps20
    go_wp2_with (go_at_call 36; refine cP.mono ?_; rintro e w' ⟨rfl, rfl⟩)
    go_region_law (first
      | (refine step_app5 _ rfl (.tmp 19) (.tmp 22) 26 32 rfl Try.underlying26 infoRoute w.heap.size _ _ [] (l.take i) rfl rfl (Orow.lit0 32 w.drew) (hFr.out _ ((Grow.drew _).trans (Grow.alloc _ _))) (by simp [HL.out.1]; omega) (by simp) ?_; intro v1 w1 ho1 hg1 hat1; rw [List.nil_append] at ho1; have hgw : Grow w w1 := Grow.row ((Grow.drew w).trans (Grow.alloc _ _)) hg1 (Orow.lit0 32 w.drew); clear hg1 hat1)
      | (refine step_app5 _ rfl (.tmp 23) (.tmp 27) 26 32 rfl Try.underlying26 infoRoute w.heap.size _ _ (l.take i) (l.drop (i + 1)) rfl rfl ho1 (hTl.out _ hgw) (by rw [HL.out.1, HL.out.2]; omega) hgw.size ?_; intro v2 w2 ho2 hg2 hat2))
    all_goals
      have hG2 : Grow w w2 := Grow.row hgw hg2 ho1
      have HZ := Lib.hid (And.intro ho2 hG2)
      clear ho2 hG2 ho1 hgw hg2 hat2
      go_wp2_with fail
      go_ret2
      exact ⟨v2, rfl, HZ.out.1.rts, .inr fun b hb => (HZ.out.1.lt b hb).1, HZ.out.2⟩
  · have e1 : placeI l n b c = -1 := by unfold placeI; rw [if_neg hp]
    have e2 : rremE l n b c = 6 := by unfold rremE; rw [if_neg hp]
    have e3 : rremL l n b c = l := by unfold rremL; rw [if_neg hp]
    rw [e1] at cP
    rw [e2, e3]
    have HV := Lib.hid hv
    clear e1 e2 e3 hv hp
    go_enter Try.func20, Try.ntmps20
    go_wp2_with (go_at_call 36; refine cP.mono ?_; rintro e w' ⟨rfl, rfl⟩)
    go_ret2
    exact ⟨v, rfl, HV.out, .inl rfl, Grow.refl _⟩
end Go.Proofs.Ytfdoofkofljgnaa
