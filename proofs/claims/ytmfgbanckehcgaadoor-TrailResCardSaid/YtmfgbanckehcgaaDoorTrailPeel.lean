/- Contracts: peel, Path, Inner. -/
import Derived.Test.YtmfgbanckehcgaaDoorTrailMade
namespace Go.Proofs.YtmfgbanckehcgaaDoor
set_option linter.unusedVariables false
set_option linter.unusedSimpArgs false
open Go.ChangeShapes Go.WideShapes Go.ChangeAt Go.RowKit

/-- A row of the call's own that holds these places. -/
def OwnP (w : World) (v : Value) (l : PL) : Prop := ∃ base, w.ownsRow base 45 2 v l.length (flat l)
theorem OwnP.plc {w : World} {v : Value} {l : PL} (h : OwnP w v l) : Plc w v l := by obtain ⟨b, h⟩ := h; exact Plc.of_own h
theorem OwnP.alloc {w : World} {v : Value} {l : PL} (h : OwnP w v l) (o : Obj) : OwnP (w.alloc o) v l := by obtain ⟨b, h⟩ := h; exact ⟨b, h.alloc o⟩
theorem OwnP.nil (w : World) : OwnP w (.slice none 0 0) [] := ⟨0, World.ownsRow_nil _ _ _ _⟩

theorem infoPlace : (Tryd.prog.info? 45).map (fun i => (i.zero, i.size, i.bytes)) = some (some (.agg #[.string ByteArray.empty, .int .i64 0]), 2, 24) := by kernel_rfl

theorem isSlip (v : Value) (w : World) : (Instr.typeAssert (.iface 63 v) 26 63 true).run Tryd.prog w = .ok (.tuple #[v, .bool true]) w := by kernel_rfl
theorem noSlip (v : Value) (w : World) : (Instr.typeAssert (.iface 30 v) 26 63 true).run Tryd.prog w = .ok (.tuple #[.agg #[.string ByteArray.empty, .int .i64 0, .nilIface], .bool false]) w := by kernel_rfl
theorem nilSlip (w : World) : (Instr.typeAssert .nilIface 26 63 true).run Tryd.prog w = .ok (.tuple #[.agg #[.string ByteArray.empty, .int .i64 0, .nilIface], .bool false]) w := by kernel_rfl

set_option maxHeartbeats 1600000 in
theorem peel_chain (l : PL) (n : Int) (hm : l.length ≤ 9223372036854775807) (w : World) :
    Calls Tryd.prog 22 #[chainV l n] w fun e w' => ∃ v, e = .returned (.tuple #[v, chainV (l.drop 64) n]) ∧ OwnP w' v (l.take 64) ∧ Grow w w' := by
  obtain ⟨i0, hi, hz0, hz1, hz2⟩ := info_parts infoPlace
  have tS := isSlip
  have tE := noSlip
  go_enter Tryd.func22, Tryd.ntmps22
  go_wp2_with fail
  go_loopg [0, 2] (l.length + 1) (fun g s0 s2 wr => ∃ (k : Nat) (ao : Option Addr) (cap : Nat), k ≤ l.length ∧ k ≤ 64 ∧ g = l.length + 1 - k ∧ s0 = chainV (l.drop k) n ∧ s2 = .slice ao k cap ∧ wr.ownsRow w.heap.size 45 2 s2 k (flat (l.take k)) ∧ Grow w wr)
  case atStart => exact ⟨0, none, 0, Nat.zero_le _, Nat.zero_le _, rfl, rfl, rfl, World.ownsRow_nil _ _ _ _, Grow.refl _⟩
  case round =>
    obtain ⟨k, ao, cap, hk, hk64, rfl, hs0, rfl, hown, hgr⟩ := hrel
    rcases Nat.lt_or_ge k 64 with h64 | h64
    · have h64' : decide ((k : Int) < 64) = true := decide_eq_true (by omega)
      rcases hr : l.drop k with _ | ⟨p, r⟩
      · have hkl : l.length = k := by have := congrArg List.length hr; simp at this; omega
        rw [hr, show chainV [] n = .iface 30 (.int .i64 n) from rfl] at hs0
        subst hs0
        have eD : chainV (l.drop 64) n = .iface 30 (.int .i64 n) := by rw [List.drop_eq_nil_of_le (by omega)]; rfl
        have eP : OwnP wr (.slice ao k cap) (l.take 64) := by
          rw [List.take_of_length_le (by omega)]
          rw [List.take_of_length_le (by omega)] at hown
          exact ⟨_, by rw [hkl]; exact hown⟩
        have A1 : Aside (chainV (l.drop 64) n = .iface 30 (.int .i64 n) ∧ OwnP wr (.slice ao k cap) (l.take 64) ∧ Grow w wr) := ⟨eD, eP, hgr⟩
        clear hown hgr hr eD eP
        go_wp2_with fail
        go_ret2
        exact ⟨.slice ao k cap, by rw [A1.out.1]; rfl, A1.out.2.1.alloc _, A1.out.2.2.trans (Grow.alloc _ _)⟩
      · have hkl : k < l.length := by have := congrArg List.length hr; simp at this; omega
        obtain ⟨t', v', hv'⟩ := chainV_iface r n
        rw [hr, show chainV (p :: r) n = slipV p (chainV r n) from rfl, hv'] at hs0
        unfold slipV at hs0
        subst hs0
        have hl1 : l.drop (k + 1) = r := by rw [← List.drop_drop, hr]; rfl
        have hl2 : l.take (k + 1) = l.take k ++ [p] := by
          have h1 := List.drop_eq_getElem_cons hkl
          rw [hr] at h1
          rw [List.take_succ_eq_append_getElem hkl, (List.cons.inj h1).1]
        have A1 : Aside (Grow w wr ∧ l.drop (k + 1) = r ∧ l.take (k + 1) = l.take k ++ [p] ∧ chainV r n = .iface t' v') := ⟨hgr, hl1, hl2, hv'⟩
        have hsz := hgr.size
        clear hgr hl1 hl2 hv' hr
        have hbx : w.heap.size ≤ ((wr.alloc (.cells #[.string p.1, .int .i64 p.2, .iface t' v'] 63)).alloc (.cells #[.string p.1, .int .i64 p.2] 45)).heap.size := by simp; omega
        have hown2 : ((wr.alloc (.cells #[.string p.1, .int .i64 p.2, .iface t' v'] 63)).alloc (.cells #[.string p.1, .int .i64 p.2] 45)).ownsRow w.heap.size 45 2 (.slice ao k cap) k (flat (l.take k)) := (hown.alloc _).alloc _
        have hrow : ∀ g, (Value.slice ao k cap).ownBlock = some g → w.heap.size ≤ g ∧ g < wr.heap.size := hown.lt
        clear hown
        have A2 : Aside (∀ g, (Value.slice ao k cap).ownBlock = some g → w.heap.size ≤ g ∧ g < wr.heap.size) := hrow
        clear hrow
        go_wp2_with (at_builtin; refine wpList_append_own _ rfl _ _ 22 rfl w.heap.size 45 i0 (.agg #[.string ByteArray.empty, .int .i64 0]) 2 24 Tryd.underlying22 hi hz0 hz1 hz2 rfl (by decide) _ _ _ rfl hown2 ⟨wr.heap.size + 1, 0, none⟩ 1 1 [.string p.1, .int .i64 p.2] rfl rfl ?c1 ?c2 ?c3 ?c4 ?c5 ?_)
        case c1 =>
          intro j u hj
          match j, hj with
          | 0, hj => simp at hj; subst hj; first | rfl | (simp; done) | (simp [Addr.add]; done)
          | 1, hj => simp at hj; subst hj; first | rfl | (simp; done) | (simp [Addr.add]; done)
        case c2 => intro u hu; simp at hu; rcases hu with rfl | rfl <;> rfl
        case c3 => unfold maxLen; omega
        case c4 => omega
        case c5 => exact hbx
        intro v1 w1 hown1 hgrow1 _
        have hne : (Value.slice ao k cap).ownBlock ≠ some wr.heap.size := fun h => by have := A2.out _ h; omega
        have c2 : w1.cell? ⟨wr.heap.size, 2, none⟩ = some (.iface t' v') := by
          exact hgrow1.cell (a := ⟨wr.heap.size, 2, none⟩) (by simp) (fun e => hne e.symm)
        have hg1 : Grow w w1 := ((Below.alloc (A1.out.1 : Below w.heap.size w wr) hsz _).alloc (by simp; omega) _).grown hgrow1 hbx (fun g hg => (A2.out g hg).1)
        clear hgrow1 hne
        go_wp2_with fail
        obtain ⟨ao1, cap1, rfl⟩ : ∃ ao cap, v1 = .slice ao (k + 1) cap := by
          rcases hown1.2 with ⟨hv, h0⟩ | ⟨g, cap, cur, hv, _⟩
          · exact absurd h0 (by omega)
          · exact ⟨_, _, hv⟩
        go_roundg (l.length + 1 - (k + 1))
        case measure => omega
        case rel =>
          refine ⟨k + 1, ao1, cap1, by omega, by omega, rfl, ?_, rfl, ?_, hg1⟩
          · rw [A1.out.2.1, A1.out.2.2.2]
          · rw [A1.out.2.2.1, flat_append]
            exact hown1
    · have hkk : k = 64 := by omega
      subst hkk
      have hP : OwnP wr (.slice ao 64 cap) (l.take 64) := ⟨_, by rw [List.length_take, Nat.min_eq_left hk]; exact hown⟩
      obtain ⟨t', v', hv'⟩ := chainV_iface (l.drop 64) n
      rw [hv'] at hs0
      subst hs0
      have A1 : Aside (chainV (l.drop 64) n = .iface t' v' ∧ OwnP wr (.slice ao 64 cap) (l.take 64) ∧ Grow w wr) := ⟨hv', hP, hgr⟩
      clear hown hgr hP hv'
      go_wp2_with fail
      go_ret2
      exact ⟨.slice ao 64 cap, by rw [A1.out.1]; rfl, A1.out.2.1, A1.out.2.2⟩

theorem peel_nil (w : World) :
    Calls Tryd.prog 22 #[.nilIface] w fun e w' => ∃ v, e = .returned (.tuple #[v, .nilIface]) ∧ OwnP w' v [] ∧ Grow w w' := by
  have tN := nilSlip
  go_enter Tryd.func22, Tryd.ntmps22
  go_wp2_with fail
  refine wp_loop_rounds 1 ?_
  rw [rounds_succ]
  go_wp2_with fail
  go_ret2
  exact ⟨.slice none 0 0, rfl, (OwnP.nil w).alloc _, Grow.alloc w _⟩

/-- The places that are told. -/
def told (l : PL) (n : Int) : PL := if n = 0 then [] else l.take 64
theorem told_zero (l : PL) : told l 0 = [] := rfl
theorem told_not (l : PL) {n : Int} (h : n ≠ 0) : told l n = l.take 64 := if_neg h
theorem peel_made (l : PL) (n : Int) (hm : l.length ≤ 9223372036854775807) (w : World) :
    Calls Tryd.prog 22 #[madeV l n] w fun e w' => ∃ v, e = .returned (.tuple #[v, madeV (l.drop 64) n]) ∧ OwnP w' v (told l n) ∧ Grow w w' := by
  by_cases h : n = 0
  · subst h
    exact peel_nil w
  · rw [madeV_chain h, madeV_chain h, told_not l h]
    exact peel_chain l n hm w

theorem Path_made (l : PL) (n : Int) (hm : l.length ≤ 9223372036854775807) (w : World) :
    Calls Tryd.prog 10 #[madeV l n] w fun e w' => ∃ v, e = .returned v ∧ OwnP w' v (told l n) ∧ Grow w w' := by
  have A : Hid (∀ w, Calls Tryd.prog 22 #[madeV l n] w fun e w' => ∃ v, e = .returned (.tuple #[v, madeV (l.drop 64) n]) ∧ OwnP w' v (told l n) ∧ Grow w w') := peel_made l n hm
  generalize madeV (l.drop 64) n = Y at A
  generalize madeV l n = X at A ⊢
  generalize told l n = T at A ⊢
  go_enter Tryd.func10, Tryd.ntmps10
  go_wp2_with (go_at_call 22; refine (A.out _).mono ?_; rintro e w' ⟨v, rfl, hP, hg⟩)
  go_ret
  exact ⟨v, rfl, hP, hg⟩
theorem Inner_made (l : PL) (n : Int) (hm : l.length ≤ 9223372036854775807) (w : World) :
    Calls Tryd.prog 17 #[madeV l n] w fun e w' => e = .returned (madeV (l.drop 64) n) ∧ Grow w w' := by
  have A : Hid (∀ w, Calls Tryd.prog 22 #[madeV l n] w fun e w' => ∃ v, e = .returned (.tuple #[v, madeV (l.drop 64) n]) ∧ OwnP w' v (told l n) ∧ Grow w w') := peel_made l n hm
  generalize madeV (l.drop 64) n = Y at A ⊢
  generalize madeV l n = X at A ⊢
  generalize told l n = T at A
  go_enter Tryd.func17, Tryd.ntmps17
  go_wp2_with (go_at_call 22; refine (A.out _).mono ?_; rintro e w' ⟨v, rfl, hP, hg⟩)
  go_ret
  exact ⟨rfl, hg⟩
end Go.Proofs.YtmfgbanckehcgaaDoor
