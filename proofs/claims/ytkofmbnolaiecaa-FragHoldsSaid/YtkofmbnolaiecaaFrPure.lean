/- What holds of the pieces, in numbers. -/
import Derived.Test.YtkofmbnolaiecaaFrSpl
namespace Go.Proofs.Ytkofmbnolaiecaa
set_option linter.unusedVariables false
set_option linter.unusedSimpArgs false

/-- The bytes of some pieces, one after another. -/
def fall (L : List Pkt) : List UInt8 := L.flatMap Pkt.data
theorem fall_cons (x : Pkt) (L : List Pkt) : fall (x :: L) = x.data ++ fall L := by simp [fall]
theorem fall_next (L : List Pkt) (i : Nat) (h : i < L.length) : fall (L.take (i + 1)) = fall (L.take i) ++ L[i].data := by
  unfold fall
  rw [List.take_succ_eq_append_getElem h, List.flatMap_append, List.flatMap_cons, List.flatMap_nil, List.append_nil]

structure PieceOk (m : Nat) (r : Pkt) (L : List Pkt) (i : Nat) (h : i < L.length) : Prop where
  len : L[i].len ≤ m
  off : L[i].off = r.off + ((fall (L.take i)).length / 8 : Nat)
  eight : (fall (L.take i)).length % 8 = 0
  mid : i + 1 < L.length → L[i].data.length % 8 = 0 ∧ L[i].more = true
  last : i + 1 = L.length → L[i].more = r.more
  opts : L[i].opts.length ≤ 40 ∧ L[i].opts.length % 4 = 0
  off0 : 0 ≤ L[i].off ∧ L[i].off ≤ 8191

theorem fpieces_spec (c : List UInt8) (m : Nat) (hm : 68 ≤ m) (hc : c.length ≤ 40 ∧ c.length % 4 = 0) : ∀ (f : Nat) (r : Pkt) (L : List Pkt), fpieces c m f r = some L → r.opts.length ≤ 40 ∧ r.opts.length % 4 = 0 → 0 ≤ r.off → r.data.length < f →
    0 < L.length ∧ fall L = r.data ∧ ∀ i (h : i < L.length), PieceOk m r L i h
  | 0, r, L, _, _, _, h => absurd h (by omega)
  | f + 1, r, L, hg, ho, h0, hf => by
    rw [fpieces] at hg
    by_cases h1 : 8191 < r.off
    · rw [if_pos h1] at hg; cases hg
    rw [if_neg h1] at hg
    by_cases h2 : r.len ≤ m
    · rw [if_pos h2] at hg
      cases hg
      refine ⟨by simp, by simp [fall], fun i h => ?_⟩
      obtain rfl : i = 0 := by simp at h; omega
      exact ⟨h2, by simp [fall], by simp [fall], fun h => by simp at h, fun _ => rfl, ho, ⟨h0, by show r.off ≤ _; omega⟩⟩
    rw [if_neg h2] at hg
    obtain ⟨r1, r2, r3, r4⟩ := froom_bounds hm ho.1 (show m < r.len by omega)
    cases hq : fpieces c m f (frest c m r) with
    | none => rw [hq] at hg; cases hg
    | some L' =>
      rw [hq] at hg
      simp only [Option.map_some, Option.some.injEq] at hg
      subst hg
      have hdl : (frest c m r).data.length = r.data.length - froom m r := by show (r.data.drop _).length = _; rw [List.length_drop]
      have hfl := ffirst_len (m := m) (k := r) (by omega)
      have hoff : (frest c m r).off = r.off + (froom m r / 8 : Nat) := rfl
      obtain ⟨p1, p2, p3⟩ := fpieces_spec c m hm hc f (frest c m r) L' hq hc (by rw [hoff]; omega) (by omega)
      refine ⟨by simp, ?_, fun i h => ?_⟩
      · rw [fall_cons, p2]
        show r.data.take _ ++ r.data.drop _ = _
        exact List.take_append_drop _ _
      · cases i with
        | zero =>
          refine ⟨?_, by simp [fall]; rfl, by simp [fall], fun _ => ⟨?_, rfl⟩, fun h => ?_, ho, ⟨h0, by show r.off ≤ _; omega⟩⟩
          · show Pkt.len (ffirst m r) ≤ m
            unfold Pkt.len
            rw [hfl]
            show 20 + r.opts.length + _ ≤ m
            unfold froom at *
            omega
          · show (ffirst m r).data.length % 8 = 0
            rw [hfl]; exact r3
          · simp at h; subst h; simp at p1
        | succ i =>
          have h' : i < L'.length := by simpa using h
          have q := p3 i h'
          have e1 : (fall ((ffirst m r :: L').take (i + 1))).length = froom m r + (fall (L'.take i)).length := by
            rw [List.take_succ_cons, fall_cons, List.length_append, hfl]
          have q8 := q.eight
          refine ⟨q.len, ?_, by rw [e1]; omega, fun hh => q.mid (by simpa using hh), fun hh => q.last (by simpa using hh), q.opts, q.off0⟩
          show L'[i].off = _
          rw [q.off, hoff, e1]
          omega

/-- All that the law asks of the pieces. -/
theorem flist_spec {k : Pkt} {mtu : Int} (h : fcodeS k mtu = 0) : ∃ m : Nat, mtu = (m : Int) ∧ 68 ≤ m ∧ m ≤ 65535 ∧ (0 ≤ k.off ∧ k.off ≤ 8191) ∧ fall (flist k mtu) = k.data ∧ ∀ i (hi : i < (flist k mtu).length), PieceOk m k (flist k mtu) i hi := by
  have hw : fwhy k mtu = 0 := by
    by_cases hw : fwhy k mtu ≠ 0
    · exact absurd ((fsplit_why hw).1.symm.trans h) hw
    · simpa using hw
  obtain ⟨h1, h2, h3⟩ := fwhy_ok hw
  obtain ⟨m, rfl⟩ := Int.eq_ofNat_of_zero_le (show 0 ≤ mtu by omega)
  have hc : k.opts.length ≤ 40 ∧ k.opts.length % 4 = 0 ∧ 0 ≤ k.off := by
    unfold Pkt.check at h1
    split at h1
    · cases h1
    · omega
  cases hg : fgo k (m : Int) with
  | none => rw [(fsplit_none hw hg).1] at h; cases h
  | some L =>
    rw [(fsplit_some hw hg).2]
    obtain ⟨p1, p2, p3⟩ := fpieces_spec (fcar k.opts) m (by omega) (fcar_length _) (k.data.length + 1) k L hg ⟨hc.1, hc.2.1⟩ hc.2.2 (by omega)
    exact ⟨m, rfl, by omega, by omega, ⟨hc.2.2, (Pkt.check_ok h1).2.1⟩, p2, p3⟩
theorem flist_bad {k : Pkt} {mtu : Int} (h : fcodeS k mtu ≠ 0) : flist k mtu = [] := by
  by_cases hw : fwhy k mtu ≠ 0
  · exact (fsplit_why hw).2
  · have hw0 : fwhy k mtu = 0 := by simpa using hw
    cases hg : fgo k mtu with
    | none => exact (fsplit_none hw0 hg).2
    | some L => exact absurd (fsplit_some hw0 hg).1 h
/-- A piece that is cut again stays. -/
theorem flist_again {x : Pkt} {m : Nat} (h1 : x.len ≤ m) (h2 : 68 ≤ m) (h3 : m ≤ 65535) (ho : x.opts.length ≤ 40 ∧ x.opts.length % 4 = 0) (h0 : 0 ≤ x.off ∧ x.off ≤ 8191) : fcodeS x (m : Int) = 0 ∧ flist x (m : Int) = [x] := by
  have hc : x.check = 0 := by
    unfold Pkt.check
    rw [if_neg (by omega), if_neg (by omega)]
  have hw : fwhy x (m : Int) = 0 := by
    unfold fwhy
    rw [if_neg (by omega), if_neg (by omega), if_pos (by omega)]
  refine fsplit_some hw ?_
  unfold fgo
  rw [fpieces, if_neg (by omega), if_pos (by simpa using h1)]
end Go.Proofs.Ytkofmbnolaiecaa
