/- UdpOrder: what waits, in numbers. -/
import Derived.Test.YtkblgigpgpjjlaaUdLive
namespace Go.Proofs.Ytkblgigpgpjjlaa
set_option linter.unusedVariables false
set_option linter.unusedSimpArgs false
open Go.ChangeShapes Go.WideShapes Go.ChangeAt Go.RowKit

/-- The datagram that was put in round p. -/
def elU (p : Nat × List UInt8) : Ml := ⟨noE, UInt8.ofNat p.1 :: p.2⟩
/-- Behind i rounds: what waits are rounds' datagrams, in order, none ahead of next. -/
structure OrU (u : Ub) (i next put taken : Nat) : Prop where
  pe : u.pe = noE
  told : u.told = 0
  l : ∃ K : List (Nat × List UInt8), u.L = K.map elU ∧ (K.map Prod.fst).Pairwise (· < ·) ∧ ∀ p ∈ K, next ≤ p.1 ∧ p.1 < i
  nx : next ≤ i
  cnt : put = taken + u.L.length
  lst : u.lost + (put : Int) = (i : Int)
  pl : put ≤ i
theorem OrU.start (room : Int) : OrU (noneU 20 room) 0 0 0 0 := ⟨rfl, rfl, ⟨[], rfl, List.Pairwise.nil, fun p hp => by cases hp⟩, Nat.le_refl _, rfl, rfl, Nat.le_refl _⟩
section
variable {u : Ub} {i next put taken : Nat}
theorem OrU.lets (h : OrU u i next put taken) : ¬ ¬ letsS u.pe noE := fun q => q (.inl h.pe)
theorem OrU.few (h : OrU u i next put taken) (hi : i ≤ 1000) : FewU u := by
  have h2 := h.lst
  have h3 := h.pl
  exact ⟨by omega, by omega⟩
theorem OrU.put_no (h : OrU u i next put taken) (r : List UInt8) (hf : fullU u ⟨noE, UInt8.ofNat i :: r⟩) : puE u ⟨noE, UInt8.ofNat i :: r⟩ = 5 ∧ OrU (puU u ⟨noE, UInt8.ofNat i :: r⟩) (i + 1) next put taken := by
  have e1 : puE u ⟨noE, UInt8.ofNat i :: r⟩ = 5 := (if_neg h.lets).trans (if_pos hf)
  have e2 : puU u ⟨noE, UInt8.ofNat i :: r⟩ = { u with lost := u.lost + 1 } := (if_neg h.lets).trans (if_pos hf)
  refine ⟨e1, ?_⟩
  rw [e2]
  obtain ⟨K, k1, k2, k3⟩ := h.l
  have := h.lst
  have := h.nx
  exact ⟨h.pe, h.told, ⟨K, k1, k2, fun p hp => ⟨(k3 p hp).1, by have := (k3 p hp).2; omega⟩⟩, by omega, h.cnt, by show u.lost + 1 + (put : Int) = _; omega, by have := h.pl; omega⟩
theorem OrU.put_ok (h : OrU u i next put taken) (r : List UInt8) (hf : ¬ fullU u ⟨noE, UInt8.ofNat i :: r⟩) : puE u ⟨noE, UInt8.ofNat i :: r⟩ = 0 ∧ OrU (puU u ⟨noE, UInt8.ofNat i :: r⟩) (i + 1) next (put + 1) taken := by
  have e1 : puE u ⟨noE, UInt8.ofNat i :: r⟩ = 0 := (if_neg h.lets).trans (if_neg hf)
  have e2 : puU u ⟨noE, UInt8.ofNat i :: r⟩ = { u with L := u.L ++ [⟨noE, UInt8.ofNat i :: r⟩] } := (if_neg h.lets).trans (if_neg hf)
  refine ⟨e1, ?_⟩
  rw [e2]
  obtain ⟨K, k1, k2, k3⟩ := h.l
  have h1 := h.lst
  have h2 := h.nx
  have h3 := h.cnt
  have h4 := h.pl
  refine ⟨h.pe, h.told, ⟨K ++ [(i, r)], ?_, ?_, fun p hp => ?_⟩, by omega, ?_, ?_, by omega⟩
  · show u.L ++ _ = _
    rw [k1, List.map_append]
    rfl
  · rw [List.map_append, List.pairwise_append]
    refine ⟨k2, by simp, fun a ha b hb => ?_⟩
    obtain ⟨p, hp, rfl⟩ := List.mem_map.1 ha
    simp at hb
    rw [hb]
    exact (k3 p hp).2
  · rcases List.mem_append.1 hp with hp | hp
    · have := k3 p hp
      omega
    · rw [List.mem_singleton.1 hp]
      exact ⟨h2, Nat.lt_succ_self i⟩
  · show put + 1 = taken + (u.L ++ _).length
    rw [List.length_append, List.length_singleton]
    omega
  · show u.lost + ((put + 1 : Nat) : Int) = _
    omega
theorem OrU.take_none (h : OrU u i next put taken) (hL : u.L = []) : tkuE u 1 = 6 ∧ tkuU u 1 = u := by
  rcases tku_cases u 1 with ⟨q, _⟩ | ⟨_, _, q1, _, _, q4⟩ | ⟨_, q, _⟩ | ⟨_, x, r, q, _⟩
  · exact absurd h.told q
  · exact ⟨q1, q4⟩
  · exact absurd hL q
  · rw [hL] at q
    cases q
theorem OrU.take_ok (h : OrU u i next put taken) (hL : u.L ≠ []) : tkuE u 1 = 0 ∧ ∃ j, next ≤ j ∧ j < i ∧ (tkuM u 1).d = [UInt8.ofNat j] ∧ OrU (tkuU u 1) i (j + 1) put (taken + 1) := by
  rcases tku_cases u 1 with ⟨q, _⟩ | ⟨_, q, _⟩ | ⟨_, _, q, _⟩ | ⟨_, x, r, q, _, q1, q2, q3, q4⟩
  · exact absurd h.told q
  · exact absurd q hL
  · exact absurd q (by decide)
  · obtain ⟨K, k1, k2, k3⟩ := h.l
    cases K with
    | nil => rw [k1] at q; cases q
    | cons p K =>
      rw [k1] at q
      have e1 : elU p = x := (List.cons.inj q).1
      have e2 : K.map elU = r := (List.cons.inj q).2
      rw [List.map_cons, List.pairwise_cons] at k2
      have hk := k3 p List.mem_cons_self
      refine ⟨q1, p.1, hk.1, hk.2, ?_, ?_⟩
      · rw [q2, ← e1]
        rfl
      · rw [q4]
        have h3 := h.cnt
        rw [k1, List.length_map, List.length_cons] at h3
        refine ⟨h.pe, h.told, ⟨K, e2.symm, k2.2, fun y hy => ⟨k2.1 _ (List.mem_map_of_mem hy), (k3 y (List.mem_cons_of_mem _ hy)).2⟩⟩, by omega, ?_, h.lst, h.pl⟩
        show put = taken + 1 + r.length
        rw [← e2, List.length_map]
        omega
end
end Go.Proofs.Ytkblgigpgpjjlaa
