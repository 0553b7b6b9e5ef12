/- An agenda between calls: Push refused, Drop, Top, Len. -/
import Derived.Test.YtdgbieapgmjjhaaAgPsx
namespace Go.Proofs.Ytdgbieapgmjjhaa
set_option linter.unusedVariables false
set_option linter.unusedSimpArgs false
open Go.ChangeShapes Go.WideShapes Go.ChangeAt Go.RowKit

theorem pt_in {E : List En} {m : Nat} (h : m < E.length) : pt E m ∈ E := List.mem_iff_getElem?.2 ⟨m, pt_get h⟩
section
variable {w : World} {base ab mb : Nat} {L : List En} {mo pu : Int}
theorem agPush_same (h : Agd w base ab mb L mo pu) (a b r : Int) (hx : ∃ e ∈ L, e.id = a) :
    Calls Try.prog 9 #[.pointer (some ⟨ab, 0, none⟩), .agg #[.int .i64 a, .int .i64 b, .int .i64 r]] w fun e w' => e = .returned (.int .i64 140) ∧ Grow w w' := by
  obtain ⟨v, E, h1, h2, h3⟩ := h.q
  obtain ⟨e, he, hid⟩ := hx
  obtain ⟨k, hk, hpk⟩ := pt_mem (h3.mem_iff.2 he)
  exact aPush_same w base ab mb v E mo pu h1 a b r k hk (by rw [hpk]; exact hid)
theorem agPush_full (h : Agd w base ab mb L mo pu) (a b r : Int) (hx : ∀ e ∈ L, e.id ≠ a) (hf : ¬ (L.length : Int) < mo) :
    Calls Try.prog 9 #[.pointer (some ⟨ab, 0, none⟩), .agg #[.int .i64 a, .int .i64 b, .int .i64 r]] w fun e w' => e = .returned (.int .i64 5) ∧ Grow w w' := by
  obtain ⟨v, E, h1, h2, h3⟩ := h.q
  have hl := h3.length_eq
  have := h.cap
  exact aPush_full w base ab mb v E mo pu h1 a b r (fun m hm => hx _ (h3.mem_iff.1 (pt_in hm))) (by omega)
theorem agLen_any (h : Agd w base ab mb L mo pu) : Calls Try.prog 21 #[.pointer (some ⟨ab, 0, none⟩)] w fun e w' => e = .returned (.int .i64 (L.length : Int)) ∧ w' = w := by
  obtain ⟨v, E, h1, h2, h3⟩ := h.q
  rw [← h3.length_eq]
  exact aLen_any w base ab mb v E mo pu h1
theorem agDrop_none (h : Agd w base ab mb L mo pu) (a : Int) (hx : ∀ e ∈ L, e.id ≠ a) :
    Calls Try.prog 13 #[.pointer (some ⟨ab, 0, none⟩), .int .i64 a] w fun e w' => e = .returned (.bool false) ∧ w' = w := by
  obtain ⟨v, E, h1, h2, h3⟩ := h.q
  exact aDrop_none w base ab mb v E mo pu h1 a fun m hm => hx _ (h3.mem_iff.1 (pt_in hm))
end
theorem erase_filter : ∀ {L : List En} (_ : (L.map En.id).Nodup) {e : En} (_ : e ∈ L) {E' : List En} (_ : (e :: E').Perm L), E'.Perm (L.filter fun u => decide (u.id ≠ e.id))
  | L, hn, e, he, E', hp => by
    have h1 := hp.filter fun u => decide (u.id ≠ e.id)
    rw [List.filter_cons_of_neg (by simp)] at h1
    have h2 : E'.filter (fun u => decide (u.id ≠ e.id)) = E' := by
      refine List.filter_eq_self.2 fun u hu => decide_eq_true fun q => ?_
      have hn2 : ((e :: E').map En.id).Nodup := (hp.map En.id).nodup_iff.2 hn
      rw [List.map_cons] at hn2
      exact (List.nodup_cons.1 hn2).1 (by rw [← q]; exact List.mem_map_of_mem hu)
    rwa [h2] at h1
section
variable {w : World} {base ab mb : Nat} {L : List En} {mo pu : Int}
theorem agDrop_some (h : Agd w base ab mb L mo pu) (hn : L.length ≤ 80000) (a : Int) (hx : ∃ e ∈ L, e.id = a) :
    Calls Try.prog 13 #[.pointer (some ⟨ab, 0, none⟩), .int .i64 a] w fun e w' => e = .returned (.bool true) ∧ Agd w' base ab mb (L.filter fun u => decide (u.id ≠ a)) mo pu ∧ Only base Zq w w' := by
  obtain ⟨v, E, h1, h2, h3⟩ := h.q
  obtain ⟨e, he, rfl⟩ := hx
  obtain ⟨k, hk, hpk⟩ := pt_mem (h3.mem_iff.2 he)
  have hl := h3.length_eq
  refine (aDrop_some w base ab mb v E mo pu h1 h2 (by omega) e.id k hk (by rw [hpk])).mono ?_
  rintro _ w' ⟨rfl, v', E', q1, q2, q3, q4⟩
  rw [hpk] at q2
  refine ⟨rfl, ⟨⟨v', E', q1, q3, erase_filter h.nod he (q2.trans h3)⟩, h.nos.filter _, fun e he => h.low e (List.mem_filter.1 he).1, ?_, h.pu0⟩, q4⟩
  have := List.length_filter_le (fun u : En => decide (u.id ≠ e.id)) L
  have := h.cap
  omega
theorem agTop_empty (h : Agd w base ab mb [] mo pu) : Calls Try.prog 19 #[.pointer (some ⟨ab, 0, none⟩)] w fun e w' => e = .returned (.tuple #[.agg #[.int .i64 0, .int .i64 0, .int .i64 0], .bool false]) ∧ Grow w w' := by
  obtain ⟨v, E, h1, h2, h3⟩ := h.q
  obtain rfl : E = [] := h3.eq_nil
  exact aTop_empty w base ab mb v mo pu h1
theorem sortE_len (L : List En) : (sortE L).length = L.length := (sortE_perm L).length_eq
theorem agTop_some (h : Agd w base ab mb L mo pu) (hp : 0 < L.length) : Calls Try.prog 19 #[.pointer (some ⟨ab, 0, none⟩)] w fun e w' => e = .returned (.tuple #[itV (pt (sortE L) 0), .bool true]) ∧ Grow w w' := by
  obtain ⟨v, E, h1, h2, h3⟩ := h.q
  have hl := h3.length_eq
  have e : pt E 0 = pt (sortE L) 0 := by
    have m1 : pt E 0 ∈ L := h3.mem_iff.1 (pt_in (by omega))
    have hs := sortE_len L
    have m2 : pt (sortE L) 0 ∈ L := (sortE_perm L).mem_iff.1 (pt_in (by omega))
    refine nos_inj h.nos _ m1 _ m2 ?_
    obtain ⟨k, hk, hpk⟩ := pt_mem (h3.mem_iff.2 m2)
    have q1 := h2.least k hk
    rw [hpk] at q1
    obtain ⟨j, hj, hpj⟩ := pt_mem ((sortE_perm L).mem_iff.2 m1)
    have q2 : ¬ ltE (pt (sortE L) j) (pt (sortE L) 0) := by
      rcases Nat.eq_zero_or_pos j with z | z
      · rw [z]
        unfold ltE
        omega
      · have := List.pairwise_iff_getElem.1 (sortE_srt h.nos) 0 j (by omega) hj z
        have e1 : pt (sortE L) 0 = (sortE L)[0] := by
          have := pt_get (E := sortE L) (k := 0) (by omega)
          rw [List.getElem?_eq_getElem (by omega)] at this
          exact (Option.some.inj this).symm
        have e2 : pt (sortE L) j = (sortE L)[j] := by
          have := pt_get (E := sortE L) (k := j) hj
          rw [List.getElem?_eq_getElem hj] at this
          exact (Option.some.inj this).symm
        rw [e1, e2]
        exact this
    rw [hpj] at q2
    unfold ltE at q1 q2
    omega
  rw [← e]
  exact aTop_some w base ab mb v E mo pu h1 (by omega)
end
end Go.Proofs.Ytdgbieapgmjjhaa
