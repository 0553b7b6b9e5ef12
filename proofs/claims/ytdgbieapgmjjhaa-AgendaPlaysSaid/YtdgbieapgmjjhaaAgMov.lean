/- Contract: Move of an agenda. -/
import Derived.Test.YtdgbieapgmjjhaaAgDrp
namespace Go.Proofs.Ytdgbieapgmjjhaa
set_option linter.unusedVariables false
set_option linter.unusedSimpArgs false
open Go.ChangeShapes Go.WideShapes Go.ChangeAt Go.RowKit

/-- One item moved. -/
def mvF (x a r : Int) (e : En) : En := if e.id = x then ⟨x, a, r, e.no⟩ else e
def mvE (L : List En) (x a r : Int) : List En := L.map (mvF x a r)
theorem mvF_id (x a r : Int) (e : En) : (mvF x a r e).id = e.id := by
  unfold mvF
  split
  · rename_i h
    exact h.symm
  · rfl
theorem mvF_no (x a r : Int) (e : En) : (mvF x a r e).no = e.no := by
  unfold mvF
  split <;> rfl
theorem pt_key {E : List En} {k : Nat} (h : k < E.length) : pt E k = E[k] := by
  have := pt_get h
  rw [List.getElem?_eq_getElem h] at this
  exact (Option.some.inj this).symm
theorem set_mv {E : List En} (hn : (E.map En.id).Nodup) {k : Nat} (hk : k < E.length) {x : Int} (hx : (pt E k).id = x) (a r : Int) : E.set k ⟨x, a, r, (pt E k).no⟩ = mvE E x a r := by
  unfold mvE
  apply List.ext_getElem?
  intro j
  rw [List.getElem?_set, List.getElem?_map]
  by_cases q : k = j
  · subst q
    rw [if_pos rfl, if_pos hk, pt_get hk]
    unfold mvF
    rw [Option.map_some, if_pos hx]
  · rw [if_neg q]
    rcases Nat.lt_or_ge j E.length with h | h
    · rw [pt_get h]
      unfold mvF
      rw [Option.map_some, if_neg (fun e => q (ids_pt hn hk h (hx.trans e.symm)))]
    · rw [List.getElem?_eq_none h]
      rfl
theorem mv_ids (L : List En) (x a r : Int) : (mvE L x a r).map En.id = L.map En.id := by
  unfold mvE
  rw [List.map_map]
  exact List.map_congr_left fun e _ => mvF_id x a r e
theorem mv_len (L : List En) (x a r : Int) : (mvE L x a r).length = L.length := List.length_map _
theorem mv_nos {L : List En} (h : Nos L) (x a r : Int) : Nos (mvE L x a r) := by
  unfold mvE Nos
  rw [List.pairwise_map]
  exact h.imp fun {p q} hpq => by rw [mvF_no, mvF_no]; exact hpq
/-- Three cells laid. -/
def set3 (w : World) (g o : Nat) (x a r : Int) : World := ((w.setCell ⟨g, o, none⟩ (.int .i64 x)).setCell ⟨g, o + 1, none⟩ (.int .i64 a)).setCell ⟨g, o + 2, none⟩ (.int .i64 r)
theorem set_there {xs : List Value} {j : Nat} {u : Value} (h : xs[j]? = some u) : xs.set j u = xs := by
  apply List.ext_getElem?
  intro i
  rw [List.getElem?_set]
  split
  · rename_i q
    subst q
    rw [h]
    rw [if_pos (List.getElem?_eq_some_iff.1 h).1]
  · rfl
theorem row_set3 {w : World} {base g n c : Nat} {E : List En} (h : w.ownsRow base 66 4 (.slice (some ⟨g, 0, none⟩) n c) n (E.flatMap en)) (hn : n = E.length) {k : Nat} (hk : k < n) (x a r : Int) :
    (set3 w g (k * 4) x a r).ownsRow base 66 4 (.slice (some ⟨g, 0, none⟩) n c) n ((E.set k ⟨x, a, r, (pt E k).no⟩).flatMap en) ∧ Only base Zq w (set3 w g (k * 4) x a r) ∧ ∀ b, b ≠ g → (set3 w g (k * 4) x a r).heap[b]? = w.heap[b]? := by
  obtain ⟨r1, _⟩ := h.stored (k * 4) (.int .i64 x)
  obtain ⟨r2, _⟩ := r1.stored (k * 4 + 1) (.int .i64 a)
  obtain ⟨r3, _⟩ := r2.stored (k * 4 + 2) (.int .i64 r)
  have hf := flat_set E k ⟨x, a, r, (pt E k).no⟩ (by omega)
  have hno : ((((E.flatMap en).set (k * 4) (.int .i64 x)).set (k * 4 + 1) (.int .i64 a)).set (k * 4 + 2) (.int .i64 r))[k * 4 + 3]? = some (.int .i64 (pt E k).no) := by
    rw [List.getElem?_set_ne (by omega), List.getElem?_set_ne (by omega), List.getElem?_set_ne (by omega)]
    exact flat_en_at E k (pt E k) (pt_get (by omega)) 3 _ rfl
  rw [set_there hno] at hf
  rw [hf] at r3
  have o : ∀ (w1 : World) (xs : List Value) (j : Nat) (u : Value), w1.ownsRow base 66 4 (.slice (some ⟨g, 0, none⟩) n c) n xs → Only base Zq w1 (w1.setCell ⟨g, j, none⟩ u) := by
    intro w1 xs j u hr
    obtain ⟨cs, h1, h2⟩ := ownsRow_blk hr rfl
    exact Only.set h1 h2 (.inr (.inr rfl)) u
  refine ⟨r3, ((o _ _ _ _ h).trans (o _ _ _ _ r1)).trans (o _ _ _ _ r2), fun b hbg => ?_⟩
  unfold set3
  rw [Below.heap_setCell _ _ _ _ hbg, Below.heap_setCell _ _ _ _ hbg, Below.heap_setCell _ _ _ _ hbg]
theorem plE_mv {f : Int → Option Int} {E : List En} (h : PlE f E) (x a r : Int) : PlE f (mvE E x a r) := by
  intro y i
  rw [h y i, mv_len]
  have e : ∀ k, k < E.length → (pt (mvE E x a r) k).id = (pt E k).id := fun k hk => by
    have h1 : (mvE E x a r)[k]? = some (mvF x a r (pt E k)) := by
      unfold mvE
      rw [List.getElem?_map, pt_get hk]
      rfl
    rw [pt_get (by rw [mv_len]; exact hk)] at h1
    rw [Option.some.inj h1, mvF_id]
  constructor
  · rintro ⟨k, hk, h1, h2⟩
    exact ⟨k, hk, by rw [e k hk]; exact h1, h2⟩
  · rintro ⟨k, hk, h1, h2⟩
    exact ⟨k, hk, by rw [← e k hk]; exact h1, h2⟩
set_option maxHeartbeats 1000000 in
theorem aMove_none (w : World) (base ab mb : Nat) (v : Value) (E : List En) (mo pu : Int) (h : Qu w base ab mb v E mo pu) (x a r : Int) (hx : ∀ m, m < E.length → (pt E m).id ≠ x) :
    Calls Try.prog 11 #[.pointer (some ⟨ab, 0, none⟩), .int .i64 x, .int .i64 a, .int .i64 r] w fun e w' => e = .returned (.int .i64 6) ∧ w' = w := by
  obtain ⟨f, hff, hfE⟩ := h.map
  have hlk := hff.look_none (hfE.none hx)
  have d3 := h.cell.2.1
  clear h hff hfE hx
  go_enter Try.func11, Try.ntmps11
  go_wp2_with fail
  go_ret
  exact ⟨rfl, rfl⟩
set_option maxRecDepth 100000 in
set_option maxHeartbeats 4000000 in
theorem aMove_some (w : World) (base ab mb : Nat) (v : Value) (E : List En) (mo pu : Int) (h : Qu w base ab mb v E mo pu) (hp : Hp E E.length) (hn : E.length ≤ 80000) (x a r : Int) (k : Nat) (hk : k < E.length) (hx : (pt E k).id = x) :
    Calls Try.prog 11 #[.pointer (some ⟨ab, 0, none⟩), .int .i64 x, .int .i64 a, .int .i64 r] w fun e w' => e = .returned (.int .i64 0) ∧ ∃ v' E', Qu w' base ab mb v' E' mo pu ∧ E'.Perm (mvE E x a r) ∧ Hp E' E'.length ∧ Only base Zq w w' := by
  obtain ⟨f, hff, hfE⟩ := h.map
  have hlk := hff.look_some (hx ▸ hfE.some hk)
  obtain ⟨d2, d3, _, _⟩ := h.cell
  obtain ⟨g, c, cur, hv, hbg, hg, _, _, _, hc⟩ := h.ents (by omega)
  subst hv
  obtain ⟨x0, x1, x2, x3⟩ := hc k hk
  have f0 : ∀ o, w.frozen? ⟨g, o, none⟩ = false := fun o => frozen_of hg
  have hrow : w.ownsRow base 66 4 (.slice (some ⟨g, 0, none⟩) E.length c) E.length (E.flatMap en) := h.row
  obtain ⟨r1, o1, b1⟩ := row_set3 hrow rfl hk x a r
  obtain ⟨w2, hw2⟩ : ∃ w2, w2 = set3 w g (k * 4) x a r := ⟨_, rfl⟩
  rw [← hw2] at r1 o1 b1
  rw [set_mv h.nod hk hx] at r1
  have hgab : ab ≠ g := fun e => by
    have := h.blk
    rw [e, hg] at this
    injection this with this
    injection this with _ this
    exact absurd this (by decide)
  have hgmb : mb ≠ g := fun e => by
    obtain ⟨Lm, ⟨es, ck, hm, _⟩, _⟩ := hff
    rw [e, hg] at hm
    cases hm
  have q2 : Qu w2 base ab mb (.slice (some ⟨g, 0, none⟩) E.length c) (mvE E x a r) mo pu := ⟨(b1 ab hgab).trans h.blk, by rw [mv_len]; exact r1, ⟨f, hff.keep (b1 mb hgmb), plE_mv hfE x a r⟩, by rw [mv_ids]; exact h.nod, h.low⟩
  have hd : DnAt (mvE E x a r) (mvE E x a r).length k := by
    rw [mv_len, ← set_mv h.nod hk hx]
    exact hp.set _ k
  have c0 := hfix_any w2 base ab mb _ (mvE E x a r) mo pu q2 k (by rw [mv_len]; exact hk) (by rw [mv_len]; omega) hd
  unfold qI at c0
  have HO := Lib.hid o1
  have e2 : w2.cell? ⟨ab, 2, none⟩ = some (.slice (some ⟨g, 0, none⟩) E.length c) := q2.cell.1
  have k0 : (k : Int) < (E.length : Int) := by omega
  have HW := Lib.hid hw2
  rw [hw2] at c0
  unfold set3 at c0
  generalize E.length = n at *
  clear h hp hn hff hfE hx hk hc hg hrow r1 o1 b1 hgab hgmb q2 hd hbg e2 hw2
  go_enter Try.func11, Try.ntmps11
  go_wp2_with fail
  refine c0.mono ?_
  rintro e w3 ⟨rfl, E2, h2, p2, q2, o2⟩
  have H2 : Hid (Qu w3 base ab mb _ E2 mo pu ∧ E2.Perm (mvE E x a r) ∧ Hp E2 E2.length ∧ Only base Zq w w3) := ⟨h2, p2, q2, HO.out.trans (by rw [HW.out]; exact o2)⟩
  clear c0 h2 p2 q2 o2 hlk d3 x0 x1 x2 x3 f0
  go_wp2_with fail
  go_ret
  exact ⟨rfl, _, E2, H2.out⟩
section
variable {w : World} {base ab mb : Nat} {L : List En} {mo pu : Int}
theorem agMove_none (h : Agd w base ab mb L mo pu) (x a r : Int) (hx : ∀ e ∈ L, e.id ≠ x) :
    Calls Try.prog 11 #[.pointer (some ⟨ab, 0, none⟩), .int .i64 x, .int .i64 a, .int .i64 r] w fun e w' => e = .returned (.int .i64 6) ∧ w' = w := by
  obtain ⟨v, E, h1, h2, h3⟩ := h.q
  exact aMove_none w base ab mb v E mo pu h1 x a r fun m hm => hx _ (h3.mem_iff.1 (pt_in hm))
theorem agMove_some (h : Agd w base ab mb L mo pu) (hn : L.length ≤ 80000) (x a r : Int) (hx : ∃ e ∈ L, e.id = x) :
    Calls Try.prog 11 #[.pointer (some ⟨ab, 0, none⟩), .int .i64 x, .int .i64 a, .int .i64 r] w fun e w' => e = .returned (.int .i64 0) ∧ Agd w' base ab mb (mvE L x a r) mo pu ∧ Only base Zq w w' := by
  obtain ⟨v, E, h1, h2, h3⟩ := h.q
  obtain ⟨e, he, hid⟩ := hx
  obtain ⟨k, hk, hpk⟩ := pt_mem (h3.mem_iff.2 he)
  have hl := h3.length_eq
  refine (aMove_some w base ab mb v E mo pu h1 h2 (by omega) x a r k hk (by rw [hpk]; exact hid)).mono ?_
  rintro _ w' ⟨rfl, v', E', q1, q2, q3, q4⟩
  refine ⟨rfl, ⟨⟨v', E', q1, q3, q2.trans (h3.map _)⟩, mv_nos h.nos x a r, fun e he => ?_, by rw [mv_len]; exact h.cap, h.pu0⟩, q4⟩
  obtain ⟨e', h', rfl⟩ := List.mem_map.1 he
  rw [mvF_no]
  exact h.low e' h'
end
end Go.Proofs.Ytdgbieapgmjjhaa
