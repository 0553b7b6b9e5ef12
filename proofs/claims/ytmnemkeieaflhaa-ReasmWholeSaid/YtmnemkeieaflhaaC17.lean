/- The pieces of one packet, in any order, in numbers. -/
import Derived.Test.YtmnemkeieaflhaaC12
import Derived.Test.YtmnemkeieaflhaaC16
import Derived.Test.YtmnemkeieaflhaaC08
namespace Go.Proofs.Ytmnemkeieaflhaa
set_option linter.unusedVariables false
set_option linter.unusedSimpArgs false

def Pkt.at_ (q : Pkt) : Nat := (8 * q.off).toNat
/-- q is a piece of k. -/
structure Pc (k q : Pkt) : Prop where
  o0 : 0 ≤ q.off
  ne : q.data ≠ []
  fit : q.at_ + q.data.length ≤ k.data.length
  data : ∀ i, i < q.data.length → q.data[i]? = k.data[q.at_ + i]?
  mid : q.more = true → q.data.length % 8 = 0
  last : q.more = false ↔ q.at_ + q.data.length = k.data.length
  hdr : q.tos = k.tos ∧ q.ident = k.ident ∧ q.whole = k.whole ∧ q.ttl = k.ttl ∧ q.proto = k.proto ∧ q.src = k.src ∧ q.dst = k.dst
  opts : q.off = 0 → q.opts = k.opts
  few : q.opts.length ≤ 40
def Covs (dn : List Pkt) (i : Nat) : Prop := ∃ q ∈ dn, q.at_ ≤ i ∧ i < q.at_ + q.data.length
theorem Pc.pos {k q : Pkt} (h : Pc k q) : 0 < q.data.length := List.length_pos_iff.2 h.ne

/-- One behind another, from p to e. -/
def Run (k : Pkt) : Nat → List Pkt → Nat → Prop
  | p, [], e => p = e
  | p, q :: L, e => q.at_ = p ∧ Pc k q ∧ Run k (p + q.data.length) L e
theorem Run.append {k : Pkt} : ∀ {L M : List Pkt} {p e f : Nat}, Run k p L e → Run k e M f → Run k p (L ++ M) f
  | [], M, p, e, f, h, h2 => by
    have : p = e := h
    subst this
    exact h2
  | q :: L, M, p, e, f, h, h2 => ⟨h.1, h.2.1, Run.append h.2.2 h2⟩
theorem Run.split {k : Pkt} : ∀ {L M : List Pkt} {p f : Nat}, Run k p (L ++ M) f → ∃ e, Run k p L e ∧ Run k e M f
  | [], M, p, f, h => ⟨p, rfl, h⟩
  | q :: L, M, p, f, h => by
    obtain ⟨e, h1, h2⟩ := Run.split (L := L) h.2.2
    exact ⟨e, ⟨h.1, h.2.1, h1⟩, h2⟩
theorem Run.le {k : Pkt} : ∀ {L : List Pkt} {p e : Nat}, Run k p L e → p + L.length ≤ e
  | [], p, e, h => by
    have : p = e := h
    simp; omega
  | q :: L, p, e, h => by
    have h1 := Run.le h.2.2
    have h2 := h.2.1.pos
    simp only [List.length_cons]
    omega
theorem Run.mem {k : Pkt} : ∀ {L : List Pkt} {p e : Nat}, Run k p L e → ∀ q ∈ L, Pc k q
  | [], p, e, h, q, hq => by cases hq
  | x :: L, p, e, h, q, hq => by
    rcases List.mem_cons.1 hq with rfl | hq
    · exact h.2.1
    · exact Run.mem h.2.2 q hq
theorem Run.covs {k : Pkt} : ∀ {L : List Pkt} {p e : Nat}, Run k p L e → ∀ i, Covs L i ↔ p ≤ i ∧ i < e
  | [], p, e, h, i => by
    have : p = e := h
    refine ⟨fun ⟨q, hq, _⟩ => (by cases hq), fun h => (by omega)⟩
  | x :: L, p, e, h, i => by
    have ih := Run.covs h.2.2 i
    have hl := Run.le h.2.2
    have h1 := h.1
    constructor
    · rintro ⟨q, hq, h2, h3⟩
      rcases List.mem_cons.1 hq with rfl | hq
      · omega
      · have := ih.1 ⟨q, hq, h2, h3⟩
        omega
    · intro h2
      by_cases h3 : i < p + x.data.length
      · exact ⟨x, by simp, by omega, by omega⟩
      · obtain ⟨q, hq, h4⟩ := ih.2 (by omega)
        exact ⟨q, by simp [hq], h4⟩

/-- All is there just when all pieces are. -/
theorem run_full {k : Pkt} {L dn : List Pkt} (h : Run k 0 L k.data.length) {S : Nat → Prop} (hd : ∀ x, x ∈ dn ↔ ∃ j, S j ∧ L[j]? = some x) : (∀ i, i < k.data.length → Covs dn i) ↔ ∀ j, j < L.length → S j := by
  constructor
  · intro hf j hj
    refine Classical.byContradiction fun hn => ?_
    have eL : L = L.take j ++ L[j] :: L.drop (j + 1) := by rw [← List.drop_eq_getElem_cons hj, List.take_append_drop]
    rw [eL] at h
    obtain ⟨m, h1, h2⟩ := h.split
    have hl := h2.2.2.le
    have hp := h2.2.1.pos
    have hat := h2.1
    obtain ⟨q, hq, h3, h4⟩ := hf m (by omega)
    obtain ⟨i, hS, hi⟩ := (hd q).1 hq
    obtain ⟨hil, hie⟩ := List.getElem?_eq_some_iff.1 hi
    rcases Nat.lt_trichotomy i j with hij | hij | hij
    · have : Covs (L.take j) m := ⟨q, by rw [← hie]; exact List.mem_take_iff_getElem.2 ⟨i, by omega, rfl⟩, h3, h4⟩
      have := (h1.covs m).1 this
      omega
    · subst hij
      exact hn hS
    · have : Covs (L.drop (j + 1)) m := ⟨q, by rw [← hie]; exact List.mem_drop_iff_getElem.2 ⟨i - (j + 1), by omega, by congr 1; omega⟩, h3, h4⟩
      have := (h2.2.2.covs m).1 this
      omega
  · intro hS i hi
    obtain ⟨q, hq, h1⟩ := (h.covs i).2 ⟨Nat.zero_le _, hi⟩
    obtain ⟨j, hj, rfl⟩ := List.getElem_of_mem hq
    exact ⟨L[j], (hd _).2 ⟨j, hS j hj, List.getElem?_eq_getElem hj⟩, h1⟩
/-- None is complete, where there are two. -/
theorem run_part {k : Pkt} {L : List Pkt} (h : Run k 0 L k.data.length) (h2 : 2 ≤ L.length) : ∀ q ∈ L, ¬ (q.off = 0 ∧ q.more = false) := by
  intro q hq hc
  have hpc := h.mem q hq
  obtain ⟨A, B, rfl⟩ := List.append_of_mem hq
  obtain ⟨m, h3, h4⟩ := h.split
  have e1 := h3.le
  have e2 := h4.2.2.le
  have e3 := h4.1
  have e4 := hpc.last.1 hc.2
  have e5 : q.at_ = 0 := by unfold Pkt.at_; rw [hc.1]; rfl
  simp only [List.length_append, List.length_cons] at h2
  omega
theorem run_one {k y : Pkt} (h : Run k 0 [y] k.data.length) (h0 : k.off = 0) (hm : k.more = false) : y = k := by
  obtain ⟨h1, h2, h3⟩ := h
  have h3 : 0 + y.data.length = k.data.length := h3
  have hy0 : y.off = 0 := by
    have := h2.o0
    unfold Pkt.at_ at h1
    omega
  have hmo := h2.last.2 (by omega)
  have ho := h2.opts hy0
  have hd : y.data = k.data := by
    refine List.ext_getElem? fun i => ?_
    by_cases hi : i < y.data.length
    · rw [h2.data i hi, h1, Nat.zero_add]
    · rw [List.getElem?_eq_none (by omega), List.getElem?_eq_none (by omega)]
  obtain ⟨e1, e2, e3, e4, e5, e6, e7⟩ := h2.hdr
  obtain ⟨a0, a1, a2, a3, a4, a5, a6, a7, a8, a9, a10⟩ := y
  obtain ⟨b0, b1, b2, b3, b4, b5, b6, b7, b8, b9, b10⟩ := k
  simp only at *
  subst e1 e2 e3 e4 e5 e6 e7 ho hd hy0 hmo h0 hm
  rfl

theorem at_add {a : Int} {n : Nat} (h : 0 ≤ a) : (8 * (a + (n : Int))).toNat = (8 * a).toNat + 8 * n := by omega
theorem run_pieces {k : Pkt} (c : List UInt8) (m : Nat) (hm : 68 ≤ m) (hc : c.length ≤ 40) : ∀ (f : Nat) (r : Pkt) (M : List Pkt), fpieces c m f r = some M → Pc k r → r.data.length < f → Run k r.at_ M (r.at_ + r.data.length)
  | 0, r, M, _, _, h => absurd h (by omega)
  | f + 1, r, M, hg, hp, hf => by
    rw [fpieces] at hg
    split at hg
    · cases hg
    split at hg
    · cases hg
      exact ⟨rfl, hp, rfl⟩
    · rename_i h1 h2
      obtain ⟨r1, r2, r3, r4⟩ := froom_bounds hm hp.few (show m < r.len by omega)
      obtain ⟨R, hR⟩ : ∃ R, R = froom m r := ⟨_, rfl⟩
      rw [← hR] at r1 r2 r3
      cases hq : fpieces c m f (frest c m r) with
      | none => rw [hq] at hg; cases hg
      | some L' =>
        rw [hq] at hg
        simp only [Option.map_some, Option.some.injEq] at hg
        subst hg
        have e1 : (frest c m r).data = r.data.drop R := by rw [hR]; rfl
        have e2 : (frest c m r).off = r.off + ((R / 8 : Nat) : Int) := by rw [hR]; rfl
        have e3 : (frest c m r).at_ = r.at_ + R := by
          unfold Pkt.at_
          rw [e2, at_add hp.o0]
          omega
        have e4 : (ffirst m r).data = r.data.take R := by rw [hR]; rfl
        have e5 : (ffirst m r).at_ = r.at_ := rfl
        have hfit := hp.fit
        have l1 : (ffirst m r).data.length = R := by rw [e4, List.length_take]; omega
        have l2 : (frest c m r).data.length = r.data.length - R := by rw [e1, List.length_drop]
        have p1 : Pc k (ffirst m r) := by
          refine ⟨hp.o0, fun e => ?_, by rw [l1, e5]; omega, fun i hi => ?_, fun _ => by rw [l1]; exact r3, ?_, hp.hdr, hp.opts, hp.few⟩
          · have := congrArg List.length e
            rw [l1] at this
            simp at this
            omega
          · rw [e4, List.getElem?_take_of_lt (by omega), e5]
            exact hp.data i (by omega)
          · constructor
            · intro e; cases e
            · intro e; rw [l1, e5] at e; omega
        have p2 : Pc k (frest c m r) := by
          refine ⟨by rw [e2]; have := hp.o0; omega, fun e => ?_, by rw [l2, e3]; omega, fun i hi => ?_, fun hmo => ?_, ?_, hp.hdr, fun e => ?_, hc⟩
          · have := congrArg List.length e
            rw [l2] at this
            simp at this
            omega
          · rw [e1, List.getElem?_drop, hp.data _ (by omega), e3, Nat.add_assoc]
          · have := hp.mid hmo
            rw [l2]
            omega
          · rw [l2, e3, show r.at_ + R + (r.data.length - R) = r.at_ + r.data.length by omega]
            exact hp.last
          · rw [e2] at e
            have := hp.o0
            omega
        have ih := run_pieces c m hm hc f (frest c m r) L' hq p2 (by omega)
        rw [e3, l2, show r.at_ + R + (r.data.length - R) = r.at_ + r.data.length by omega] at ih
        exact ⟨rfl, p1, by rw [l1]; exact ih⟩
theorem flist_go {k : Pkt} {mtu : Int} (h : fcodeS k mtu = 0) : ∃ m : Nat, mtu = (m : Int) ∧ 68 ≤ m ∧ fpieces (fcar k.opts) m (k.data.length + 1) k = some (flist k mtu) ∧ k.opts.length ≤ 40 ∧ 0 ≤ k.off := by
  have hw : fwhy k mtu = 0 := by
    by_cases hw : fwhy k mtu ≠ 0
    · exact absurd ((fsplit_why hw).1.symm.trans h) hw
    · simpa using hw
  obtain ⟨h1, h2, h3⟩ := fwhy_ok hw
  obtain ⟨m, rfl⟩ := Int.eq_ofNat_of_zero_le (show 0 ≤ mtu by omega)
  obtain ⟨c1, c2, c3, _⟩ := Pkt.check_ok h1
  cases hg : fgo k (m : Int) with
  | none => rw [(fsplit_none hw hg).1] at h; cases h
  | some L =>
    rw [(fsplit_some hw hg).2]
    exact ⟨m, rfl, by omega, hg, c3, c1⟩
theorem flist_run {k q : Pkt} {mtu : Int} (h : fcodeS q mtu = 0) (hp : Pc k q) : Run k q.at_ (flist q mtu) (q.at_ + q.data.length) := by
  obtain ⟨m, rfl, h1, h2, _⟩ := flist_go h
  exact run_pieces _ m h1 (fcar_length _).1 _ q _ h2 hp (Nat.lt_succ_self _)
theorem flist_nil {k : Pkt} {mtu : Int} (h : fcodeS k mtu = 0) (hd : k.data = []) : flist k mtu = [k] := by
  obtain ⟨m, rfl, h1, h2, h3, _⟩ := flist_go h
  rw [fpieces] at h2
  split at h2
  · cases h2
  · rw [if_pos (by unfold Pkt.len; rw [hd]; simp; omega)] at h2
    exact (Option.some.inj h2).symm
theorem Pc.self {k : Pkt} (h0 : k.off = 0) (hm : k.more = false) (hd : k.data ≠ []) (ho : k.opts.length ≤ 40) : Pc k k := by
  have e : k.at_ = 0 := by unfold Pkt.at_; rw [h0]; rfl
  refine ⟨by omega, hd, by rw [e]; omega, fun i _ => by rw [e, Nat.zero_add], fun h => ?_, ?_, ⟨rfl, rfl, rfl, rfl, rfl, rfl, rfl⟩, fun _ => rfl, ho⟩
  · rw [hm] at h; cases h
  · rw [e]; simp [hm]
theorem run_flat {k : Pkt} {small : Int} : ∀ {L : List Pkt} {p e : Nat}, Run k p L e → (∀ q ∈ L, fcodeS q small = 0) → Run k p (L.flatMap fun q => flist q small) e
  | [], p, e, h, _ => h
  | q :: L, p, e, h, hc => by
    rw [List.flatMap_cons]
    have h1 := flist_run (hc q (by simp)) h.2.1
    rw [h.1] at h1
    exact h1.append (run_flat h.2.2 fun x hx => hc x (by simp [hx]))

/-- What waits of k, where these pieces have come. -/
structure Cov (k : Pkt) (dn : List Pkt) (t : Wt) : Prop where
  nm : t.nm = nmOf k
  some : ∀ f, t.first = some f → wholeK f k.data = k
  none : t.first = none → ∀ q ∈ dn, q.off ≠ 0
  fin : t.fin = k.data.length ∨ (t.fin = 0 ∧ ∀ q ∈ dn, q.more = true)
  bytes : ∀ i b, look t.c i = .some b → Covs dn i ∧ k.data[i]? = .some b
  has : ∀ i, Covs dn i → ∃ b, look t.c i = .some b
  len : t.c.length ≤ k.data.length
theorem Cov.fresh (k : Pkt) (till : Int) : Cov k [] (freshW (nmOf k) till) := by
  have hl : ∀ i, look (freshW (nmOf k) till).c i = .none := fun i => look_past (by simp [freshW])
  refine ⟨rfl, fun f h => (by cases h), fun _ q hq => (by cases hq), .inr ⟨rfl, fun q hq => (by cases hq)⟩, fun i b h => ?_, fun i ⟨q, hq, _⟩ => (by cases hq), by simp [freshW]⟩
  rw [hl] at h
  cases h
theorem covs_snoc {dn : List Pkt} {q : Pkt} {i : Nat} : Covs (dn ++ [q]) i ↔ Covs dn i ∨ (q.at_ ≤ i ∧ i < q.at_ + q.data.length) := by
  constructor
  · rintro ⟨x, hx, h⟩
    rcases List.mem_append.1 hx with h1 | h1
    · exact .inl ⟨x, h1, h⟩
    · rw [List.mem_singleton.1 h1] at h; exact .inr h
  · rintro (⟨x, hx, h⟩ | h)
    · exact ⟨x, List.mem_append_left _ hx, h⟩
    · exact ⟨q, by simp, h⟩
theorem whole_eq {k q : Pkt} (hp : Pc k q) (h0 : k.off = 0) (hm : k.more = false) (hq : q.off = 0) : wholeK q k.data = k := by
  obtain ⟨e1, e2, e3, e4, e5, e6, e7⟩ := hp.hdr
  have ho := hp.opts hq
  unfold wholeK
  obtain ⟨a0, a1, a2, a3, a4, a5, a6, a7, a8, a9, a10⟩ := q
  obtain ⟨b0, b1, b2, b3, b4, b5, b6, b7, b8, b9, b10⟩ := k
  simp only at *
  subst e1 e2 e3 e4 e5 e6 e7 ho hq h0 hm
  rfl
theorem Cov.took {k q : Pkt} {dn : List Pkt} {t : Wt} (h : Cov k dn t) (hp : Pc k q) (h0 : k.off = 0) (hm : k.more = false) : Cov k (dn ++ [q]) (tookW t q) := by
  have hlk : ∀ i, look (tookW t q).c i = (look t.c i).or (if q.at_ ≤ i then q.data[i - q.at_]? else .none) := fun i => paint_look _ _ _ _
  have hfit := hp.fit
  refine ⟨h.nm, fun f hf => ?_, fun hf => ?_, ?_, fun i b hb => ?_, fun i hi => ?_, ?_⟩
  · have hf : (if q.off = 0 ∧ t.first = .none then Option.some q else t.first) = .some f := hf
    split at hf
    · rename_i h1
      cases hf
      exact whole_eq hp h0 hm h1.1
    · exact h.some f hf
  · have hf : (if q.off = 0 ∧ t.first = .none then Option.some q else t.first) = .none := hf
    split at hf
    · cases hf
    · rename_i h1
      intro x hx
      rcases List.mem_append.1 hx with h2 | h2
      · exact h.none hf x h2
      · rw [List.mem_singleton.1 h2]
        exact fun e => h1 ⟨e, hf⟩
  · show (if q.more = true then t.fin else (endOf q).toNat) = _ ∨ (if q.more = true then t.fin else (endOf q).toNat) = 0 ∧ _
    by_cases hmo : q.more = true
    · rw [if_pos hmo]
      rcases h.fin with h1 | ⟨h1, h2⟩
      · exact .inl h1
      · refine .inr ⟨h1, fun x hx => ?_⟩
        rcases List.mem_append.1 hx with h3 | h3
        · exact h2 x h3
        · rw [List.mem_singleton.1 h3]; exact hmo
    · rw [if_neg hmo]
      left
      have := hp.last.1 (by simpa using hmo)
      have := hp.o0
      unfold endOf
      unfold Pkt.at_ at *
      omega
  · rw [hlk] at hb
    rw [covs_snoc]
    cases hc : look t.c i with
    | some b' =>
      rw [hc] at hb
      cases hb
      have := h.bytes i b hc
      exact ⟨.inl this.1, this.2⟩
    | none =>
      rw [hc, Option.none_or] at hb
      split at hb
      · rename_i h1
        obtain ⟨h2, _⟩ := List.getElem?_eq_some_iff.1 hb
        refine ⟨.inr ⟨h1, by omega⟩, ?_⟩
        rw [← hb, hp.data _ h2]
        congr 1
        omega
      · cases hb
  · rw [hlk]
    rw [covs_snoc] at hi
    rcases hi with h1 | ⟨h1, h2⟩
    · obtain ⟨b, hb⟩ := h.has i h1
      exact ⟨b, by rw [hb]; rfl⟩
    · cases hc : look t.c i with
      | some b => exact ⟨b, rfl⟩
      | none =>
        rw [Option.none_or, if_pos h1, List.getElem?_eq_getElem (by omega)]
        exact ⟨_, rfl⟩
  · show (paint t.c (8 * q.off).toNat q.data).length ≤ _
    rw [paint_length _ _ hp.ne]
    have := h.len
    unfold Pkt.at_ at hfit
    omega
theorem Cov.full {k : Pkt} {dn : List Pkt} {t : Wt} (h : Cov k dn t) (hd : ∀ q ∈ dn, Pc k q) (hk : k.data ≠ []) : fullW t = true ↔ ∀ i, i < k.data.length → Covs dn i := by
  have hpos := List.length_pos_iff.2 hk
  have hlen := h.len
  unfold fullW
  rw [decide_eq_true_iff]
  constructor
  · rintro ⟨h1, h2⟩ i hi
    rcases h.fin with h3 | ⟨h3, _⟩
    · have := cnt_le t.c
      obtain ⟨b, hb⟩ := cnt_all (c := t.c) (by omega) i (by omega)
      exact (h.bytes i b hb).1
    · exact absurd h3 h1
  · intro hf
    have hN := hf (k.data.length - 1) (by omega)
    obtain ⟨b, hb⟩ := h.has _ hN
    have hl : t.c.length = k.data.length := by
      by_cases hl : k.data.length - 1 < t.c.length
      · omega
      · rw [look_past (by omega)] at hb; cases hb
    have hc := cnt_of_all (c := t.c) fun i hi => h.has i (hf i (by omega))
    obtain ⟨q, hq, h1, h2⟩ := hN
    have hp := hd q hq
    have hfit := hp.fit
    have hqm := hp.last.2 (by omega)
    rcases h.fin with h3 | ⟨_, h3⟩
    · exact ⟨by omega, by omega⟩
    · have := h3 q hq
      rw [hqm] at this
      cases this
theorem Cov.flat {k : Pkt} {dn : List Pkt} {t : Wt} (h : Cov k dn t) (hf : ∀ i, i < k.data.length → Covs dn i) : bytesC t.c = k.data := by
  have hall : ∀ i, i < k.data.length → look t.c i = k.data[i]? := fun i hi => by
    obtain ⟨b, hb⟩ := h.has i (hf i hi)
    rw [hb, (h.bytes i b hb).2]
  have hl : t.c.length = k.data.length := by
    have := h.len
    rcases Nat.lt_or_ge t.c.length k.data.length with h1 | h1
    · obtain ⟨b, hb⟩ := h.has t.c.length (hf _ h1)
      rw [look_past (Nat.le_refl _)] at hb
      cases hb
    · omega
  have e : t.c = k.data.map .some := cont_ext (by rw [List.length_map]; exact hl) fun i hi => by rw [hall i (by omega), look_some]
  rw [e, bytesC_some]

/-- The table, one packet of which waits at most. -/
def CovA (k : Pkt) (dn : List Pkt) (A : List Wt) : Prop := (dn = [] ∧ A = []) ∨ ∃ t, A = [t] ∧ Cov k dn t
theorem cov_add {k q : Pkt} {dn : List Pkt} {A : List Wt} (h0 : k.off = 0) (hm : k.more = false) (hN : k.data.length ≤ 65515) (hlen : k.len ≤ 65535) (h : CovA k dn A) (hd : ∀ x ∈ dn, Pc k x) (hq : Pc k q) (hnc : ¬ (q.off = 0 ∧ q.more = false)) (now : Int) (hnow : 0 ≤ now ∧ now ≤ 1000) :
    ((∀ i, i < k.data.length → Covs (dn ++ [q]) i) → addS 1 100 now q A = ⟨[], k, true, 0⟩) ∧
    (¬ (∀ i, i < k.data.length → Covs (dn ++ [q]) i) → ∃ A', addS 1 100 now q A = ⟨A', zeroPk, false, 0⟩ ∧ CovA k (dn ++ [q]) A') := by
  have hfit := hq.fit
  have ho := hq.o0
  have hpos := hq.pos
  have hkd : k.data ≠ [] := fun e => by rw [e, List.length_nil] at hfit; omega
  have hnm : nmOf q = nmOf k := by
    obtain ⟨e1, e2, e3, e4, e5, e6, e7⟩ := hq.hdr
    unfold nmOf
    rw [e2, e5, e6, e7]
  have hend : endOf q = ((q.at_ + q.data.length : Nat) : Int) := by
    unfold endOf Pkt.at_
    omega
  have hchk : chk q = 0 := by
    unfold chk
    rw [if_neg (by
      rintro (h1 | ⟨h1, h2⟩)
      · omega
      · exact h2 (hq.mid h1)), if_neg (by omega)]
  have hoff : q.off ≤ 8191 := by
    unfold Pkt.at_ at hfit
    omega
  have hd2 : ∀ x ∈ dn ++ [q], Pc k x := fun x hx => by
    rcases List.mem_append.1 hx with h1 | h1
    · exact hd x h1
    · rw [List.mem_singleton.1 h1]; exact hq
  have hfin : ∀ (B : List Wt) (t : Wt), Cov k (dn ++ [q]) t → ((∀ i, i < k.data.length → Covs (dn ++ [q]) i) → finS [B.headD t] 0 t = ⟨[], k, true, 0⟩) ∧ (¬ (∀ i, i < k.data.length → Covs (dn ++ [q]) i) → finS [B.headD t] 0 t = ⟨[t], zeroPk, false, 0⟩) := by
    intro B t ht
    have hfu := ht.full hd2 hkd
    constructor
    · intro hf
      unfold finS
      rw [if_pos (hfu.2 hf), ht.flat hf]
      obtain ⟨f, hff⟩ : ∃ f, t.first = some f := by
        cases hff : t.first with
        | some f => exact ⟨f, rfl⟩
        | none =>
          obtain ⟨x, hx, h1, h2⟩ := hf 0 (by omega)
          have h3 := ht.none hff x hx
          have h4 := (hd2 x hx).o0
          unfold Pkt.at_ at h1
          omega
      rw [hff]
      simp only [Option.getD_some]
      rw [ht.some f hff, if_neg (by omega)]
      rfl
    · intro hf
      unfold finS
      rw [if_neg (fun e => hf (hfu.1 e))]
      rfl
  have hadd : ∃ (B : List Wt) (t : Wt), addS 1 100 now q A = finS [B.headD t] 0 t ∧ Cov k (dn ++ [q]) t := by
    unfold addS
    rw [if_neg (by omega), if_neg hnc, if_neg (by rw [hchk]; simp)]
    rcases h with ⟨rfl, rfl⟩ | ⟨t, rfl, ht⟩
    · refine ⟨[freshW (nmOf q) (now + 100)], tookW (freshW (nmOf q) (now + 100)) q, ?_, ?_⟩
      · rfl
      · rw [hnm]
        exact (Cov.fresh k _).took hq h0 hm
    · refine ⟨[t], tookW t q, ?_, ht.took hq h0 hm⟩
      have hix : idxOf [t] (nmOf q) = some 0 := by
        unfold idxOf
        rw [List.findIdx?_cons, if_pos (by rw [hnm, ht.nm]; simp)]
      rw [hix]
      simp only [List.getElem?_cons_zero]
      have hst : staleB t.fin t.c.length q = false := by
        have hl := ht.len
        unfold staleB
        rw [hend]
        by_cases hmo : q.more = true
        · rw [hmo]
          split
          · rename_i h1
            rcases ht.fin with h2 | ⟨h2, _⟩
            · simp; omega
            · exact absurd h2 h1
          · rfl
        · have hmo : q.more = false := by simpa using hmo
          have := hq.last.1 hmo
          rw [hmo]
          split
          · rename_i h1
            rcases ht.fin with h2 | ⟨h2, _⟩
            · simp; omega
            · exact absurd h2 h1
          · simp; omega
      rw [hst]
      rfl
  obtain ⟨B, t, e, ht⟩ := hadd
  rw [e]
  obtain ⟨f1, f2⟩ := hfin B t ht
  exact ⟨f1, fun hf => ⟨[t], f2 hf, .inr ⟨t, rfl, ht⟩⟩⟩
end Go.Proofs.Ytmnemkeieaflhaa
/- A piece added; rows of booleans; what the loop of Whole keeps. -/
namespace Go.Proofs.Ytmnemkeieaflhaa
set_option linter.unusedVariables false
set_option linter.unusedSimpArgs false
open Go.ChangeShapes Go.WideShapes Go.ChangeAt Go.RowKit

def Full (k : Pkt) (dn : List Pkt) : Prop := ∀ i, i < k.data.length → Covs dn i
theorem cov_call (w : World) (B tb : Nat) (A : List Wt) (k q : Pkt) (dn : List Pkt) (hT : TabA w B tb 1 100 A) (h0 : k.off = 0) (hm : k.more = false) (hN : k.data.length ≤ 65515) (hlen : k.len ≤ 65535) (h : CovA k dn A) (hd : ∀ x ∈ dn, Pc k x) (hq : Pc k q) (hnc : ¬ (q.off = 0 ∧ q.more = false)) (now : Int) (hnow : 0 ≤ now ∧ now ≤ 1000) (vo vd : Value) (hp : Piece B w q vo vd) :
    Calls Try.prog 14 #[.pointer (some ⟨tb, 0, none⟩), .int .i64 now, ipV q vo vd] w fun e w' => ∃ fl r A' vo' vd', e = .returned (.tuple #[ipV r vo' vd', .bool fl, .int .i64 0]) ∧ Ip w' (ipV r vo' vd') r ∧ TabA w' B tb 1 100 A' ∧ Only B Za w w' ∧ (fl = true ↔ Full k (dn ++ [q])) ∧ (fl = true → r = k ∧ A' = []) ∧ (fl = false → CovA k (dn ++ [q]) A') := by
  obtain ⟨c1, c2⟩ := cov_add h0 hm hN hlen h hd hq hnc now hnow
  refine (RsAdd_any w B tb 1 100 A hT now q vo vd hp).mono ?_
  rintro e w' ⟨vo', vd', rfl, h1, h2, h3⟩
  by_cases hF : Full k (dn ++ [q])
  · rw [c1 hF] at h1 h2 ⊢
    exact ⟨true, k, [], vo', vd', rfl, h1, h2, h3, ⟨fun _ => hF, fun _ => rfl⟩, fun _ => ⟨rfl, rfl⟩, fun h => (by cases h)⟩
  · obtain ⟨A', e1, e2⟩ := c2 hF
    rw [e1] at h1 h2 ⊢
    exact ⟨false, zeroPk, A', vo', vd', rfl, h1, h2, h3, ⟨fun h => (by cases h), fun h => absurd h hF⟩, fun h => (by cases h), fun _ => e2⟩

theorem infoBool : (Try.prog.info? 4).map (fun i => (i.zero, i.size, i.bytes)) = some (some (.bool false), 1, 1) := by kernel_rfl
/-- A row of booleans of the call's own. -/
def Bools (w : World) (base : Nat) (v : Value) (hs : List Bool) : Prop := w.ownsRow base 4 1 v hs.length (hs.map Value.bool)
theorem Bools.made {w : World} {b : Nat} {v : Value} {n : Nat} (hown : w.ownsRow b 4 1 v n (madeCells (Value.bool false).cells (n * 1)).toList) : Bools w b v (List.replicate n false) := by
  rw [show (Value.bool false).cells = #[Value.bool false] from rfl, Nat.mul_one, toList_madeCells_one] at hown
  unfold Bools
  rw [List.map_replicate, List.length_replicate]
  exact hown
theorem Bools.cell {w : World} {base g n cap : Nat} {hs : List Bool} (h : Bools w base (.slice (some ⟨g, 0, none⟩) n cap) hs) : g < w.heap.size ∧ base ≤ g ∧ ∀ j (hj : j < hs.length), w.cell? ⟨g, j, none⟩ = some (.bool hs[j]) ∧ w.frozen? ⟨g, j, none⟩ = false := by
  rcases h.2 with ⟨e, _⟩ | ⟨g', cap', cur, e1, e2, hh, hn, hm, hc, ht⟩
  · cases e
  · cases e1
    refine ⟨(Array.getElem?_eq_some_iff.1 hh).1, e2, fun j hj => ⟨?_, frozen_of hh⟩⟩
    rw [cell_of_row w g j _ _ _ hh]
    have h1 : (cur.toList.take (hs.length * 1))[j]? = (hs.map Value.bool)[j]? := by rw [ht]
    rw [List.getElem?_take_of_lt (by omega), Array.getElem?_toList] at h1
    rw [h1, List.getElem?_map, List.getElem?_eq_getElem hj]
    rfl
theorem Bools.set {w : World} {base g n cap : Nat} {hs : List Bool} (h : Bools w base (.slice (some ⟨g, 0, none⟩) n cap) hs) (k : Nat) (b : Bool) : Bools (w.setCell ⟨g, k, none⟩ (.bool b)) base (.slice (some ⟨g, 0, none⟩) n cap) (hs.set k b) ∧ Only base (fun _ T => T = 4) w (w.setCell ⟨g, k, none⟩ (.bool b)) := by
  obtain ⟨h1, h2⟩ := h
  rcases h2 with ⟨e, _⟩ | ⟨g', cap', cur, e1, e2, hh, hn, hm, hc, ht⟩
  · cases e
  · cases e1
    refine ⟨⟨by simp, .inr ⟨g, cap, _, by rw [List.length_set], e2, heap_setCell_own hh _, by rw [List.length_set]; exact hn, hm, by rw [Array.size_setIfInBounds]; exact hc, ?_⟩⟩, Only.set hh e2 rfl _⟩
    rw [List.length_set, Array.toList_setIfInBounds, List.take_set, ht, List.map_set]
theorem bool_za (b : Nat) : ¬ Za b 4 := fun h => by rcases h with (h | h | h) | h | h <;> exact absurd h (by decide)
theorem TabA.only {Z : Nat → TypeId → Prop} {w w' : World} {base tb : Nat} {most life : Int} {A : List Wt} (h : TabA w base tb most life A) (o : Only base Z w w') (h1 : ∀ b, ¬ Z b 67) (h2 : ∀ b, ¬ Z b 64) (h3 : ∀ b, ¬ Z b 70) (h4 : ∀ b, ¬ Z b 75) (h5 : ∀ b, ¬ Z b 99) (h6 : ∀ b, ¬ Z b 5) (h7 : ∀ b, ¬ Z b 38) : TabA w' base tb most life A := by
  obtain ⟨mb, ov, L, h, hA, hk⟩ := h
  exact ⟨mb, ov, L, h.only o (h1 _) (h2 _) h3 h4 h5 h6 h7, hA, hk⟩
theorem TabA.grow {w w' : World} {base tb : Nat} {most life : Int} {A : List Wt} (h : TabA w base tb most life A) (g : Grow w w') : TabA w' base tb most life A := by
  obtain ⟨mb, ov, L, h, hA, hk⟩ := h
  exact ⟨mb, ov, L, h.grow g, hA, hk⟩
theorem TabA.sz {w : World} {base tb : Nat} {most life : Int} {A : List Wt} (h : TabA w base tb most life A) : base ≤ w.heap.size := by
  obtain ⟨mb, ov, L, h, hA, hk⟩ := h
  exact h.sz

/-- What the loop of Whole keeps. -/
structure Whl (w3 : World) (tb g n m : Nat) (k : Pkt) (L : List Pkt) (i : Nat) (hs : List Bool) (dn : List Pkt) (A : List Wt) (wr : World) : Prop where
  tab : TabA wr w3.heap.size tb 1 100 A
  cov : CovA k dn A
  row : Bools wr w3.heap.size (.slice (some ⟨g, 0, none⟩) n n) hs
  len : hs.length = n
  dn : ∀ x, x ∈ dn ↔ ∃ j : Nat, hs[j]? = some true ∧ L[j]? = some x
  some_ : 0 < hs.count false
  seen : ∀ j : Nat, j < n → j + m < i → hs[j]? = some true
  grow : Grow w3 wr
theorem count_set {hs : List Bool} {j : Nat} (h : hs[j]? = some false) : (hs.set j true).count false + 1 = hs.count false := by
  induction hs generalizing j with
  | nil => simp at h
  | cons x r ih => cases j with
    | zero =>
      simp only [List.getElem?_cons_zero, Option.some.injEq] at h
      subst h
      simp
    | succ j =>
      have := ih (j := j) (by simpa using h)
      simp only [List.set_cons_succ, List.count_cons]
      omega
theorem set_same {hs : List Bool} {j : Nat} (h : hs[j]? = some true) : hs.set j true = hs := by
  obtain ⟨h1, h2⟩ := List.getElem?_eq_some_iff.1 h
  rw [← h2]
  exact List.set_getElem_self h1
theorem none_left {hs : List Bool} : hs.count false = 0 ↔ ∀ j : Nat, j < hs.length → hs[j]? = some true := by
  rw [List.count_eq_zero]
  constructor
  · intro h j hj
    rw [List.getElem?_eq_getElem hj]
    cases hb : hs[j] with
    | true => rfl
    | false => exact absurd (by rw [← hb]; exact List.getElem_mem hj) h
  · intro h hm
    obtain ⟨j, hj, e⟩ := List.getElem_of_mem hm
    have := h j hj
    rw [List.getElem?_eq_getElem hj, e] at this
    cases this
/-- One more has come. -/
theorem dn_set {hs : List Bool} {L dn : List Pkt} {j : Nat} {q : Pkt} (h : ∀ x, x ∈ dn ↔ ∃ j : Nat, hs[j]? = some true ∧ L[j]? = some x) (hj : j < hs.length) (hq : L[j]? = some q) : ∀ x, x ∈ dn ++ [q] ↔ ∃ i : Nat, (hs.set j true)[i]? = some true ∧ L[i]? = some x := by
  intro x
  rw [List.mem_append, h x]
  constructor
  · rintro (⟨i, h1, h2⟩ | h1)
    · by_cases e : j = i
      · subst e
        exact ⟨j, by rw [List.getElem?_set_self hj], h2⟩
      · exact ⟨i, by rw [List.getElem?_set_ne e]; exact h1, h2⟩
    · rw [List.mem_singleton.1 h1]
      exact ⟨j, by rw [List.getElem?_set_self hj], hq⟩
  · rintro ⟨i, h1, h2⟩
    by_cases e : j = i
    · subst e
      rw [hq] at h2
      cases h2
      exact .inr (by simp)
    · rw [List.getElem?_set_ne e] at h1
      exact .inl ⟨i, h1, h2⟩
end Go.Proofs.Ytmnemkeieaflhaa
/- Contract: Split. -/
namespace Go.Proofs.Ytmnemkeieaflhaa
set_option linter.unusedVariables false
set_option linter.unusedSimpArgs false
open Go.ChangeShapes Go.WideShapes Go.ChangeAt Go.RowKit

end Go.Proofs.Ytmnemkeieaflhaa
