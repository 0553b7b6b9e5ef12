/- What a table's nodes tell of the document's list of routes; what changes of both. -/
import Derived.Test.YtfdoofkofljgnaaRtGrow
import Derived.Test.YtfdoofkofljgnaaRtPrune
namespace Go.Proofs.Ytfdoofkofljgnaa
set_option linter.unusedVariables false
set_option linter.unusedSimpArgs false
open Go.ChangeShapes Go.WideShapes Go.ChangeAt Go.RowKit Go.Shelf

structure Tells (M : Net) (r : List Rt) : Prop where
  srt : ∀ k x d, M k x = some d → d.ws.Pairwise fun a b => a.cost < b.cost
  mem : ∀ (k : Nat) x d, M k x = some d → ∀ y, y ∈ d.ws ↔ y ∈ r ∧ y.bits = (k : Int) ∧ y.net = x
  has : ∀ y, y ∈ r → M y.bits.toNat y.net ≠ none

theorem Tells.few {M : Net} {r : List Rt} (h : Tells M r) (hF : Fine r) {k : Nat} {x : Int} {d : Nd} (hd : M k x = some d) : d.ws.length ≤ 65536 := by
  rcases rising_few d.ws 0 (h.srt _ _ _ hd) (fun y hy => by
    have := Rt.good_iff.1 (hF.good y ((h.mem _ _ _ hd y).1 hy).1).1
    omega) with h1 | h1
  · omega
  · rw [h1]; simp
theorem cost_one {ws : List Rt} (hs : ws.Pairwise fun a b => a.cost < b.cost) {y z : Rt} (hy : y ∈ ws) (hz : z ∈ ws) (e : y.cost = z.cost) : y = z := by
  obtain ⟨i, hi, rfl⟩ := List.getElem_of_mem hy
  obtain ⟨j, hj, rfl⟩ := List.getElem_of_mem hz
  rcases Nat.lt_trichotomy i j with h1 | h1 | h1
  · have := List.pairwise_iff_getElem.1 hs i j hi hj h1; omega
  · subst h1; rfl
  · have := List.pairwise_iff_getElem.1 hs j i hj hi h1; omega
theorem cost_at {ws : List Rt} (hs : ws.Pairwise fun a b => a.cost < b.cost) {i j : Nat} (hi : i < ws.length) (hj : j < ws.length) (e : ws[i].cost = ws[j].cost) : i = j := by
  rcases Nat.lt_trichotomy i j with h1 | h1 | h1
  · have := List.pairwise_iff_getElem.1 hs i j hi hj h1; omega
  · exact h1
  · have := List.pairwise_iff_getElem.1 hs j i hj hi h1; omega
theorem Tells.found {M : Net} {r : List Rt} (h : Tells M r) {k : Nat} {x : Int} {d : Nd} (hd : M k x = some d) (c : Int) : foundB d.ws c = decide (placeOf r x (k : Int) c < r.length) := by
  rw [Bool.eq_iff_iff, foundB_iff, decide_eq_true_iff]
  constructor
  · rintro ⟨y, hy, hc⟩
    have := (h.mem _ _ _ hd y).1 hy
    exact placeOf_lt this.1 ⟨this.2.2, this.2.1, hc⟩
  · intro hp
    have := placeOf_at hp
    exact ⟨_, (h.mem _ _ _ hd _).2 ⟨List.getElem_mem hp, this.2.1, this.1⟩, this.2.2⟩
/-- Where there is a route, there is its node. -/
theorem Tells.node {M : Net} {r : List Rt} (h : Tells M r) (hF : Fine r) {x b c : Int} (hp : placeOf r x b c < r.length) : netB x b = true ∧ ∃ d, M b.toNat x = some d := by
  have ha := placeOf_at hp
  have hg := Rt.good_iff.1 (hF.good _ (List.getElem_mem hp)).1
  rw [ha.1, ha.2.1] at hg
  refine ⟨decide_eq_true ⟨hg.1, hg.2.1, hg.2.2.1⟩, ?_⟩
  have := h.has _ (List.getElem_mem hp)
  rw [ha.1, ha.2.1] at this
  exact Option.ne_none_iff_exists'.1 this

theorem Tells.wider {M M' : Net} {r : List Rt} (h : Tells M r) (hF : Fine r) (hw : Wider M M') : Tells M' r := by
  refine ⟨fun k x d hd => ?_, fun k x d hd y => ?_, fun y hy => ?_⟩
  · rcases hw.new _ _ _ hd with h1 | ⟨_, h1⟩
    · exact h.srt _ _ _ h1
    · rw [h1]; exact List.Pairwise.nil
  · rcases hw.new _ _ _ hd with h1 | ⟨h0, h1⟩
    · exact h.mem _ _ _ h1 y
    · rw [h1]
      refine ⟨fun h2 => absurd h2 (by simp), fun ⟨h2, h3, h4⟩ => ?_⟩
      have := h.has y h2
      rw [h3, h4, Int.toNat_natCast] at this
      exact absurd h0 this
  · obtain ⟨d, hd⟩ := Option.ne_none_iff_exists'.1 (h.has y hy)
    rw [hw.keep _ _ _ hd]
    simp
theorem Tells.shrunk {M M' : Net} {r : List Rt} (h : Tells M r) (hF : Fine r) (hw : Shrunk M M') : Tells M' r := by
  refine ⟨fun k x d hd => h.srt _ _ _ (hw.sub _ _ _ hd), fun k x d hd => h.mem _ _ _ (hw.sub _ _ _ hd), fun y hy => ?_⟩
  obtain ⟨d, hd⟩ := Option.ne_none_iff_exists'.1 (h.has y hy)
  have hg := Rt.good_iff.1 (hF.good y hy).1
  rcases hw.gone _ _ _ hd with h1 | h1
  · rw [h1]; simp
  · have := (h.mem _ _ _ hd y).2 ⟨hy, by omega, rfl⟩
    rw [h1] at this
    cases this
theorem Tells.change {M : Net} {r r' : List Rt} (h : Tells M r) {k : Nat} {x : Int} {d : Nd} (hd : M k x = some d) {b : Nat} {v : Value} {ws' : List Rt} (hs : ws'.Pairwise fun a b => a.cost < b.cost)
    (hm : ∀ y, y ∈ ws' ↔ y ∈ r' ∧ y.bits = (k : Int) ∧ y.net = x) (ho : ∀ y, ¬ (y.bits = (k : Int) ∧ y.net = x) → (y ∈ r' ↔ y ∈ r)) (hg : ∀ y, y ∈ r' → 0 ≤ y.bits) : Tells (upd M k x (some ⟨b, v, ws'⟩)) r' := by
  refine ⟨fun k2 x2 d2 hd2 => ?_, fun k2 x2 d2 hd2 y => ?_, fun y hy => ?_⟩
  · by_cases hk : k2 = k ∧ x2 = x
    · obtain ⟨rfl, rfl⟩ := hk
      rw [upd_same] at hd2
      cases hd2
      exact hs
    · rw [upd_other _ _ _ _ hk] at hd2
      exact h.srt _ _ _ hd2
  · by_cases hk : k2 = k ∧ x2 = x
    · obtain ⟨rfl, rfl⟩ := hk
      rw [upd_same] at hd2
      cases hd2
      exact hm y
    · rw [upd_other _ _ _ _ hk] at hd2
      rw [h.mem _ _ _ hd2 y]
      constructor
      · rintro ⟨h1, h2, h3⟩
        exact ⟨(ho y fun ⟨h4, h5⟩ => hk ⟨by omega, by rw [← h3, h5]⟩).2 h1, h2, h3⟩
      · rintro ⟨h1, h2, h3⟩
        exact ⟨(ho y fun ⟨h4, h5⟩ => hk ⟨by omega, by rw [← h3, h5]⟩).1 h1, h2, h3⟩
  · by_cases hk : y.bits.toNat = k ∧ y.net = x
    · rw [hk.1, hk.2, upd_same]; simp
    · rw [upd_other _ _ _ _ hk]
      have h0 := hg y hy
      exact h.has y ((ho y fun ⟨h4, h5⟩ => hk ⟨by omega, h5⟩).1 hy)
theorem mem_set_cost {ws : List Rt} (hs : ws.Pairwise fun a b => a.cost < b.cost) {p : Nat} (hp : p < ws.length) {x : Rt} (hc : ws[p].cost = x.cost) (y : Rt) : y ∈ ws.set p x ↔ y = x ∨ (y ∈ ws ∧ ¬ y.cost = x.cost) := by
  constructor
  · intro hy
    obtain ⟨j, hj, rfl⟩ := List.getElem_of_mem hy
    rw [List.length_set] at hj
    rw [List.getElem_set]
    by_cases hij : p = j
    · rw [if_pos hij]; exact .inl rfl
    · rw [if_neg hij]
      exact .inr ⟨List.getElem_mem hj, fun e => hij (cost_at hs hp hj (hc.trans e.symm))⟩
  · rintro (rfl | ⟨hy, hk⟩)
    · exact List.mem_set hp _
    · obtain ⟨j, hj, rfl⟩ := List.getElem_of_mem hy
      have hij : p ≠ j := fun e => by subst e; exact hk hc
      have : (ws.set p x)[j]'(by simpa using hj) = ws[j] := by rw [List.getElem_set, if_neg hij]
      rw [← this]
      exact List.getElem_mem _
theorem set_sorted {ws : List Rt} (hs : ws.Pairwise fun a b => a.cost < b.cost) {p : Nat} (hp : p < ws.length) {x : Rt} (hc : ws[p].cost = x.cost) : (ws.set p x).Pairwise fun a b => a.cost < b.cost := by
  rw [List.pairwise_iff_getElem]
  intro i j hi hj hij
  rw [List.length_set] at hi hj
  have := List.pairwise_iff_getElem.1 hs i j hi hj hij
  rw [List.getElem_set, List.getElem_set]
  by_cases h1 : p = i
  · subst h1
    rw [if_pos rfl, if_neg (by omega)]
    omega
  · rw [if_neg h1]
    by_cases h2 : p = j
    · subst h2
      rw [if_pos rfl]
      omega
    · rw [if_neg h2]; exact this
theorem Tells.set {M : Net} {r : List Rt} (h : Tells M r) (hF : Fine r) {k : Nat} {x : Rt} (hxg : x.good = true) (hk : x.bits = (k : Int)) {d : Nd} (hd : M k x.net = some d) (hp : placeOf r x.net x.bits x.cost < r.length) {p : Nat} (hpl : p < d.ws.length) (hpc : d.ws[p].cost = x.cost) (b : Nat) (v : Value) :
    Tells (upd M k x.net (some ⟨b, v, d.ws.set p x⟩)) (r.set (placeOf r x.net x.bits x.cost) x) := by
  have hs := h.srt _ _ _ hd
  refine h.change hd (set_sorted hs hpl hpc) (fun y => ?_) (fun y hy => ?_) (fun y hy => ?_)
  · rw [mem_set_cost hs hpl hpc, mem_set_key hF hp, h.mem _ _ _ hd]
    constructor
    · rintro (rfl | ⟨⟨h1, h2, h3⟩, h4⟩)
      · exact ⟨.inl rfl, hk, rfl⟩
      · exact ⟨.inr ⟨h1, fun h5 => h4 h5.2.2⟩, h2, h3⟩
    · rintro ⟨rfl | ⟨h1, h4⟩, h2, h3⟩
      · exact .inl rfl
      · exact .inr ⟨⟨h1, h2, h3⟩, fun h5 => h4 ⟨h3, by rw [h2, hk], h5⟩⟩
  · rw [mem_set_key hF hp]
    constructor
    · rintro (rfl | ⟨h1, _⟩)
      · exact absurd ⟨hk, rfl⟩ hy
      · exact h1
    · intro h1
      exact .inr ⟨h1, fun h5 => hy ⟨by rw [h5.2.1, hk], h5.1⟩⟩
  · rcases (mem_set_key hF hp y).1 hy with rfl | h1
    · omega
    · have := Rt.good_iff.1 (hF.good y h1.1).1; omega
theorem Tells.add {M : Net} {r : List Rt} (h : Tells M r) (hF : Fine r) {k : Nat} {x : Rt} (hxg : x.good = true) (hk : x.bits = (k : Int)) {d : Nd} (hd : M k x.net = some d) (hp : ¬ placeOf r x.net x.bits x.cost < r.length) {ws' : List Rt}
    (hperm : ws'.Perm (d.ws ++ [x])) (hsrt : ws'.Pairwise fun a b => a.cost ≤ b.cost) (b : Nat) (v : Value) : Tells (upd M k x.net (some ⟨b, v, ws'⟩)) (r ++ [x]) := by
  have hs := h.srt _ _ _ hd
  have hno := placeOf_none hp
  have hne : (d.ws ++ [x]).Pairwise fun a b => a.cost ≠ b.cost := by
    rw [List.pairwise_append]
    refine ⟨hs.imp fun h => by omega, List.pairwise_singleton _ _, fun a ha b hb => ?_⟩
    obtain rfl := List.mem_singleton.1 hb
    have h2 := (h.mem _ _ _ hd a).1 ha
    exact fun e => hno a h2.1 ⟨h2.2.2, by rw [h2.2.1, hk], e⟩
  have hne' : ws'.Pairwise fun a b => a.cost ≠ b.cost := (hperm.pairwise_iff (fun {a b} h => Ne.symm h)).2 hne
  refine h.change hd ((hsrt.and hne').imp fun ⟨h1, h2⟩ => by omega) (fun y => ?_) (fun y hy => ?_) (fun y hy => ?_)
  · rw [hperm.mem_iff, List.mem_append, h.mem _ _ _ hd, List.mem_append, List.mem_singleton]
    constructor
    · rintro (⟨h1, h2, h3⟩ | rfl)
      · exact ⟨.inl h1, h2, h3⟩
      · exact ⟨.inr rfl, hk, rfl⟩
    · rintro ⟨h1 | rfl, h2, h3⟩
      · exact .inl ⟨h1, h2, h3⟩
      · exact .inr rfl
  · rw [List.mem_append, List.mem_singleton]
    constructor
    · rintro (h1 | rfl)
      · exact h1
      · exact absurd ⟨hk, rfl⟩ hy
    · exact .inl
  · rcases List.mem_append.1 hy with h1 | h1
    · have := Rt.good_iff.1 (hF.good y h1).1; omega
    · obtain rfl := List.mem_singleton.1 h1
      omega
theorem Tells.rem {M : Net} {r : List Rt} (h : Tells M r) (hF : Fine r) {k : Nat} {x c : Int} {d : Nd} (hd : M k x = some d) (hp : placeOf r x (k : Int) c < r.length) {p : Nat} (hpl : p < d.ws.length) (hpc : d.ws[p].cost = c) (b : Nat) (v : Value) :
    Tells (upd M k x (some ⟨b, v, d.ws.eraseIdx p⟩)) (r.eraseIdx (placeOf r x (k : Int) c)) := by
  have hs := h.srt _ _ _ hd
  have hme : ∀ y, y ∈ d.ws.eraseIdx p ↔ y ∈ d.ws ∧ ¬ y.cost = c := by
    intro y
    rw [List.mem_eraseIdx_iff_getElem]
    constructor
    · rintro ⟨j, hj, hij, rfl⟩
      exact ⟨List.getElem_mem hj, fun e => hij (cost_at hs hj hpl (by rw [e, hpc]))⟩
    · rintro ⟨hy, hk⟩
      obtain ⟨j, hj, rfl⟩ := List.getElem_of_mem hy
      exact ⟨j, hj, fun e => by subst e; exact hk hpc, rfl⟩
  refine h.change hd (List.Pairwise.sublist (List.eraseIdx_sublist _ _) hs) (fun y => ?_) (fun y hy => ?_) (fun y hy => ?_)
  · rw [hme, mem_erase_key hF hp, h.mem _ _ _ hd]
    constructor
    · rintro ⟨⟨h1, h2, h3⟩, h4⟩
      exact ⟨⟨h1, fun h5 => h4 h5.2.2⟩, h2, h3⟩
    · rintro ⟨⟨h1, h4⟩, h2, h3⟩
      exact ⟨⟨h1, h2, h3⟩, fun h5 => h4 ⟨h3, h2, h5⟩⟩
  · rw [mem_erase_key hF hp]
    exact ⟨fun h1 => h1.1, fun h1 => ⟨h1, fun h5 => hy ⟨h5.2.1, h5.1⟩⟩⟩
  · have := Rt.good_iff.1 (hF.good y ((mem_erase_key hF hp y).1 hy).1).1; omega

set_option maxHeartbeats 400000 in
/-- search, held against the document's list. -/
theorem search_any (w : World) (base tb : Nat) (n : Int) (M : Net) (role : Nat → Role) (h : Trie w base tb n M role) (r : List Rt) (hM : Tells M r) (hF : Fine r) (x b c : Int) (hx : 0 ≤ x ∧ x ≤ 4294967295) :
    Calls Try.prog 31 #[.pointer (some ⟨tb, 0, none⟩), .int .u32 x, .int .i64 b, .int .i64 c] w fun e w' => ((placeOf r x b c < r.length ∧ ∃ (k : Nat) (d : Nd) (p : Nat), b = (k : Int) ∧ M k x = some d ∧ (∃ hp : p < d.ws.length, d.ws[p].cost = c) ∧ e = .returned (.tuple #[.pointer (some ⟨d.blk, 0, none⟩), .int .i64 (p : Int)])) ∨
      (¬ placeOf r x b c < r.length ∧ e = .returned (.tuple #[.pointer none, .int .i64 0]))) ∧ Grow w w' := by
  by_cases hp : placeOf r x b c < r.length
  · obtain ⟨hN, d, hd⟩ := hM.node hF hp
    have hN' : 0 ≤ b ∧ b ≤ 32 ∧ netOf x b = x := of_decide_eq_true hN
    have hbk : b = (b.toNat : Int) := by omega
    have hf := hM.found hd c
    rw [← hbk, decide_eq_true hp] at hf
    refine (search_yes w base tb n M role h x b c hx hN d hd (hM.srt _ _ _ hd) (by have := hM.few hF hd; omega) hf).mono ?_
    rintro e w' ⟨⟨p, hp2, rfl⟩, hg⟩
    exact ⟨.inl ⟨hp, b.toNat, d, p, hbk, hd, hp2, rfl⟩, hg⟩
  · refine (search_no w base tb n M role h x b c hx fun hN d hd => ⟨hM.srt _ _ _ hd, by have := hM.few hF hd; omega, ?_⟩).mono ?_
    · have hN' : 0 ≤ b ∧ b ≤ 32 ∧ netOf x b = x := of_decide_eq_true hN
      have hbk : b = (b.toNat : Int) := by omega
      have hf := hM.found hd c
      rw [← hbk, decide_eq_false hp] at hf
      exact hf
    · rintro e w' ⟨rfl, hg⟩
      exact ⟨.inr ⟨hp, rfl⟩, hg⟩
end Go.Proofs.Ytfdoofkofljgnaa
