/- Routes as values, and the document's answers of layer 10 as functions on lists. -/
import Derived.Test.YtfdoofkofljgnaaAddrBits
namespace Go.Proofs.Ytfdoofkofljgnaa
set_option linter.unusedVariables false
set_option linter.unusedSimpArgs false

structure Rt where
  net : Int
  bits : Int
  via : Int
  iface : Int
  cost : Int
instance : Inhabited Rt := ⟨⟨0, 0, 0, 0, 0⟩⟩

structure Rt.Ok (r : Rt) : Prop where
  n0 : 0 ≤ r.net
  n1 : r.net ≤ 4294967295
  b0 : -9223372036854775808 ≤ r.bits
  b1 : r.bits ≤ 9223372036854775807
  v0 : 0 ≤ r.via
  v1 : r.via ≤ 4294967295
  i0 : -9223372036854775808 ≤ r.iface
  i1 : r.iface ≤ 9223372036854775807
  c0 : -9223372036854775808 ≤ r.cost
  c1 : r.cost ≤ 9223372036854775807

/-- The five cells of a route. -/
def rc (r : Rt) : List Value := [.int .u32 r.net, .int .i64 r.bits, .int .u32 r.via, .int .i64 r.iface, .int .i64 r.cost]
def rtV (r : Rt) : Value := .agg #[.int .u32 r.net, .int .i64 r.bits, .int .u32 r.via, .int .i64 r.iface, .int .i64 r.cost]
/-- Routes, cell by cell. -/
def cells5 (l : List Rt) : List Value := l.flatMap rc
theorem cells5_length (l : List Rt) : (cells5 l).length = l.length * 5 := by
  unfold cells5
  induction l with
  | nil => rfl
  | cons p r ih => simp only [List.flatMap_cons, List.length_append, ih, List.length_cons]; simp [rc]; omega
theorem cells5_append (l m : List Rt) : cells5 (l ++ m) = cells5 l ++ cells5 m := by simp [cells5]
theorem cells5_one (l : List Rt) : ∀ y ∈ cells5 l, y.oneCell' = true := by
  intro y hy
  unfold cells5 at hy
  obtain ⟨p, _, hp⟩ := List.mem_flatMap.1 hy
  simp [rc] at hp
  rcases hp with rfl | rfl | rfl | rfl | rfl <;> rfl
theorem cells5_at : ∀ (l : List Rt) (j : Nat) (h : j < l.length), (cells5 l)[j * 5]? = some (.int .u32 l[j].net) ∧ (cells5 l)[j * 5 + 1]? = some (.int .i64 l[j].bits) ∧ (cells5 l)[j * 5 + 2]? = some (.int .u32 l[j].via) ∧
    (cells5 l)[j * 5 + 3]? = some (.int .i64 l[j].iface) ∧ (cells5 l)[j * 5 + 4]? = some (.int .i64 l[j].cost)
  | [], _, h => absurd h (by simp)
  | p :: r, 0, _ => by simp [cells5, rc]
  | p :: r, j + 1, h => by
    have ih := cells5_at r j (by simpa using h)
    have e : cells5 (p :: r) = .int .u32 p.net :: .int .i64 p.bits :: .int .u32 p.via :: .int .i64 p.iface :: .int .i64 p.cost :: cells5 r := by simp [cells5, rc]
    rw [e, show (j + 1) * 5 = j * 5 + 1 + 1 + 1 + 1 + 1 from by omega]
    simpa [Nat.add_assoc] using ih
theorem cells5_take (l : List Rt) (k : Nat) : (cells5 l).take (k * 5) = cells5 (l.take k) := by
  induction l generalizing k with
  | nil => simp [cells5]
  | cons p r ih =>
    cases k with
    | zero => simp [cells5]
    | succ k =>
      have e : cells5 (p :: r) = .int .u32 p.net :: .int .i64 p.bits :: .int .u32 p.via :: .int .i64 p.iface :: .int .i64 p.cost :: cells5 r := by simp [cells5, rc]
      have e2 : cells5 ((p :: r).take (k + 1)) = .int .u32 p.net :: .int .i64 p.bits :: .int .u32 p.via :: .int .i64 p.iface :: .int .i64 p.cost :: cells5 (r.take k) := by simp [cells5, rc]
      rw [e, e2, show (k + 1) * 5 = k * 5 + 1 + 1 + 1 + 1 + 1 from by omega]
      simp [ih]

/-- Is it the route with this Net, Bits and Cost? -/
def Rt.at (r : Rt) (n b c : Int) : Bool := r.net == n && r.bits == b && r.cost == c
theorem Rt.at_iff {r : Rt} {n b c : Int} : r.at n b c = true ↔ r.net = n ∧ r.bits = b ∧ r.cost = c := by
  unfold Rt.at; simp [and_assoc]
def placeOf (l : List Rt) (n b c : Int) : Nat := l.findIdx fun r => r.at n b c
theorem placeOf_le (l : List Rt) (n b c : Int) : placeOf l n b c ≤ l.length := List.findIdx_le_length
/-- May it be a route? -/
def Rt.good (r : Rt) : Bool := decide (0 ≤ r.bits ∧ r.bits ≤ 32 ∧ netOf r.net r.bits = r.net ∧ 0 ≤ r.iface ∧ r.iface ≤ 15 ∧ 0 ≤ r.cost ∧ r.cost ≤ 65535)
theorem Rt.good_iff {r : Rt} : r.good = true ↔ (0 ≤ r.bits ∧ r.bits ≤ 32 ∧ netOf r.net r.bits = r.net ∧ 0 ≤ r.iface ∧ r.iface ≤ 15 ∧ 0 ≤ r.cost ∧ r.cost ≤ 65535) := by
  unfold Rt.good; exact decide_eq_true_iff
theorem Rt.good_not {r : Rt} : r.good = false ↔ ¬ (0 ≤ r.bits ∧ r.bits ≤ 32 ∧ netOf r.net r.bits = r.net ∧ 0 ≤ r.iface ∧ r.iface ≤ 15 ∧ 0 ≤ r.cost ∧ r.cost ≤ 65535) := by
  unfold Rt.good; exact decide_eq_false_iff_not
def raddL (l : List Rt) (r : Rt) : List Rt :=
  if r.good = true then (if placeOf l r.net r.bits r.cost < l.length then l.set (placeOf l r.net r.bits r.cost) r else if 64 ≤ l.length then l else l ++ [r]) else l
def raddE (l : List Rt) (r : Rt) : Int :=
  if r.good = true then (if placeOf l r.net r.bits r.cost < l.length then 0 else if 64 ≤ l.length then 5 else 0) else 1
def rremL (l : List Rt) (n b c : Int) : List Rt := if placeOf l n b c < l.length then l.eraseIdx (placeOf l n b c) else l
def rremE (l : List Rt) (n b c : Int) : Int := if placeOf l n b c < l.length then 0 else 6

/-- The routes of a table, as the document tells them. -/
structure Fine (r : List Rt) : Prop where
  good : ∀ y ∈ r, y.good = true ∧ y.Ok
  key : r.Pairwise fun a b => ¬ (a.net = b.net ∧ a.bits = b.bits ∧ a.cost = b.cost)
  len : r.length ≤ 64
theorem Fine.nil : Fine [] := ⟨by simp, List.Pairwise.nil, by simp⟩
theorem placeOf_none {l : List Rt} {n b c : Int} (h : ¬ placeOf l n b c < l.length) : ∀ y ∈ l, ¬ (y.net = n ∧ y.bits = b ∧ y.cost = c) := by
  intro y hy hk
  have := List.findIdx_lt_length_of_exists (p := fun r : Rt => r.at n b c) ⟨y, hy, Rt.at_iff.2 hk⟩
  exact h this
theorem placeOf_at {l : List Rt} {n b c : Int} (h : placeOf l n b c < l.length) : (l[placeOf l n b c]).net = n ∧ (l[placeOf l n b c]).bits = b ∧ (l[placeOf l n b c]).cost = c := by
  have := List.findIdx_getElem (p := fun r : Rt => r.at n b c) (xs := l) (w := h)
  exact Rt.at_iff.1 this
theorem placeOf_lt {l : List Rt} {n b c : Int} {y : Rt} (hy : y ∈ l) (hk : y.net = n ∧ y.bits = b ∧ y.cost = c) : placeOf l n b c < l.length :=
  List.findIdx_lt_length_of_exists (p := fun r : Rt => r.at n b c) ⟨y, hy, Rt.at_iff.2 hk⟩
theorem Fine.same {l : List Rt} (h : Fine l) {a b : Rt} (ha : a ∈ l) (hb : b ∈ l) (hk : a.net = b.net ∧ a.bits = b.bits ∧ a.cost = b.cost) : a = b := by
  obtain ⟨i, hi, rfl⟩ := List.getElem_of_mem ha
  obtain ⟨j, hj, rfl⟩ := List.getElem_of_mem hb
  rcases Nat.lt_trichotomy i j with h1 | h1 | h1
  · exact absurd hk (List.pairwise_iff_getElem.1 h.key i j hi hj h1)
  · subst h1; rfl
  · exact absurd ⟨hk.1.symm, hk.2.1.symm, hk.2.2.symm⟩ (List.pairwise_iff_getElem.1 h.key j i hj hi h1)
/-- Who is in the list behind a route was added at a place. -/
theorem mem_set_key {l : List Rt} (h : Fine l) {r : Rt} (hp : placeOf l r.net r.bits r.cost < l.length) (y : Rt) :
    y ∈ l.set (placeOf l r.net r.bits r.cost) r ↔ y = r ∨ (y ∈ l ∧ ¬ (y.net = r.net ∧ y.bits = r.bits ∧ y.cost = r.cost)) := by
  have ha := placeOf_at hp
  generalize hg : placeOf l r.net r.bits r.cost = i at *
  constructor
  · intro hy
    obtain ⟨j, hj, rfl⟩ := List.getElem_of_mem hy
    rw [List.length_set] at hj
    rw [List.getElem_set]
    by_cases hij : i = j
    · rw [if_pos hij]; exact .inl rfl
    · rw [if_neg hij]
      refine .inr ⟨List.getElem_mem hj, fun hk => ?_⟩
      rcases Nat.lt_trichotomy i j with h1 | h1 | h1
      · exact List.pairwise_iff_getElem.1 h.key i j hp hj h1 ⟨ha.1.trans hk.1.symm, ha.2.1.trans hk.2.1.symm, ha.2.2.trans hk.2.2.symm⟩
      · exact hij h1
      · exact List.pairwise_iff_getElem.1 h.key j i hj hp h1 ⟨hk.1.trans ha.1.symm, hk.2.1.trans ha.2.1.symm, hk.2.2.trans ha.2.2.symm⟩
  · rintro (rfl | ⟨hy, hk⟩)
    · exact List.mem_set hp _
    · obtain ⟨j, hj, rfl⟩ := List.getElem_of_mem hy
      have hij : i ≠ j := fun e => by subst e; exact hk ha
      have : (l.set i r)[j]'(by simpa using hj) = l[j] := by rw [List.getElem_set, if_neg hij]
      rw [← this]
      exact List.getElem_mem _
theorem mem_erase_key {l : List Rt} (h : Fine l) {n b c : Int} (hp : placeOf l n b c < l.length) (y : Rt) :
    y ∈ l.eraseIdx (placeOf l n b c) ↔ (y ∈ l ∧ ¬ (y.net = n ∧ y.bits = b ∧ y.cost = c)) := by
  have ha := placeOf_at hp
  generalize hg : placeOf l n b c = i at *
  rw [List.mem_eraseIdx_iff_getElem]
  constructor
  · rintro ⟨j, hj, hij, rfl⟩
    refine ⟨List.getElem_mem hj, fun hk => ?_⟩
    rcases Nat.lt_trichotomy i j with h1 | h1 | h1
    · exact List.pairwise_iff_getElem.1 h.key i j hp hj h1 ⟨ha.1.trans hk.1.symm, ha.2.1.trans hk.2.1.symm, ha.2.2.trans hk.2.2.symm⟩
    · exact hij h1.symm
    · exact List.pairwise_iff_getElem.1 h.key j i hj hp h1 ⟨hk.1.trans ha.1.symm, hk.2.1.trans ha.2.1.symm, hk.2.2.trans ha.2.2.symm⟩
  · rintro ⟨hy, hk⟩
    obtain ⟨j, hj, rfl⟩ := List.getElem_of_mem hy
    exact ⟨j, hj, fun e => by subst e; exact hk ha, rfl⟩
theorem Fine.rem {l : List Rt} (h : Fine l) (n b c : Int) : Fine (rremL l n b c) := by
  unfold rremL
  split
  · exact ⟨fun y hy => h.good y (List.mem_of_mem_eraseIdx hy), List.Pairwise.sublist (List.eraseIdx_sublist _ _) h.key, Nat.le_trans (List.length_eraseIdx_le _ _) h.len⟩
  · exact h
theorem Fine.add {l : List Rt} (h : Fine l) {r : Rt} (hr : r.Ok) : Fine (raddL l r) := by
  unfold raddL
  split
  · rename_i hg
    split
    · rename_i hp
      refine ⟨fun y hy => ?_, ?_, by rw [List.length_set]; exact h.len⟩
      · rcases (mem_set_key h hp y).1 hy with rfl | h1
        · exact ⟨hg, hr⟩
        · exact h.good y h1.1
      · rw [List.pairwise_iff_getElem]
        intro i j hi hj hij
        rw [List.length_set] at hi hj
        have ha := placeOf_at hp
        have base := List.pairwise_iff_getElem.1 h.key i j hi hj hij
        rw [List.getElem_set, List.getElem_set]
        generalize placeOf l r.net r.bits r.cost = p at *
        by_cases h1 : p = i
        · subst h1
          rw [if_pos rfl, if_neg (by omega)]
          rw [ha.1, ha.2.1, ha.2.2] at base
          exact base
        · rw [if_neg h1]
          by_cases h2 : p = j
          · subst h2
            rw [if_pos rfl]
            rw [ha.1, ha.2.1, ha.2.2] at base
            exact base
          · rw [if_neg h2]; exact base
    · rename_i hp
      split
      · exact h
      · rename_i h64
        refine ⟨fun y hy => ?_, ?_, by simp; omega⟩
        · rcases List.mem_append.1 hy with h1 | h1
          · exact h.good y h1
          · obtain rfl := List.mem_singleton.1 h1
            exact ⟨hg, hr⟩
        · rw [List.pairwise_append]
          refine ⟨h.key, List.pairwise_singleton _ _, fun a ha b hb => ?_⟩
          obtain rfl := List.mem_singleton.1 hb
          exact placeOf_none hp a ha
  · exact h

/-! Orders. -/
def narrowB (a b : Rt) : Bool := decide (b.bits < a.bits) || (a.bits == b.bits && decide (a.cost < b.cost))
def risesB (a b : Rt) : Bool := if a.net = b.net then decide (a.bits < b.bits) || (a.bits == b.bits && decide (a.cost < b.cost)) else decide (a.net < b.net)
theorem narrow_iff {a b : Rt} : narrowB a b = true ↔ b.bits < a.bits ∨ (a.bits = b.bits ∧ a.cost < b.cost) := by unfold narrowB; simp
theorem rises_iff {a b : Rt} : risesB a b = true ↔ a.net < b.net ∨ (a.net = b.net ∧ (a.bits < b.bits ∨ (a.bits = b.bits ∧ a.cost < b.cost))) := by
  unfold risesB
  by_cases h : a.net = b.net
  · simp [h]
  · simp [h]
def insBy (p : Rt → Rt → Bool) : List Rt → Rt → List Rt
  | [], x => [x]
  | y :: l, x => if p y x = true then y :: insBy p l x else x :: y :: l
theorem insBy_at (p : Rt → Rt → Bool) (x : Rt) : ∀ (l : List Rt) (k : Nat), k ≤ l.length → (∀ j (h : j < l.length), j < k → p l[j] x = true) → (∀ h : k < l.length, p l[k] x = false) → insBy p l x = l.take k ++ x :: l.drop k
  | [], k, hk, _, _ => by simp [insBy]
  | y :: l, 0, _, _, h2 => by
    have := h2 (by simp)
    simp only [List.getElem_cons_zero] at this
    simp [insBy, this]
  | y :: l, k + 1, hk, h1, h2 => by
    have h0 := h1 0 (by simp) (by omega)
    simp only [List.getElem_cons_zero] at h0
    have ih := insBy_at p x l k (by simpa using hk) (fun j h hj => by have := h1 (j + 1) (by simpa using h) (by omega); simpa using this) (fun h => by have := h2 (by simpa using h); simpa using this)
    simp [insBy, h0, ih]
theorem mem_insBy {p : Rt → Rt → Bool} {x y : Rt} : ∀ {l : List Rt}, y ∈ insBy p l x ↔ y = x ∨ y ∈ l
  | [] => by simp [insBy]
  | z :: l => by
    unfold insBy
    split
    · rw [List.mem_cons, mem_insBy, List.mem_cons]
      constructor
      · rintro (h | h | h)
        · exact .inr (.inl h)
        · exact .inl h
        · exact .inr (.inr h)
      · rintro (h | h | h)
        · exact .inr (.inl h)
        · exact .inl h
        · exact .inr (.inr h)
    · rw [List.mem_cons]
theorem length_insBy {p : Rt → Rt → Bool} {x : Rt} : ∀ {l : List Rt}, (insBy p l x).length = l.length + 1
  | [] => rfl
  | z :: l => by
    unfold insBy
    split
    · rw [List.length_cons, length_insBy, List.length_cons]
    · rfl
theorem insBy_sorted {p : Rt → Rt → Bool} (tr : ∀ a b c, p a b = true → p b c = true → p a c = true) {x : Rt} : ∀ {l : List Rt}, l.Pairwise (fun a b => p a b = true) → (∀ y ∈ l, p y x = true ∨ p x y = true) → (insBy p l x).Pairwise fun a b => p a b = true
  | [], _, _ => List.pairwise_singleton _ _
  | z :: l, h, ht => by
    have hz := List.pairwise_cons.1 h
    unfold insBy
    split
    · rename_i hzx
      refine List.pairwise_cons.2 ⟨fun y hy => ?_, insBy_sorted tr hz.2 fun y hy => ht y (List.mem_cons_of_mem _ hy)⟩
      rcases mem_insBy.1 hy with rfl | h'
      · exact hzx
      · exact hz.1 y h'
    · rename_i hzx
      have hx : p x z = true := (ht z List.mem_cons_self).resolve_left hzx
      refine List.pairwise_cons.2 ⟨fun y hy => ?_, h⟩
      rcases List.mem_cons.1 hy with rfl | h'
      · exact hx
      · exact tr _ _ _ hx (hz.1 y h')
def insAll (p : Rt → Rt → Bool) (l : List Rt) : List Rt := l.foldl (insBy p) []
theorem sorted_ext {p : Rt → Rt → Bool} (irr : ∀ a, p a a = false) (tr : ∀ a b c, p a b = true → p b c = true → p a c = true) : ∀ {l m : List Rt}, l.Pairwise (fun a b => p a b = true) → m.Pairwise (fun a b => p a b = true) → (∀ x, x ∈ l ↔ x ∈ m) → l = m
  | [], [], _, _, _ => rfl
  | [], b :: m, _, _, h => absurd ((h b).2 List.mem_cons_self) (by simp)
  | a :: l, [], _, _, h => absurd ((h a).1 List.mem_cons_self) (by simp)
  | a :: l, b :: m, hl, hm, h => by
    have hl' := List.pairwise_cons.1 hl
    have hm' := List.pairwise_cons.1 hm
    have hab : a = b := by
      rcases List.mem_cons.1 ((h a).1 List.mem_cons_self) with e | h1
      · exact e
      · rcases List.mem_cons.1 ((h b).2 List.mem_cons_self) with e | h2
        · exact e.symm
        · have := tr _ _ _ (hl'.1 b h2) (hm'.1 a h1)
          rw [irr] at this
          cases this
    subst hab
    have ht : l = m := sorted_ext irr tr hl'.2 hm'.2 fun x => by
      constructor
      · intro hx
        rcases List.mem_cons.1 ((h x).1 (List.mem_cons_of_mem _ hx)) with e | h1
        · subst e
          have := hl'.1 x hx
          rw [irr] at this
          cases this
        · exact h1
      · intro hx
        rcases List.mem_cons.1 ((h x).2 (List.mem_cons_of_mem _ hx)) with e | h1
        · subst e
          have := hm'.1 x hx
          rw [irr] at this
          cases this
        · exact h1
    rw [ht]
theorem insAll_snoc (p : Rt → Rt → Bool) (l : List Rt) (x : Rt) : insAll p (l ++ [x]) = insBy p (insAll p l) x := by simp [insAll]
theorem mem_insAll_go (p : Rt → Rt → Bool) (x : Rt) : ∀ (l out : List Rt), x ∈ l.foldl (insBy p) out ↔ x ∈ l ∨ x ∈ out
  | [], out => by simp
  | y :: l, out => by
    rw [List.foldl_cons, mem_insAll_go p x l, mem_insBy, List.mem_cons]
    constructor
    · rintro (h | h | h)
      · exact .inl (.inr h)
      · exact .inl (.inl h)
      · exact .inr h
    · rintro ((h | h) | h)
      · exact .inr (.inl h)
      · exact .inl h
      · exact .inr (.inr h)
theorem mem_insAll {p : Rt → Rt → Bool} {x : Rt} {l : List Rt} : x ∈ insAll p l ↔ x ∈ l := by
  unfold insAll; rw [mem_insAll_go]; simp
theorem length_insAll_go (p : Rt → Rt → Bool) : ∀ (l out : List Rt), (l.foldl (insBy p) out).length = l.length + out.length
  | [], out => by simp
  | y :: l, out => by rw [List.foldl_cons, length_insAll_go p l, length_insBy, List.length_cons]; omega
theorem length_insAll (p : Rt → Rt → Bool) (l : List Rt) : (insAll p l).length = l.length := by unfold insAll; rw [length_insAll_go]; simp
theorem insAll_go_sorted {p : Rt → Rt → Bool} (tr : ∀ a b c, p a b = true → p b c = true → p a c = true) : ∀ (l out : List Rt), l.Pairwise (fun a b => p a b = true ∨ p b a = true) → (∀ a ∈ out, ∀ b ∈ l, p a b = true ∨ p b a = true) → out.Pairwise (fun a b => p a b = true) → (l.foldl (insBy p) out).Pairwise fun a b => p a b = true
  | [], out, _, _, h => h
  | y :: l, out, hl, ho, h => by
    have hl' := List.pairwise_cons.1 hl
    refine insAll_go_sorted tr l _ hl'.2 (fun a ha b hb => ?_) (insBy_sorted tr h fun z hz => ho z hz y List.mem_cons_self)
    rcases mem_insBy.1 ha with rfl | h1
    · exact hl'.1 b hb
    · exact ho a h1 b (List.mem_cons_of_mem _ hb)
theorem insAll_eq {p : Rt → Rt → Bool} (irr : ∀ a, p a a = false) (tr : ∀ a b c, p a b = true → p b c = true → p a c = true) {l m : List Rt} (hl : l.Pairwise fun a b => p a b = true ∨ p b a = true)
    (hm : m.Pairwise fun a b => p a b = true) (h : ∀ x, x ∈ m ↔ x ∈ l) : m = insAll p l :=
  sorted_ext irr tr hm (insAll_go_sorted tr l [] hl (by simp) List.Pairwise.nil) fun x => (h x).trans mem_insAll.symm
theorem narrow_irr (a : Rt) : narrowB a a = false := by rw [Bool.eq_false_iff]; intro h; rw [narrow_iff] at h; omega
theorem narrow_tr (a b c : Rt) (h1 : narrowB a b = true) (h2 : narrowB b c = true) : narrowB a c = true := by rw [narrow_iff] at *; omega
theorem rises_irr (a : Rt) : risesB a a = false := by rw [Bool.eq_false_iff]; intro h; rw [rises_iff] at h; omega
theorem rises_tr (a b c : Rt) (h1 : risesB a b = true) (h2 : risesB b c = true) : risesB a c = true := by rw [rises_iff] at *; omega
/-- The routes to an address. -/
def to_ (l : List Rt) (a : Int) : List Rt := l.filter fun r => netOf a r.bits == r.net
def rwaysL (l : List Rt) (a : Int) : List Rt := insAll narrowB (to_ l a)
def rallL (l : List Rt) : List Rt := insAll risesB l
theorem mem_to {l : List Rt} {a : Int} {y : Rt} : y ∈ to_ l a ↔ y ∈ l ∧ netOf a y.bits = y.net := by unfold to_; simp
theorem Fine.all_eq {l m : List Rt} (h : Fine l) (hm : m.Pairwise fun a b => risesB a b = true) (hx : ∀ x, x ∈ m ↔ x ∈ l) : m = rallL l :=
  insAll_eq rises_irr rises_tr (h.key.imp fun {a b} hk => by rw [rises_iff, rises_iff]; omega) hm hx
theorem Fine.ways_eq {l m : List Rt} (h : Fine l) {a : Int} (hm : m.Pairwise fun a b => narrowB a b = true) (hx : ∀ x, x ∈ m ↔ x ∈ l ∧ netOf a x.bits = x.net) : m = rwaysL l a := by
  refine insAll_eq narrow_irr narrow_tr ?_ hm fun x => (hx x).trans mem_to.symm
  have h1 : (to_ l a).Pairwise fun a b => ¬ (a.net = b.net ∧ a.bits = b.bits ∧ a.cost = b.cost) := List.Pairwise.sublist List.filter_sublist h.key
  rw [List.pairwise_iff_forall_sublist] at h1 ⊢
  intro x y hs
  have h2 := h1 hs
  have hx' := mem_to.1 (hs.subset List.mem_cons_self)
  have hy' := mem_to.1 (hs.subset (List.mem_cons_of_mem _ List.mem_cons_self))
  rw [narrow_iff, narrow_iff]
  by_cases hb : x.bits = y.bits
  · have : x.net = y.net := by rw [← hx'.2, ← hy'.2, hb]
    omega
  · omega
/-- Rising numbers between two ends are not many. -/
theorem rising_few : ∀ (l : List Rt) (lo : Int), l.Pairwise (fun a b => a.cost < b.cost) → (∀ y ∈ l, lo ≤ y.cost ∧ y.cost ≤ 65535) → (l.length : Int) ≤ 65536 - lo ∨ l = []
  | [], _, _, _ => .inr rfl
  | y :: l, lo, h, hb => by
    have hy := hb y List.mem_cons_self
    have h' := List.pairwise_cons.1 h
    have := rising_few l (y.cost + 1) h'.2 fun z hz => ⟨by have := h'.1 z hz; omega, (hb z (List.mem_cons_of_mem _ hz)).2⟩
    refine .inl ?_
    rcases this with h1 | h1
    · rw [List.length_cons]; omega
    · subst h1; simp; omega
end Go.Proofs.Ytfdoofkofljgnaa
