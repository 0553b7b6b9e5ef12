/- The table in memory: its packets, their order, the map; what stays, one packet changed, one more, one less. -/
import Derived.Test.YtmnemkeieaflhaaC10
import Derived.Test.YtmnemkeieaflhaaC05
namespace Go.Proofs.Ytmnemkeieaflhaa
set_option linter.unusedVariables false
set_option linter.unusedSimpArgs false
open Go.ChangeShapes Go.WideShapes Go.ChangeAt Go.RowKit Go.Shelf

def pairOf (p : Wp) : Nm × Nat := (p.nm, p.blk)
structure Tab (w : World) (base tb mb : Nat) (ov : Value) (most life : Int) (L : List Wp) : Prop where
  top : w.heap[tb]? = some (.cells #[.int .i64 most, .int .i64 life, .map (some mb), ov] 67 (0, 0))
  low : base ≤ tb
  lowM : base ≤ mb
  map : MapAt w mb (L.map pairOf)
  ord : Nrow w base ov (L.map Wp.nm)
  pk : ∀ p ∈ L, PktAt w base p
  blks : (L.map Wp.blk).Nodup
  rblk : L.Pairwise fun p q => ∀ b, p.rv.ownBlock = some b → q.rv.ownBlock ≠ some b
  nms : (L.map Wp.nm).Nodup
  few : L.length ≤ 64
  sz : base ≤ w.heap.size
  rng : 1 ≤ most ∧ most ≤ 64 ∧ 1 ≤ life ∧ life ≤ 65535
/-- The blocks of the table itself, of the map and of the order. -/
def Zt (b : Nat) (T : TypeId) : Prop := T = 67 ∨ T = 64 ∨ T = 70
/-- All blocks of a table. -/
def Za (b : Nat) (T : TypeId) : Prop := Zt b T ∨ T = 75 ∨ T = 99
theorem zt_za {b : Nat} {T : TypeId} (h : Zt b T) : Za b T := .inl h
theorem zp_za {p : Wp} {b : Nat} {T : TypeId} (h : Zp p b T) : Za b T := by
  rcases h with ⟨_, h⟩ | ⟨_, h⟩
  · exact .inr (.inl h)
  · exact .inr (.inr h)
theorem zt_no {b : Nat} {T : TypeId} (h1 : T ≠ 67) (h2 : T ≠ 64) (h3 : T ≠ 70) : ¬ Zt b T := fun h => by rcases h with h | h | h <;> contradiction
theorem za_byte (b : Nat) : ¬ Za b 5 := fun h => by rcases h with (h | h | h) | h | h <;> exact absurd h (by decide)
theorem zt_byte (b : Nat) : ¬ Zt b 5 := fun h => za_byte b (zt_za h)
theorem zt_ip (b : Nat) : ¬ Zt b 38 := zt_no (by decide) (by decide) (by decide)
theorem MapAt.of_heap {w w' : World} {mb : Nat} {L : List (Nm × Nat)} (h : MapAt w mb L) (hb : ∀ es ck, w.heap[mb]? = some (.map es ck) → w'.heap[mb]? = some (.map es ck)) : MapAt w' mb L := by
  obtain ⟨es, ck, h1, h2⟩ := h
  exact ⟨es, ck, hb es ck h1, h2⟩

section
variable {w w' : World} {base tb mb : Nat} {ov : Value} {most life : Int} {L : List Wp}
theorem Tab.only {Z : Nat → TypeId → Prop} (h : Tab w base tb mb ov most life L) (o : Only base Z w w') (h1 : ¬ Z tb 67) (h2 : ¬ Z mb 64) (h3 : ∀ b, ¬ Z b 70) (h4 : ∀ b, ¬ Z b 75) (h5 : ∀ b, ¬ Z b 99) (h6 : ∀ b, ¬ Z b 5) (h7 : ∀ b, ¬ Z b 38) : Tab w' base tb mb ov most life L :=
  ⟨o.cells h.top h1, h.low, h.lowM, h.map.of_heap fun es ck hh => o.keep _ _ _ hh rfl h2, o.row h.ord fun b _ => h3 b, fun p hp => (h.pk p hp).only o (h4 _) (fun b _ => h5 b) h6 h7, h.blks, h.rblk, h.nms, h.few, Nat.le_trans h.sz o.size, h.rng⟩
theorem Tab.grow (h : Tab w base tb mb ov most life L) (g : Grow w w') : Tab w' base tb mb ov most life L :=
  h.only (Only.grow g h.sz fun _ _ => False) (fun h => h) (fun h => h) (fun _ h => h) (fun _ h => h) (fun _ h => h) (fun _ h => h) (fun _ h => h)
theorem Tab.cell (h : Tab w base tb mb ov most life L) (i : Nat) : w.cell? ⟨tb, i, none⟩ = (#[.int .i64 most, .int .i64 life, .map (some mb), ov] : Array Value)[i]? := cell_of_row w tb i _ _ _ h.top
theorem Tab.c0 (h : Tab w base tb mb ov most life L) : w.cell? ⟨tb, 0, none⟩ = some (.int .i64 most) := h.cell 0
theorem Tab.c1 (h : Tab w base tb mb ov most life L) : w.cell? ⟨tb, 1, none⟩ = some (.int .i64 life) := h.cell 1
theorem Tab.c2 (h : Tab w base tb mb ov most life L) : w.cell? ⟨tb, 2, none⟩ = some (.map (some mb)) := h.cell 2
theorem Tab.c3 (h : Tab w base tb mb ov most life L) : w.cell? ⟨tb, 3, none⟩ = some ov := h.cell 3
theorem Tab.fz (h : Tab w base tb mb ov most life L) (i : Nat) : w.frozen? ⟨tb, i, none⟩ = false := frozen_of h.top
theorem Tab.lt (h : Tab w base tb mb ov most life L) : tb < w.heap.size := (Array.getElem?_eq_some_iff.1 h.top).1
theorem Tab.ltM (h : Tab w base tb mb ov most life L) : mb < w.heap.size := by
  obtain ⟨es, ck, h1, _⟩ := h.map
  exact (Array.getElem?_eq_some_iff.1 h1).1
theorem names_pairs (L : List Wp) : (L.map pairOf).map Prod.fst = L.map Wp.nm := by rw [List.map_map]; rfl
theorem mem_absent {x : Nm} (hx : x ∉ L.map Wp.nm) : ∀ y ∈ L.map pairOf, y.1 ≠ x := by
  intro y hy e
  obtain ⟨p, hp, rfl⟩ := List.mem_map.1 hy
  exact hx (List.mem_map.2 ⟨p, hp, e⟩)
theorem Tab.at_ (h : Tab w base tb mb ov most life L) {i : Nat} {p : Wp} (hi : L[i]? = some p) : (L.map pairOf)[i]? = some (p.nm, p.blk) := by rw [List.getElem?_map, hi]; rfl

/-- One packet changed. -/
theorem Tab.set (h : Tab w base tb mb ov most life L) {i : Nat} {p p' : Wp} (hi : L[i]? = some p) (hp' : PktAt w' base p') (g : Grows base p p' w w') : Tab w' base tb mb ov most life (L.set i p') := by
  obtain ⟨hil, hie⟩ := List.getElem?_eq_some_iff.1 hi
  have hset : ∀ (α : Type) (f : Wp → α), f p' = f p → (L.set i p').map f = L.map f := fun α f hf => by
    rw [List.map_set, hf]
    have e : (L.map f)[i]? = some (f p) := by rw [List.getElem?_map, hi]; rfl
    obtain ⟨e1, e2⟩ := List.getElem?_eq_some_iff.1 e
    rw [← e2, List.set_getElem_self]
  have e1 : (L.set i p').map pairOf = L.map pairOf := hset _ _ (by unfold pairOf; rw [g.nm, g.blk])
  have e2 : (L.set i p').map Wp.nm = L.map Wp.nm := hset _ _ g.nm
  have e3 : (L.set i p').map Wp.blk = L.map Wp.blk := hset _ _ g.blk
  have hother : ∀ j (hj : j < L.length), j ≠ i → PktAt w' base L[j] := by
    intro j hj hne
    have hb : (L[j]).blk ≠ p.blk := by
      intro e
      have hn := h.blks
      unfold List.Nodup at hn
      rw [List.pairwise_iff_getElem] at hn
      rcases Nat.lt_or_ge j i with h1 | h1
      · have := hn j i (by rw [List.length_map]; exact hj) (by rw [List.length_map]; exact hil) h1
        rw [List.getElem_map, List.getElem_map, hie] at this
        exact this e
      · have := hn i j (by rw [List.length_map]; exact hil) (by rw [List.length_map]; exact hj) (by omega)
        rw [List.getElem_map, List.getElem_map, hie] at this
        exact this e.symm
    have hr : ∀ b, (L[j]).rv.ownBlock = some b → p.rv.ownBlock ≠ some b := by
      intro b hb e
      rcases Nat.lt_or_ge j i with h1 | h1
      · have := List.pairwise_iff_getElem.1 h.rblk j i hj hil h1 b hb
        rw [hie] at this
        exact this e
      · have := List.pairwise_iff_getElem.1 h.rblk i j hil hj (by omega) b
        rw [hie] at this
        exact this e hb
    refine (h.pk _ (List.getElem_mem hj)).only g.only (fun e => ?_) (fun b hb2 e => ?_) (fun b e => ?_) (fun b e => ?_)
    · rcases e with e | e
      · exact hb e.1
      · exact absurd e.2 (by decide)
    · rcases e with e | e
      · exact absurd e.2 (by decide)
      · exact hr b hb2 e.1
    · rcases e with e | e <;> exact absurd e.2 (by decide)
    · rcases e with e | e <;> exact absurd e.2 (by decide)
  refine ⟨g.only.cells h.top (fun e => by rcases e with e | e <;> exact absurd e.2 (by decide)), h.low, h.lowM, ?_, ?_, ?_, by rw [e3]; exact h.blks, ?_, by rw [e2]; exact h.nms, by rw [List.length_set]; exact h.few, Nat.le_trans h.sz g.only.size, h.rng⟩
  · rw [e1]
    exact h.map.of_heap fun es ck hh => g.only.keep _ _ _ hh rfl (fun e => by rcases e with e | e <;> exact absurd e.2 (by decide))
  · rw [e2]
    exact g.only.row h.ord (fun b _ e => by rcases e with e | e <;> exact absurd e.2 (by decide))
  · intro q hq
    obtain ⟨j, hj, rfl⟩ := List.getElem_of_mem hq
    rw [List.length_set] at hj
    by_cases hji : i = j
    · subst hji
      rw [List.getElem_set_self]
      exact hp'
    · rw [List.getElem_set_ne hji]
      exact hother j hj (fun e => hji e.symm)
  · rw [List.pairwise_iff_getElem]
    intro j k hj hk hjk b hb
    rw [List.length_set] at hj hk
    have hlt : ∀ t (ht : t < L.length), ∀ b, (L[t]).rv.ownBlock = some b → b < w.heap.size := fun t ht b hb => ((h.pk _ (List.getElem_mem ht)).row.lt _ hb).2
    by_cases h1 : i = j
    · subst h1
      rw [List.getElem_set_self] at hb
      rw [List.getElem_set_ne (by omega)]
      rcases g.new b hb with h2 | h2
      · have := List.pairwise_iff_getElem.1 h.rblk i k hj hk hjk b
        rw [hie] at this
        exact this h2
      · intro e
        have := hlt k hk b e
        omega
    · rw [List.getElem_set_ne h1] at hb
      by_cases h2 : i = k
      · subst h2
        rw [List.getElem_set_self]
        intro e
        rcases g.new b e with h3 | h3
        · have := List.pairwise_iff_getElem.1 h.rblk j i hj hk hjk b hb
          rw [hie] at this
          exact this h3
        · have := hlt j hj b hb
          omega
      · rw [List.getElem_set_ne h2]
        exact List.pairwise_iff_getElem.1 h.rblk j k hj hk hjk b hb
end

/-- A packet that has just begun to wait. -/
def fresh (x : Nm) (b : Nat) (till : Int) : Wp := ⟨x, b, till, none, 0, .slice none 0 0, []⟩
theorem fresh_at {w : World} {base : Nat} {x : Nm} {b : Nat} {till : Int} (h : w.heap[b]? = some (.cells (pcells (fresh x b till)) 75 (0, 0))) (hb : base ≤ b) (ht : 0 ≤ till ∧ till ≤ 2000000000000) : PktAt w base (fresh x b till) :=
  ⟨h, hb, World.ownsRow_nil _ _ _ _, fun r hr => by simp [fresh] at hr, trivial, by show reach 0 [] ≤ _; simp [reach], fun f hf => by simp [fresh] at hf, by simp [fresh], ht⟩
end Go.Proofs.Ytmnemkeieaflhaa
/- Contracts: begin, remove. -/
namespace Go.Proofs.Ytmnemkeieaflhaa
set_option linter.unusedVariables false
set_option linter.unusedSimpArgs false
open Go.ChangeShapes Go.WideShapes Go.ChangeAt Go.RowKit Go.Shelf
attribute [local irreducible] wpQuiet

section
variable {P : Program}
theorem step_del (w : World) {ops : Array Oper} {o : Oper} {a : Act} {K : Act → World → Prop} {Q : Exit → Act → World → Prop} {E : Prop} (hgd : o.guard = none) (m x : Operand)
    (ho : o.op = Op.call { callee := Callee.builtin Builtin.delete, args := #[m, x], argTypes := #[64, 70] }) (mb b j : Nat) (n : Nm) (L : List (Nm × Nat)) (hm : a.eval m = .map (some mb)) (hx : a.eval x = nmV n) (h : MapAt w mb L) (hN : (L.map Prod.fst).Nodup) (hj : L[j]? = some (n, b))
    (hK : ∀ w', MapAt w' mb (L.eraseIdx j) → w.grownBy w' (some mb) → K (a.put o.dst (.tuple #[])) w') :
    if Region.wanted o (yielded ops a.tmps) = true then Oper.wp Try.prog o a w K Q else E := by
  have hw : Region.wanted o (yielded ops a.tmps) = true := by simp [Region.wanted, hgd]
  rw [if_pos hw]
  obtain ⟨w', hrun, h2, h3⟩ := h.del hN hj o.type
  unfold Oper.wp
  simp [execOp, ho, resolve, invoke, builtin, hm, hx, hrun, Result.andThen]
  exact hK w' h2 h3
end

section
variable {w w5 : World} {base tb mb : Nat} {ov ov' : Value} {most life : Int} {L : List Wp}
theorem Tab.more (h : Tab w base tb mb ov most life L) {x : Nm} (hx : x ∉ L.map Wp.nm) (hl : L.length < 64) {till : Int} (ht : 0 ≤ till ∧ till ≤ 2000000000000) {pb : Nat} (hpb : w.heap.size ≤ pb) (o : Only base Zt w w5)
    (htop : w5.heap[tb]? = some (.cells #[.int .i64 most, .int .i64 life, .map (some mb), ov'] 67 (0, 0))) (hm : MapAt w5 mb (L.map pairOf ++ [(x, pb)])) (hord : Nrow w5 base ov' (L.map Wp.nm ++ [x]))
    (hp : w5.heap[pb]? = some (.cells (pcells (fresh x pb till)) 75 (0, 0))) : Tab w5 base tb mb ov' most life (L ++ [fresh x pb till]) := by
  have hpk : ∀ p ∈ L, PktAt w5 base p := fun p hp => (h.pk p hp).only o (zt_no (by decide) (by decide) (by decide)) (fun b _ => zt_no (by decide) (by decide) (by decide)) zt_byte zt_ip
  refine ⟨htop, h.low, h.lowM, by rw [List.map_append]; exact hm, by rw [List.map_append]; exact hord, ?_, ?_, ?_, ?_, by rw [List.length_append]; simp; omega, Nat.le_trans h.sz o.size, h.rng⟩
  · intro p hp2
    rcases List.mem_append.1 hp2 with h1 | h1
    · exact hpk p h1
    · obtain rfl : p = fresh x pb till := by simpa using h1
      exact fresh_at hp (Nat.le_trans h.sz hpb) ht
  · rw [List.map_append, List.nodup_append]
    refine ⟨h.blks, by simp, fun a ha b hb => ?_⟩
    obtain ⟨p, hp2, rfl⟩ := List.mem_map.1 ha
    obtain rfl : b = pb := by simpa [fresh] using hb
    have := (h.pk p hp2).lt
    omega
  · rw [List.pairwise_append]
    refine ⟨h.rblk, by simp, fun p _ q hq b _ => ?_⟩
    obtain rfl : q = fresh x pb till := by simpa using hq
    simp [fresh, Value.ownBlock]
  · rw [List.map_append, List.nodup_append]
    refine ⟨h.nms, by simp, fun a ha b hb => ?_⟩
    obtain rfl : b = x := by simpa [fresh] using hb
    intro e
    subst e
    exact hx ha
theorem Tab.less (h : Tab w base tb mb ov most life L) (i : Nat) (o : Only base Zt w w5)
    (htop : w5.heap[tb]? = some (.cells #[.int .i64 most, .int .i64 life, .map (some mb), ov'] 67 (0, 0))) (hm : MapAt w5 mb ((L.map pairOf).eraseIdx i)) (hord : Nrow w5 base ov' ((L.map Wp.nm).eraseIdx i)) : Tab w5 base tb mb ov' most life (L.eraseIdx i) := by
  have hsub := List.eraseIdx_sublist L i
  have e : ∀ {α : Type} (f : Wp → α), (L.eraseIdx i).map f = (L.map f).eraseIdx i := fun f => ChangeMaps.map_eraseIdx f L i
  refine ⟨htop, h.low, h.lowM, by rw [e]; exact hm, by rw [e]; exact hord, fun p hp => (h.pk p (hsub.subset hp)).only o (zt_no (by decide) (by decide) (by decide)) (fun b _ => zt_no (by decide) (by decide) (by decide)) zt_byte zt_ip, (hsub.map _).nodup h.blks, h.rblk.sublist hsub, (hsub.map _).nodup h.nms, Nat.le_trans hsub.length_le h.few, Nat.le_trans h.sz o.size, h.rng⟩
theorem Tab.tm (h : Tab w base tb mb ov most life L) : tb ≠ mb := by
  intro e
  obtain ⟨es, ck, h1, _⟩ := h.map
  have h2 := h.top
  rw [e, h1] at h2
  cases h2
/-- The map was written. -/
theorem Tab.wrote (h : Tab w base tb mb ov most life L) (hg : w.grownBy w5 (some mb)) : Only base Zt w w5 := Only.grown hg (fun g e => by
  cases e
  obtain ⟨es, ck, h1, _⟩ := h.map
  exact ⟨h.lowM, fun o T ho hT => by rw [h1] at ho; cases ho; cases hT; exact .inr (.inl rfl)⟩) h.sz
end

set_option maxRecDepth 10000 in
set_option maxHeartbeats 8000000 in
theorem begin_any (w : World) (base tb mb : Nat) (ov : Value) (most life : Int) (L : List Wp) (h : Tab w base tb mb ov most life L) (x : Nm) (hx : x ∉ L.map Wp.nm) (hl : L.length < 64) (till : Int) (ht : 0 ≤ till ∧ till ≤ 2000000000000) :
    Calls Try.prog 45 #[.pointer (some ⟨tb, 0, none⟩), nmV x, .int .i64 till] w fun e w' => ∃ ov' pb, e = .returned (.pointer (some ⟨pb, 0, none⟩)) ∧ Tab w' base tb mb ov' most life (L ++ [fresh x pb till]) ∧ Only base Zt w w' ∧ w.heap.size ≤ pb := by
  obtain ⟨W2, hW2⟩ : ∃ W2, W2 = (w.alloc (.cells #[.int .u32 (x.src : Int), .int .u32 (x.dst : Int), .int .u8 (x.proto : Int), .int .u16 (x.ident : Int)] 70)).alloc (.cells #[.int .i64 till, .pointer none, .int .i64 0, .slice none 0 0] 75) := ⟨_, rfl⟩
  have hg2 : Grow w W2 := by rw [hW2]; exact (Grow.alloc _ _).trans (Grow.alloc _ _)
  have hsz : W2.heap.size = w.heap.size + 2 := by rw [hW2]; simp
  have hbx : W2.heap[w.heap.size]? = some (.cells #[.int .u32 (x.src : Int), .int .u32 (x.dst : Int), .int .u8 (x.proto : Int), .int .u16 (x.ident : Int)] 70 (0, 0)) := by
    rw [hW2, Below.heap_alloc _ _ _ (by simp)]
    exact heap_alloc_new w _
  have hpk : W2.heap[w.heap.size + 1]? = some (.cells #[.int .i64 till, .pointer none, .int .i64 0, .slice none 0 0] 75 (0, 0)) := by
    rw [hW2]
    have := heap_alloc_new (w.alloc (.cells #[.int .u32 (x.src : Int), .int .u32 (x.dst : Int), .int .u8 (x.proto : Int), .int .u16 (x.ident : Int)] 70)) (.cells #[.int .i64 till, .pointer none, .int .i64 0, .slice none 0 0] 75)
    rwa [World.size_alloc] at this
  have H2 := h.grow hg2
  have hbm : w.heap.size ≠ mb := by have := h.ltM; omega
  have hbt : w.heap.size ≠ tb := by have := h.lt; omega
  have b0 := cell_of_row W2 w.heap.size 0 _ _ _ hbx
  have b1 := cell_of_row W2 w.heap.size 1 _ _ _ hbx
  have b2 := cell_of_row W2 w.heap.size 2 _ _ _ hbx
  have b3 := cell_of_row W2 w.heap.size 3 _ _ _ hbx
  have t2 := H2.c2
  have t3 := H2.c3
  -- behind the map's store
  have F3 : Hid (∀ w3, MapAt w3 mb (L.map pairOf ++ [(x, w.heap.size + 1)]) → W2.drew.grownBy w3 (some mb) → Only base Zt W2 w3 ∧ w3.heap[w.heap.size]? = some (.cells #[.int .u32 (x.src : Int), .int .u32 (x.dst : Int), .int .u8 (x.proto : Int), .int .u16 (x.ident : Int)] 70 (0, 0)) ∧ w3.heap[tb]? = some (.cells #[.int .i64 most, .int .i64 life, .map (some mb), ov] 67 (0, 0)) ∧ Nrow w3 base ov (L.map Wp.nm)) := by
    intro w3 hm hg
    have hg' := grownBy_undrew hg
    refine ⟨H2.wrote hg', (hg'.block _ (by omega) (fun e => hbm (by cases e; rfl))).trans hbx, (hg'.block _ H2.lt (fun e => H2.tm (by cases e; rfl))).trans H2.top, ?_⟩
    refine ownsRow_other H2.ord fun b cs hb hh => hg'.block b (Array.getElem?_eq_some_iff.1 hh).1 (fun e => ?_)
    cases e
    obtain ⟨es, ck, h1, _⟩ := H2.map
    rw [h1] at hh
    cases hh
  have HT := Lib.hid (And.intro h (And.intro hg2 (And.intro hpk (And.intro hsz H2))))
  have HX := Lib.hid hx
  obtain ⟨w3, hrun, hm3, hg3⟩ := MapAt.upd (show MapAt W2.drew mb (L.map pairOf) from H2.map) (mem_absent hx) (w.heap.size + 1)
  obtain ⟨o3, bx3, tp3, or3⟩ := F3.out w3 hm3 hg3
  have hts : tb < w3.heap.size := Nat.lt_of_lt_of_le H2.lt o3.size
  have hbs : base ≤ w3.heap.size := Nat.le_trans H2.sz o3.size
  have H3 := Lib.hid (And.intro hm3 (And.intro o3 (And.intro tp3 (And.intro or3 hbs))))
  have u0 : w3.cell? ⟨w.heap.size, 0, none⟩ = some (.int .u32 (x.src : Int)) := cell_of_row w3 w.heap.size 0 _ _ _ bx3
  have u1 : w3.cell? ⟨w.heap.size, 1, none⟩ = some (.int .u32 (x.dst : Int)) := cell_of_row w3 w.heap.size 1 _ _ _ bx3
  have u2 : w3.cell? ⟨w.heap.size, 2, none⟩ = some (.int .u8 (x.proto : Int)) := cell_of_row w3 w.heap.size 2 _ _ _ bx3
  have u3 : w3.cell? ⟨w.heap.size, 3, none⟩ = some (.int .u16 (x.ident : Int)) := cell_of_row w3 w.heap.size 3 _ _ _ bx3
  obtain ⟨Ao, co, hov, _⟩ := (RdK.of_own or3).form
  have s3 : w3.cell? ⟨tb, 3, none⟩ = some ov := cell_of_row w3 tb 3 _ _ _ tp3
  have s3A : (w3.drew.alloc (.cells #[.int .u32 (x.src : Int), .int .u32 (x.dst : Int), .int .u8 (x.proto : Int), .int .u16 (x.ident : Int)] 70)).cell? ⟨tb, 3, none⟩ = some ov := ((Grow.alloc w3.drew _).cell (p := ⟨tb, 3, none⟩) hts).trans s3
  have gA : Grow w3 (w3.drew.alloc (.cells #[.int .u32 (x.src : Int), .int .u32 (x.dst : Int), .int .u8 (x.proto : Int), .int .u16 (x.ident : Int)] 70)) := (Grow.drew w3).trans (Grow.alloc w3.drew _)
  have hordA : Hid ((w3.drew.alloc (.cells #[.int .u32 (x.src : Int), .int .u32 (x.dst : Int), .int .u8 (x.proto : Int), .int .u16 (x.ident : Int)] 70)).ownsRow base 70 4 ov (L.map Wp.nm).length (cellsN (L.map Wp.nm))) := ownsRow_other or3 fun b cs _ hh => gA.block b (Array.getElem?_eq_some_iff.1 hh).1
  have hlitA : Hid (RdK (w3.drew.alloc (.cells #[.int .u32 (x.src : Int), .int .u32 (x.dst : Int), .int .u8 (x.proto : Int), .int .u16 (x.ident : Int)] 70)) 4 (.slice (some ⟨w3.heap.size, 0, none⟩) 1 1) 1 (nmC x)) := RdK.of_own (World.ownsRow_lit (base := w3.heap.size) (e := 70) (size := 4) w3.drew #[.int .u32 (x.src : Int), .int .u32 (x.dst : Int), .int .u8 (x.proto : Int), .int .u16 (x.ident : Int)] 1 (Nat.le_refl _) (by unfold maxLen; omega) rfl)
  have hAF : Hid (∀ v4 w4, w4.ownsRow base 70 4 v4 ((L.map Wp.nm).length + 1) (cellsN (L.map Wp.nm) ++ nmC x) → (w3.drew.alloc (.cells #[.int .u32 (x.src : Int), .int .u32 (x.dst : Int), .int .u8 (x.proto : Int), .int .u16 (x.ident : Int)] 70)).grownBy w4 ov.ownBlock →
      w4.cell? ⟨tb, 3, none⟩ = some ov ∧ w4.frozen? ⟨tb, 3, none⟩ = false ∧ Hid (Tab (w4.setCell ⟨tb, 3, none⟩ v4) base tb mb v4 most life (L ++ [fresh x (w.heap.size + 1) till]) ∧ Only base Zt w (w4.setCell ⟨tb, 3, none⟩ v4))) := by
    intro v4 w4 ho4 hg4
    have oA : Only base (fun b T => T = 67 ∨ T = 70) w3 w4 := (Only.grow gA hbs _).trans (Only.grown hg4 (fun b e => by
      obtain ⟨cs, h1, h2⟩ := ownsRow_blk hordA.out e
      exact ⟨h2, fun o T ho hT => by rw [h1] at ho; cases ho; cases hT; exact .inr rfl⟩) (Nat.le_trans hbs gA.size))
    have htb4 : w4.heap[tb]? = some (.cells #[.int .i64 most, .int .i64 life, .map (some mb), ov] 67 (0, 0)) := by
      have h1 := (Only.grow (base := base) gA hbs fun _ _ => False).cells tp3 (fun e => e)
      refine (hg4.block tb (Array.getElem?_eq_some_iff.1 h1).1 fun e => ?_).trans h1
      obtain ⟨cs, h2, _⟩ := ownsRow_blk hordA.out e.symm
      rw [h1] at h2
      cases h2
    have oS : Only base (fun b T => T = 67 ∨ T = 70) w4 (w4.setCell ⟨tb, 3, none⟩ v4) := Only.set htb4 h.low (.inl rfl) v4
    have oAll := oA.trans oS
    have oZ : Only base Zt w3 (w4.setCell ⟨tb, 3, none⟩ v4) := oAll.mono fun _ _ _ _ _ e => by rcases e with e | e; exact .inl e; exact .inr (.inr e)
    have oW : Only base Zt w (w4.setCell ⟨tb, 3, none⟩ v4) := ((Only.grow hg2 h.sz Zt).trans o3).trans oZ
    refine ⟨cell_of_row w4 tb 3 _ _ _ htb4, frozen_of htb4, Tab.more h hx hl ht (Nat.le_succ _) oW (heap_setCell_own (k := 3) htb4 v4) ?_ ?_ ?_, oW⟩
    · exact hm3.of_heap fun es ck hh => oAll.keep _ _ _ hh rfl (fun e => by rcases e with e | e <;> exact absurd e (by decide))
    · have e1 : cellsN (L.map Wp.nm ++ [x]) = cellsN (L.map Wp.nm) ++ nmC x := by simp [cellsN]
      unfold Nrow
      rw [List.length_append, e1]
      refine ownsRow_other ho4 fun b cs _ hh => Below.heap_setCell _ _ _ _ fun e => ?_
      have e : b = tb := e
      rw [e, htb4] at hh
      cases hh
    · exact ((o3.trans oZ).cells hpk (zt_no (by decide) (by decide) (by decide)))
  have sf := frozen_of (o := 3) tp3
  have HBA := Lib.hid (Nat.le_trans hbs gA.size)
  have hnl : (L.map Wp.nm).length ≤ 64 := by rw [List.length_map]; omega
  have HONE : Hid (∀ y ∈ nmC x, y.oneCell' = true) := by
    intro y hy
    simp [nmC] at hy
    rcases hy with rfl | rfl | rfl | rfl <;> rfl
  rw [hov] at s3 s3A hordA hAF
  clear hm3 hg3 o3 bx3 tp3 or3 hg2 hbx hpk H2 h hsz hx gA F3 HT H3 HX
  generalize (L.map Wp.nm).length = N at *
  obtain ⟨x0, x1, x2, x3⟩ := x
  unfold nmV at *
  simp only at *
  go_enter Try.func45, Try.ntmps45
  go_wp2_with fail
  rw [← hW2]
  clear hW2
  go_region
  all_goals
    go_wp2_with fail
    go_region_law (refine step_appK _ rfl (.tmp 21) (.tmp 23) 65 rfl 70 _ 4 12 Try.underlying65 infoName rfl (by decide) base (.slice Ao N co) _ N 1 _ _ rfl rfl hordA.out hlitA.out HONE.out (by omega) (by unfold maxLen; omega) HBA.out ?_; intro v4 w4 ho4 hg4 hat4; obtain ⟨A4, c4, hv4, _⟩ := (RdK.of_own ho4).form; subst hv4; obtain ⟨k3, kf, HZ⟩ := hAF.out _ w4 ho4 hg4; clear ho4 hg4 hat4)
  all_goals
    go_wp2_with fail
    go_ret
    exact ⟨_, _, rfl, HZ.out.1, HZ.out.2, Nat.le_succ _⟩
end Go.Proofs.Ytmnemkeieaflhaa
/- Contract: remove. -/
namespace Go.Proofs.Ytmnemkeieaflhaa
set_option linter.unusedVariables false
set_option linter.unusedSimpArgs false
open Go.ChangeShapes Go.WideShapes Go.ChangeAt Go.RowKit Go.Shelf
attribute [local irreducible] wpQuiet

/-- The blocks of the table itself, of the map and of this order. -/
def Zr (ov : Value) (b : Nat) (T : TypeId) : Prop := T = 67 ∨ T = 64 ∨ (T = 70 ∧ ov.ownBlock = some b)
theorem zr_zt {ov : Value} {b : Nat} {T : TypeId} (h : Zr ov b T) : Zt b T := by
  rcases h with h | h | h
  · exact .inl h
  · exact .inr (.inl h)
  · exact .inr (.inr h.1)
theorem Tab.wroteR {w w5 : World} {base tb mb : Nat} {ov : Value} {most life : Int} {L : List Wp} (h : Tab w base tb mb ov most life L) (hg : w.grownBy w5 (some mb)) : Only base (Zr ov) w w5 := Only.grown hg (fun g e => by
  cases e
  obtain ⟨es, ck, h1, _⟩ := h.map
  exact ⟨h.lowM, fun o T ho hT => by rw [h1] at ho; cases ho; cases hT; exact .inr (.inl rfl)⟩) h.sz
set_option maxRecDepth 10000 in
set_option maxHeartbeats 8000000 in
theorem remove_fine (w : World) (base tb mb : Nat) (ov : Value) (most life : Int) (L : List Wp) (h : Tab w base tb mb ov most life L) (i : Nat) (p : Wp) (hi : L[i]? = some p) :
    Calls Try.prog 25 #[.pointer (some ⟨tb, 0, none⟩), nmV p.nm] w fun e w' => e = .returned (.tuple #[]) ∧ ∃ ov', Tab w' base tb mb ov' most life (L.eraseIdx i) ∧ Only base (Zr ov) w w' ∧ ov'.ownBlock = ov.ownBlock := by
  obtain ⟨hil, hie⟩ := List.getElem?_eq_some_iff.1 hi
  obtain ⟨x, hx⟩ : ∃ x, x = p.nm := ⟨_, rfl⟩
  rw [← hx]
  obtain ⟨W2, hW2⟩ : ∃ W2, W2 = w.alloc (.cells #[.int .u32 (x.src : Int), .int .u32 (x.dst : Int), .int .u8 (x.proto : Int), .int .u16 (x.ident : Int)] 70) := ⟨_, rfl⟩
  have hg2 : Grow w W2 := by rw [hW2]; exact Grow.alloc _ _
  have hbx : W2.heap[w.heap.size]? = some (.cells #[.int .u32 (x.src : Int), .int .u32 (x.dst : Int), .int .u8 (x.proto : Int), .int .u16 (x.ident : Int)] 70 (0, 0)) := by
    rw [hW2]; exact heap_alloc_new w _
  have H2 := h.grow hg2
  have hbm : w.heap.size ≠ mb := by have := h.ltM; omega
  have hbt : w.heap.size ≠ tb := by have := h.lt; omega
  have b0 : W2.cell? ⟨w.heap.size, 0, none⟩ = some (.int .u32 (x.src : Int)) := cell_of_row W2 w.heap.size 0 _ _ _ hbx
  have b1 : W2.cell? ⟨w.heap.size, 1, none⟩ = some (.int .u32 (x.dst : Int)) := cell_of_row W2 w.heap.size 1 _ _ _ hbx
  have b2 : W2.cell? ⟨w.heap.size, 2, none⟩ = some (.int .u8 (x.proto : Int)) := cell_of_row W2 w.heap.size 2 _ _ _ hbx
  have b3 : W2.cell? ⟨w.heap.size, 3, none⟩ = some (.int .u16 (x.ident : Int)) := cell_of_row W2 w.heap.size 3 _ _ _ hbx
  have t2 := H2.c2
  have hj : (L.map pairOf)[i]? = some (x, p.blk) := by rw [hx]; exact h.at_ hi
  have hnd : ((L.map pairOf).map Prod.fst).Nodup := by rw [names_pairs]; exact h.nms
  obtain ⟨w3, hrun, hm3, hg3⟩ := MapAt.del (show MapAt W2.drew mb (L.map pairOf) from H2.map) hnd hj 0
  have hg3' := grownBy_undrew hg3
  have o3 := H2.wroteR hg3'
  have bx3 := (hg3'.block _ (Array.getElem?_eq_some_iff.1 hbx).1 (fun e => hbm (by cases e; rfl))).trans hbx
  have tp3 := (hg3'.block _ H2.lt (fun e => H2.tm (by cases e; rfl))).trans H2.top
  have or3 : Nrow w3 base ov (L.map Wp.nm) := ownsRow_other H2.ord fun b cs hb hh => hg3'.block b (Array.getElem?_eq_some_iff.1 hh).1 (fun e => by
    cases e
    obtain ⟨es, ck, h1, _⟩ := H2.map
    rw [h1] at hh
    cases hh)
  have hbs : base ≤ w3.heap.size := Nat.le_trans H2.sz o3.size
  have hts : tb < w3.heap.size := (Array.getElem?_eq_some_iff.1 tp3).1
  have hxs : w.heap.size < w3.heap.size := (Array.getElem?_eq_some_iff.1 bx3).1
  have u0 : w3.cell? ⟨w.heap.size, 0, none⟩ = some (.int .u32 (x.src : Int)) := cell_of_row w3 w.heap.size 0 _ _ _ bx3
  have u1 : w3.cell? ⟨w.heap.size, 1, none⟩ = some (.int .u32 (x.dst : Int)) := cell_of_row w3 w.heap.size 1 _ _ _ bx3
  have u2 : w3.cell? ⟨w.heap.size, 2, none⟩ = some (.int .u8 (x.proto : Int)) := cell_of_row w3 w.heap.size 2 _ _ _ bx3
  have u3 : w3.cell? ⟨w.heap.size, 3, none⟩ = some (.int .u16 (x.ident : Int)) := cell_of_row w3 w.heap.size 3 _ _ _ bx3
  have s3 : w3.cell? ⟨tb, 3, none⟩ = some ov := cell_of_row w3 tb 3 _ _ _ tp3
  have hil2 : i < (L.map Wp.nm).length := by rw [List.length_map]; exact hil
  have hnl : (L.map Wp.nm).length ≤ 64 := by rw [List.length_map]; exact h.few
  obtain ⟨g, cap, hov⟩ : ∃ g cap, ov = .slice (some ⟨g, 0, none⟩) (L.map Wp.nm).length cap := by
    rcases id or3.2 with ⟨e1, e2⟩ | ⟨g, cap, cur, e1, _⟩
    · omega
    · exact ⟨g, cap, e1⟩
  have cIx : ∀ q : Gw w3, Calls Try.prog 41 #[ov, nmV x] q.v fun e w' => e = .returned (.int .i64 (i : Int)) ∧ ∃ r : Gw w3, w' = r.v := fun q =>
    Calls.gw (Index_any q.v ov (L.map Wp.nm) (or3.nms.grow q.h) i hil2 x (by rw [List.getElem_map, hie, hx]) (fun j hj hji e => by
      have hn := h.nms
      unfold List.Nodup at hn
      rw [List.pairwise_iff_getElem] at hn
      have := hn j i hj hil2 hji
      rw [e, List.getElem_map, hie, hx] at this
      exact this rfl) (by omega))
  obtain ⟨ZR, hZR⟩ : ∃ ZR, ZR = Zr ov := ⟨_, rfl⟩
  obtain ⟨OB, hOB⟩ : ∃ OB, OB = ov.ownBlock := ⟨_, rfl⟩
  rw [← hZR] at o3
  have HZR := Lib.hid (And.intro hZR hOB)
  -- behind Index, Delete
  have cDel : Hid (∀ w4, Grow w3 w4 → Calls Try.prog 42 #[ov, .int .i64 (i : Int), .int .i64 ((i : Int) + 1)] w4 fun e w5 => ∃ A n c, e = .returned (.slice A n c) ∧ w5.cell? ⟨tb, 3, none⟩ = some ov ∧ w5.frozen? ⟨tb, 3, none⟩ = false ∧
      Hid (Tab (w5.setCell ⟨tb, 3, none⟩ (.slice A n c)) base tb mb (.slice A n c) most life (L.eraseIdx i) ∧ Only base ZR w (w5.setCell ⟨tb, 3, none⟩ (.slice A n c)) ∧ (Value.slice A n c).ownBlock = OB)) := by
    intro w4 hg4
    have hov2 := hOB.trans (congrArg Value.ownBlock hov)
    rw [hov] at or3 tp3 ⊢
    have or4 : Nrow w4 base (.slice (some ⟨g, 0, none⟩) (L.map Wp.nm).length cap) (L.map Wp.nm) := ownsRow_other or3 fun b cs _ hh => hg4.block b (Array.getElem?_eq_some_iff.1 hh).1
    refine (Delete_any w4 base g cap i (L.map Wp.nm) or4 hil2 (by omega)).mono ?_
    rintro e w5 ⟨rfl, ho5, hg5⟩
    have oA : Only base (fun b T => T = 67 ∨ (T = 70 ∧ OB = some b)) w3 w5 := (Only.grow hg4 hbs _).trans (Only.grown hg5 (fun b e => by
      obtain ⟨cs, h1, h2⟩ := ownsRow_blk or4 (e : (Value.slice (some ⟨g, 0, none⟩) (L.map Wp.nm).length cap).ownBlock = some b)
      exact ⟨h2, fun o T ho hT => by rw [h1] at ho; cases ho; cases hT; exact .inr ⟨rfl, hov2.trans e⟩⟩) (Nat.le_trans hbs hg4.size))
    have htb5 : w5.heap[tb]? = some (.cells #[.int .i64 most, .int .i64 life, .map (some mb), .slice (some ⟨g, 0, none⟩) (L.map Wp.nm).length cap] 67 (0, 0)) := by
      have h1 := (Only.grow (base := base) hg4 hbs fun _ _ => False).cells tp3 (fun e => e)
      refine (hg5.block tb (Array.getElem?_eq_some_iff.1 h1).1 fun e => ?_).trans h1
      cases e
      obtain ⟨cs, h2, _⟩ := ownsRow_blk or4 (b := tb) rfl
      rw [h1] at h2
      cases h2
    have oS : Only base (fun b T => T = 67 ∨ (T = 70 ∧ OB = some b)) w5 (w5.setCell ⟨tb, 3, none⟩ (.slice (some ⟨g, 0, none⟩) ((L.map Wp.nm).length - 1) cap)) := Only.set htb5 h.low (.inl rfl) _
    have oAll := oA.trans oS
    have oW : Only base ZR w (w5.setCell ⟨tb, 3, none⟩ (.slice (some ⟨g, 0, none⟩) ((L.map Wp.nm).length - 1) cap)) := ((Only.grow hg2 h.sz ZR).trans o3).trans (oAll.mono fun _ _ _ _ _ e => by rw [hZR]; rcases e with e | e; exact .inl e; exact .inr (.inr ⟨e.1, hOB.symm.trans e.2⟩))
    have oT : Only base Zt w (w5.setCell ⟨tb, 3, none⟩ (.slice (some ⟨g, 0, none⟩) ((L.map Wp.nm).length - 1) cap)) := oW.mono fun _ _ _ _ _ e => by rw [hZR] at e; exact zr_zt e
    refine ⟨_, _, _, rfl, cell_of_row w5 tb 3 _ _ _ htb5, frozen_of htb5, Tab.less h i oT (heap_setCell_own (k := 3) htb5 _) ?_ ?_, oW, hov2.symm⟩
    · exact hm3.of_heap fun es ck hh => oAll.keep _ _ _ hh rfl (fun e => by rcases e with e | e; exact absurd e (by decide); exact absurd e.1 (by decide))
    · have hel : ((L.map Wp.nm).eraseIdx i).length = (L.map Wp.nm).length - 1 := List.length_eraseIdx_of_lt hil2
      unfold Nrow at ho5 ⊢
      rw [hel] at ho5 ⊢
      refine ownsRow_other ho5 fun b cs _ hh => Below.heap_setCell _ _ _ _ fun e => ?_
      have e : b = tb := e
      rw [e, htb5] at hh
      cases hh
  rw [hov] at s3 cIx cDel
  clear hm3 hg3 hg3' o3 bx3 tp3 or3 hg2 hbx H2 h hx hj hnd hov hi hie hZR hOB
  generalize (L.map Wp.nm).length = N at *
  obtain ⟨x0, x1, x2, x3⟩ := x
  unfold nmV at *
  simp only at *
  have d0 := fun q : Gw w3 => Gw.cell hxs u0 q
  have d1 := fun q : Gw w3 => Gw.cell hxs u1 q
  have d2 := fun q : Gw w3 => Gw.cell hxs u2 q
  have d3 := fun q : Gw w3 => Gw.cell hxs u3 q
  have e3 := fun q : Gw w3 => Gw.cell hts s3 q
  go_enter Try.func25, Try.ntmps25
  go_wp2_with fail
  rw [← hW2]
  clear hW2
  go_region
  all_goals
    go_wp2_with fail
    refine wp_region_gw (by kernel_rfl) (by kernel_rfl) ?_
    repeat (quiet_step ((go_at_call 41; exact cIx _)))
    refine wpQuiet_nil ?_
    intro wz hw'
    obtain ⟨⟨wq, hgq⟩, hw2⟩ := hw'
    subst hw2
    have e3' := e3 ⟨wz, hgq⟩
    simp only at e3'
    have cD := cDel.out wz hgq
    go_wp2_with (go_at_call 42; refine cD.mono ?_; rintro e w5 ⟨A5, n5, c5, rfl, k3, kf, HZ⟩)
    go_end0
    exact ⟨rfl, _, HZ.out.1, by have := HZ.out.2.1; rw [HZR.out.1] at this; exact this, HZ.out.2.2.trans HZR.out.2⟩
theorem remove_any (w : World) (base tb mb : Nat) (ov : Value) (most life : Int) (L : List Wp) (h : Tab w base tb mb ov most life L) (i : Nat) (p : Wp) (hi : L[i]? = some p) :
    Calls Try.prog 25 #[.pointer (some ⟨tb, 0, none⟩), nmV p.nm] w fun e w' => e = .returned (.tuple #[]) ∧ ∃ ov', Tab w' base tb mb ov' most life (L.eraseIdx i) ∧ Only base Zt w w' :=
  (remove_fine w base tb mb ov most life L h i p hi).mono fun e w' ⟨h1, ov', h2, h3, _⟩ => ⟨h1, ov', h2, h3.mono fun _ _ _ _ _ e => zr_zt e⟩
end Go.Proofs.Ytmnemkeieaflhaa
