/- SLICES THAT READ AS LISTS: nil, empty and other slices by one word ('Rd'; of bytes: 'Byt'); kept while memory only grows; a cut; an append onto a row of the call's own; the conversion of bytes to a string. Nothing here is trusted. -/
import Derived.Test.YtpbnpkbmefjiaaaLoose
import Derived.Laws.OwnMore
import Derived.Laws.MakeOwn
import Derived.Laws.BytesArg
import Derived.Maps.AppendAt
import Derived.RegionTactic
import Derived.OwnWalk
import Derived.WalkKit
namespace Go.Proofs.Ytpbnpkbmefjiaaa
set_option linter.unusedVariables false
open Go.RowKit

/-- The slice v reads as xs (elements of one cell each). -/
def Rd (w : World) (v : Value) (xs : List Value) : Prop :=
  ∃ A c, v = .slice A xs.length c ∧ xs.length ≤ c ∧ c ≤ maxLen ∧
    (0 < xs.length → ∃ b off, A = some ⟨b, off, none⟩ ∧ b < w.heap.size ∧ ∀ j (h : j < xs.length), w.cell? ⟨b, off + j, none⟩ = some xs[j])

def bv (u : UInt8) : Value := .int .u8 (u.toNat : Int)
/-- The slice of bytes v reads as l. -/
def Byt (w : World) (v : Value) (l : List UInt8) : Prop := Rd w v (l.map bv)

section
variable {w w' : World} {v : Value} {xs : List Value}
theorem Rd.mk_ {A : Option Addr} {n c : Nat} (hn : n = xs.length) (h1 : n ≤ c) (h2 : c ≤ maxLen)
    (h3 : 0 < n → ∃ b off, A = some ⟨b, off, none⟩ ∧ b < w.heap.size ∧ ∀ j (h : j < xs.length), w.cell? ⟨b, off + j, none⟩ = some xs[j]) : Rd w (.slice A n c) xs := by
  subst hn
  exact ⟨A, c, rfl, h1, h2, h3⟩
theorem Rd.nil (w : World) : Rd w (.slice none 0 0) [] := ⟨none, 0, rfl, Nat.le_refl _, Nat.zero_le _, fun h => absurd h (by simp)⟩
theorem Rd.grow (h : Rd w v xs) (g : Grow w w') : Rd w' v xs := by
  obtain ⟨A, c, rfl, h1, h2, h3⟩ := h
  refine ⟨A, c, rfl, h1, h2, fun hp => ?_⟩
  obtain ⟨b, off, rfl, hb, hc⟩ := h3 hp
  exact ⟨b, off, rfl, Nat.lt_of_lt_of_le hb g.size, fun j hj => (g.cell (p := ⟨b, off + j, none⟩) hb).trans (hc j hj)⟩
theorem Rd.below {B : Nat} {A : Option Addr} {n c : Nat} (h : Rd w (.slice A n c) xs) (hb : Below B w w') (hA : ∀ a, A = some a → a.block < B) : Rd w' (.slice A n c) xs := by
  obtain ⟨A', c', e, h1, h2, h3⟩ := h
  cases e
  refine ⟨A, c, rfl, h1, h2, fun hp => ?_⟩
  obtain ⟨b, off, rfl, hlt, hc⟩ := h3 hp
  exact ⟨b, off, rfl, Nat.lt_of_lt_of_le hlt hb.size, fun j hj => (hb.cell (p := ⟨b, off + j, none⟩) (show b < B from hA ⟨b, off, none⟩ rfl)).trans (hc j hj)⟩
/-- What lies below B and reads there, reads on. -/
theorem Rd.since {w0 : World} (h : Rd w0 v xs) (hb : Below w0.heap.size w0 w') : Rd w' v xs := h.grow hb
theorem Rd.len {A : Option Addr} {n c : Nat} (h : Rd w (.slice A n c) xs) : n = xs.length ∧ n ≤ c ∧ c ≤ maxLen := by
  obtain ⟨A', c', e, h1, h2, _⟩ := h
  cases e
  exact ⟨rfl, h1, h2⟩
theorem Rd.at_ {A : Option Addr} {n c : Nat} (h : Rd w (.slice A n c) xs) (hp : 0 < n) : ∃ b off, A = some ⟨b, off, none⟩ ∧ b < w.heap.size ∧ ∀ j (h : j < xs.length), w.cell? ⟨b, off + j, none⟩ = some xs[j] := by
  obtain ⟨A', c', e, h1, h2, h3⟩ := h
  cases e
  exact h3 hp
theorem Rd.cut {A : Option Addr} {n c lo hi : Nat} (h : Rd w (.slice A n c) xs) (h1 : lo ≤ hi) (h2 : hi ≤ n) :
    Rd w (.slice (if c = lo then A else A.map (·.add lo)) (hi - lo) (c - lo)) ((xs.take hi).drop lo) := by
  obtain ⟨rfl, hc, hm⟩ := h.len
  have hl : ((xs.take hi).drop lo).length = hi - lo := by rw [List.length_drop, List.length_take]; omega
  refine Rd.mk_ hl.symm (by omega) (by omega) fun hp => ?_
  obtain ⟨b, off, rfl, hb, hcell⟩ := h.at_ (by omega)
  rw [if_neg (by omega)]
  refine ⟨b, off + lo, ?_, hb, fun j hj => ?_⟩
  · by_cases h0 : lo = 0
    · subst h0; simp [Addr.add]
    · simp [Addr.add, h0]
  · rw [hl] at hj
    rw [show off + lo + j = off + (lo + j) from by omega, hcell (lo + j) (by omega)]
    simp
theorem Rd.of_own {base : Nat} {e : TypeId} {n : Nat} (h : w.ownsRow base e 1 v n xs) : Rd w v xs := by
  have hl : xs.length = n := by simpa using h.1
  rcases h.2 with ⟨rfl, rfl⟩ | ⟨g, cap, cur, rfl, hbg, hh, hnc, hcm, hcs, ht⟩
  · obtain rfl : xs = [] := List.eq_nil_of_length_eq_zero hl
    exact Rd.nil w
  · refine Rd.mk_ hl.symm hnc hcm fun hp => ⟨g, 0, rfl, ?_, fun j hj => ?_⟩
    · rcases Nat.lt_or_ge g w.heap.size with h' | h'
      · exact h'
      · rw [Array.getElem?_eq_none h'] at hh; cases hh
    · have := h.cells (g := g) rfl j xs[j] (List.getElem?_eq_getElem hj)
      rw [Nat.zero_add]
      by_cases h0 : j = 0
      · subst h0; simpa [Addr.add] using this
      · simpa [Addr.add, h0] using this
/-- A block of the call's own, just made. -/
theorem Rd.block {g n c : Nat} {cs : Array Value} {e : TypeId} (hh : w.heap[g]? = some (.cells cs e (0, 0))) (hn : n ≤ cs.size) (hc : n ≤ c) (hm : c ≤ maxLen) : Rd w (.slice (some ⟨g, 0, none⟩) n c) (cs.toList.take n) := by
  have hl : (cs.toList.take n).length = n := by simp; omega
  refine Rd.mk_ hl.symm hc hm fun hp => ⟨g, 0, rfl, ?_, fun j hj => ?_⟩
  · rcases Nat.lt_or_ge g w.heap.size with h' | h'
    · exact h'
    · rw [Array.getElem?_eq_none h'] at hh; cases hh
  · rw [hl] at hj
    rw [Nat.zero_add, cell_of_row w g j cs e (0, 0) hh]
    simp [Array.getElem?_eq_getElem (show j < cs.size by omega)]
end

section
variable {w w' : World} {v : Value} {l : List UInt8}
theorem Byt.grow (h : Byt w v l) (g : Grow w w') : Byt w' v l := Rd.grow h g
theorem Byt.nil (w : World) : Byt w (.slice none 0 0) [] := Rd.nil w
theorem Byt.form (h : Byt w v l) : ∃ A c, v = .slice A l.length c ∧ l.length ≤ c ∧ c ≤ maxLen := by
  obtain ⟨A, c, rfl, h1, h2, _⟩ := h
  exact ⟨A, c, by simp, by simpa using h1, h2⟩
theorem Byt.len {A : Option Addr} {n c : Nat} (h : Byt w (.slice A n c) l) : n = l.length ∧ n ≤ c ∧ c ≤ maxLen := by simpa using Rd.len h
theorem Byt.at_ {A : Option Addr} {n c : Nat} (h : Byt w (.slice A n c) l) (hp : 0 < n) : ∃ b off, A = some ⟨b, off, none⟩ ∧ b < w.heap.size ∧ ∀ j (h : j < l.length), w.cell? ⟨b, off + j, none⟩ = some (.int .u8 ((l[j]).toNat : Int)) := by
  obtain ⟨b, off, e, hb, hc⟩ := Rd.at_ h hp
  exact ⟨b, off, e, hb, fun j hj => by rw [hc j (by simpa using hj), List.getElem_map]; rfl⟩
theorem Byt.cut {A : Option Addr} {n c lo hi : Nat} (h : Byt w (.slice A n c) l) (h1 : lo ≤ hi) (h2 : hi ≤ n) :
    Byt w (.slice (if c = lo then A else A.map (·.add lo)) (hi - lo) (c - lo)) ((l.take hi).drop lo) := by
  have := Rd.cut h h1 h2
  simpa [Byt, List.map_drop, List.map_take] using this
/-- The cut as the walk parts on it. -/
theorem Byt.cut2 {A : Option Addr} {n c k m : Nat} (h : Byt w (.slice A n c) l) (h1 : k + m ≤ n) :
    (c = k → Byt w (.slice A m 0) ((l.take (k + m)).drop k)) ∧ (¬ c = k → Byt w (.slice (A.map (·.add k)) m (c - k)) ((l.take (k + m)).drop k)) := by
  have h2 := h.cut (lo := k) (hi := k + m) (by omega) h1
  rw [Nat.add_sub_cancel_left] at h2
  refine ⟨fun e => ?_, fun e => ?_⟩
  · rw [if_pos e, e, Nat.sub_self] at h2
    exact h2
  · rw [if_neg e] at h2
    exact h2
theorem Byt.front {A : Option Addr} {n c k : Nat} (h : Byt w (.slice A n c) l) (hk : k ≤ n) : Byt w (.slice A k c) (l.take k) := by
  have h2 : Rd w (.slice A n c) (l.map bv) := h
  obtain ⟨e, hc, hm⟩ := h2.len
  have e1 : ((l.take k).map bv).length = k := by rw [List.length_map, List.length_take]; rw [List.length_map] at e; omega
  refine Rd.mk_ e1.symm (by omega) hm fun hp => ?_
  obtain ⟨b, off, rfl, hb, hcell⟩ := h2.at_ (by omega)
  refine ⟨b, off, rfl, hb, fun j hj => ?_⟩
  rw [hcell j (by rw [e1] at hj; omega)]
  simp
theorem Byt.back {A : Option Addr} {n c k : Nat} (h : Byt w (.slice A n c) l) (hk : k ≤ n) (hc : ¬ c = k) : Byt w (.slice (A.map (·.add k)) (n - k) (c - k)) (l.drop k) := by
  have h2 := h.cut hk (Nat.le_refl n)
  rw [if_neg hc] at h2
  have e := h.len.1
  subst e
  rw [List.take_length] at h2
  exact h2
theorem Byt.back0 {A : Option Addr} {n c k : Nat} (h : Byt w (.slice A n c) l) (hk : k ≤ n) (hc : c = k) : Byt w (.slice A (n - k) (c - k)) (l.drop k) := by
  have h2 := h.cut hk (Nat.le_refl n)
  rw [if_pos hc] at h2
  have e := h.len.1
  subst e
  rw [List.take_length] at h2
  exact h2
theorem Byt.of_own {base : Nat} {e : TypeId} {n : Nat} (h : w.ownsRow base e 1 v n (l.map bv)) : Byt w v l := Rd.of_own h

/-- string(b). -/
theorem Byt.str {P : Program} (h : Byt w v l) (src dst e : TypeId) (hs : P.underlying src = some (.slice e)) (he : P.underlying e = some (.int .u8)) (hd : P.underlying dst = some .string) :
    (convert src dst v).run P w = .ok (.string ⟨l.toArray⟩) w := by
  obtain ⟨A, c, rfl, h1, h2⟩ := h.form
  rcases Nat.eq_zero_or_pos l.length with h0 | h0
  · obtain rfl : l = [] := List.eq_nil_of_length_eq_zero h0
    rw [run_convert_bytes_string w src dst e A _ c hs he hd]
    cases A with
    | none => simp [Conv.bytesToString]; rfl
    | some a => exact run_bytesToString (P := P) w a 0 c [] (by simp [loadCells, loadCellsFrom])
  · obtain ⟨b, off, rfl, hb, hc⟩ := h.at_ h0
    rw [run_convert_bytes_arg (P := P) w src e hs he b off l.length c (l.map fun u => (u.toNat : Int)) (by simp) (fun i hi => by
      rw [hc i hi]; simp [hi]) dst hd]
    have e1 : (l.map fun u => (u.toNat : Int)).map (fun n => UInt8.ofNat n.toNat) = l := by
      rw [List.map_map]
      conv => rhs; rw [← List.map_id l]
      apply List.map_congr_left
      intro u _
      simp
    unfold strOfNums
    rw [e1]
end

/-- append(s, x...) onto a row of the call's own, whatever the source. -/
theorem run_append_rd {P : Program} (w : World) (base : Nat) (t ty e : TypeId) (z : Value) (bytes : Nat) (ht : P.underlying t = some (.slice e))
    (hi : (P.info? e).map (fun i => (i.zero, i.size, i.bytes)) = some (some z, 1, bytes)) (hz : z.cells.size = 1)
    (v : Value) (xs : List Value) (hown : w.ownsRow base e 1 v xs.length xs) (u : Value) (ys : List Value) (hr : Rd w u ys) (h1 : ∀ y ∈ ys, y.oneCell' = true)
    (hbytes : (xs.length + ys.length) * bytes ≤ 140737488355328) (hlen : xs.length + ys.length ≤ maxLen) (hbase : base ≤ w.heap.size) :
    ∃ v' w', (Builtin.append_ #[t, t] ty #[v, u]).run P w = .ok v' w' ∧ w'.ownsRow base e 1 v' (xs ++ ys).length (xs ++ ys) ∧ w.grownBy w' v.ownBlock ∧
      (v'.ownBlock = v.ownBlock ∨ v'.ownBlock = some w.heap.size) := by
  obtain ⟨i, hi0, hz0, hz1, hz2⟩ := info_parts hi
  obtain ⟨A, c, rfl, hlc, hcm, hcell⟩ := hr
  cases A with
  | none =>
    have hy : ys = [] := by
      rcases Nat.eq_zero_or_pos ys.length with h0 | h0
      · exact List.eq_nil_of_length_eq_zero h0
      · obtain ⟨b, off, e', _⟩ := hcell h0
        cases e'
    subst hy
    refine ⟨v, w, ?_, by simpa using hown, World.grownBy.refl w _, .inl rfl⟩
    rcases hown.2 with ⟨rfl, hx⟩ | ⟨g, cap, cur, rfl, _, _, hnc, _⟩
    · simp [Builtin.append_, run_underlying ht, sizeOf, typeInfo, hi0, Builtin.lenOf, Builtin.firstCells]
    · simp [Builtin.append_, run_underlying ht, sizeOf, typeInfo, hi0, Builtin.lenOf, Builtin.firstCells, hnc, storeCells]
  | some ad =>
    have hnews : ∀ j y, ys[j]? = some y → w.cell? (ad.add j) = some y := by
      intro j y hy
      have hj : j < ys.length := by
        rcases Nat.lt_or_ge j ys.length with h | h
        · exact h
        · rw [List.getElem?_eq_none h] at hy; cases hy
      obtain ⟨b, off, e', _, hc⟩ := hcell (by omega)
      injection e' with e'
      subst e'
      have hp : (⟨b, off, none⟩ : Addr).add j = ⟨b, off + j, none⟩ := by unfold Addr.add; split <;> simp_all
      rw [hp, hc j hj, ← hy, List.getElem?_eq_getElem hj]
    obtain ⟨v', w', hrun, h2, h3, _, h5⟩ := run_append_own_at (P := P) w base t ty e i z 1 bytes ht hi0 hz0 hz1 hz2 hz (by omega) v xs.length xs hown ad ys.length c ys (by simp) hnews h1 hlen hbytes hbase
    exact ⟨v', w', hrun, by simpa using h2, h3, h5⟩

theorem wpList_append_rd {P : Program} (w : World) {ops : Array Oper} {rest : List Oper} {o : Oper} {a : Act} {Q : Exit → Act → World → Prop} (hgd : o.guard = none) (s x : Operand) (t : TypeId)
    (ho : o.op = .call { callee := .builtin .append, args := #[s, x], argTypes := #[t, t] })
    (base : Nat) (e : TypeId) (z : Value) (bytes : Nat) (ht : P.underlying t = some (.slice e)) (hi : (P.info? e).map (fun i => (i.zero, i.size, i.bytes)) = some (some z, 1, bytes)) (hz : z.cells.size = 1)
    (v : Value) (n m : Nat) (xs : List Value) (hs : a.eval s = v) (hown : w.ownsRow base e 1 v n xs) (u : Value) (ys : List Value) (hx : a.eval x = u) (hr : Rd w u ys) (hm : Hid (ys.length = m)) (h1 : ∀ y ∈ ys, y.oneCell' = true)
    (hbytes : (n + m) * bytes ≤ 140737488355328) (hlen : n + m ≤ maxLen) (hbase : base ≤ w.heap.size)
    (h : ∀ v' w', w'.ownsRow base e 1 v' (n + m) (xs ++ ys) → w.grownBy w' v.ownBlock → (v'.ownBlock = v.ownBlock ∨ v'.ownBlock = some w.heap.size) → wpList P ops Q rest (a.put o.dst v') w') : wpList P ops Q (o :: rest) a w := by
  obtain rfl : xs.length = n := by simpa using hown.1
  obtain rfl : ys.length = m := hm.out
  obtain ⟨v', w', hrun, h2, h3, h4⟩ := run_append_rd (P := P) w base t o.type e z bytes ht hi hz v xs hown u ys hr h1 hbytes hlen hbase
  rw [List.length_append] at h2
  refine wpList_plain hgd fun K hK => ?_
  unfold Oper.wp execOp
  simp only [ho, resolve, invoke, builtin, Sem.run_bind, Sem.run_pure, Result.andThen_ok, List.map_toArray, List.map_cons, List.map_nil, hs, hx, hrun]
  exact hK _ _ (h v' w' h2 h3 h4)

/-- append(s, x...) within the capacity, whatever the source. -/
theorem wpList_append_fits_rd {P : Program} (w : World) {ops : Array Oper} {rest : List Oper} {o : Oper} {a : Act} {Q : Exit → Act → World → Prop} (hgd : o.guard = none) (s x : Operand) (t : TypeId)
    (ho : o.op = .call { callee := .builtin .append, args := #[s, x], argTypes := #[t, t] })
    (base : Nat) (e : TypeId) (z : Value) (bytes : Nat) (ht : P.underlying t = some (.slice e)) (hi : (P.info? e).map (fun i => (i.zero, i.size, i.bytes)) = some (some z, 1, bytes))
    (g cap n m : Nat) (xs : List Value) (hs : a.eval s = .slice (some ⟨g, 0, none⟩) n cap) (hown : w.ownsRow base e 1 (.slice (some ⟨g, 0, none⟩) n cap) n xs)
    (u : Value) (ys : List Value) (hx : a.eval x = u) (hr : Rd w u ys) (hm : Hid (ys.length = m)) (h1 : ∀ y ∈ ys, y.oneCell' = true) (hroom : n + m ≤ cap)
    (h : ∀ w', w'.ownsRow base e 1 (.slice (some ⟨g, 0, none⟩) (n + m) cap) (n + m) (xs ++ ys) → w.grownBy w' (some g) → wpList P ops Q rest (a.put o.dst (.slice (some ⟨g, 0, none⟩) (n + m) cap)) w') : wpList P ops Q (o :: rest) a w := by
  obtain ⟨i, hi0, hz0, hz1, hz2⟩ := info_parts hi
  obtain rfl : xs.length = n := by simpa using hown.1
  obtain rfl : ys.length = m := hm.out
  obtain ⟨A, c, rfl, hlc, hcm, hcell⟩ := hr
  have done : ∃ w', (Builtin.append_ #[t, t] o.type #[.slice (some ⟨g, 0, none⟩) xs.length cap, .slice A ys.length c]).run P w = .ok (.slice (some ⟨g, 0, none⟩) (xs.length + ys.length) cap) w' ∧
      w'.ownsRow base e 1 (.slice (some ⟨g, 0, none⟩) (xs.length + ys.length) cap) (xs.length + ys.length) (xs ++ ys) ∧ w.grownBy w' (some g) := by
    rcases Nat.eq_zero_or_pos ys.length with h0 | h0
    · have hy := List.eq_nil_of_length_eq_zero h0
      subst hy
      refine ⟨w, ?_, by simpa using hown, World.grownBy.refl _ _⟩
      rcases hown.2 with ⟨h', _⟩ | ⟨g', cap', cur, h', _, hg, hnc, _, hcs, htake⟩
      · cases h'
      · cases A <;> simp [Builtin.append_, run_underlying ht, sizeOf, typeInfo, hi0, Builtin.lenOf, Builtin.firstCells, storeCells, loadCells, loadCellsFrom] <;> omega
    · obtain ⟨b, off, rfl, _, hc⟩ := hcell h0
      have hnews : ∀ j y, ys[j]? = some y → w.cell? ((⟨b, off, none⟩ : Addr).add j) = some y := by
        intro j y hy
        have hj : j < ys.length := by
          rcases Nat.lt_or_ge j ys.length with h | h
          · exact h
          · rw [List.getElem?_eq_none h] at hy; cases hy
        have hp : (⟨b, off, none⟩ : Addr).add j = ⟨b, off + j, none⟩ := by unfold Addr.add; split <;> simp_all
        rw [hp, hc j hj, ← hy, List.getElem?_eq_getElem hj]
      obtain ⟨w', hrun, h2, h3⟩ := run_append_fits (P := P) w base t o.type e i 1 ht hi0 hz1 g xs.length cap xs hown ⟨b, off, none⟩ ys.length c ys (by simp) hnews h1 hroom
      exact ⟨w', by simpa using hrun, by simpa using h2, h3⟩
  obtain ⟨w', hrun, h2, h3⟩ := done
  refine wpList_plain hgd fun K hK => ?_
  unfold Oper.wp execOp
  simp only [ho, resolve, invoke, builtin, Sem.run_bind, Sem.run_pure, Result.andThen_ok, List.map_toArray, List.map_cons, List.map_nil, hs, hx, hrun]
  exact hK _ _ (h w' h2 h3)

/-- Slices of slices of bytes. -/
def Byts (w : World) (v : Value) (ls : List (List UInt8)) : Prop := ∃ us, us.length = ls.length ∧ Rd w v us ∧ ∀ (i : Nat) (u : Value) (l : List UInt8), us[i]? = some u → ls[i]? = some l → Byt w u l
theorem Byts.grow {w w' : World} {v : Value} {ls : List (List UInt8)} (h : Byts w v ls) (g : Grow w w') : Byts w' v ls := by
  obtain ⟨us, h1, h2, h3⟩ := h
  exact ⟨us, h1, h2.grow g, fun i u l hu hl => (h3 i u l hu hl).grow g⟩
theorem Byts.len {w : World} {A : Option Addr} {n c : Nat} {ls : List (List UInt8)} (h : Byts w (.slice A n c) ls) : n = ls.length ∧ n ≤ c ∧ c ≤ maxLen := by
  obtain ⟨us, h1, h2, _⟩ := h
  rw [← h1]
  exact h2.len
theorem Byts.form {w : World} {v : Value} {ls : List (List UInt8)} (h : Byts w v ls) : ∃ A c, v = .slice A ls.length c ∧ ls.length ≤ c ∧ c ≤ maxLen := by
  obtain ⟨us, h1, ⟨A, c, rfl, h2, h3, _⟩, _⟩ := h
  exact ⟨A, c, by rw [h1], by omega, h3⟩
theorem Byts.at_ {w : World} {A : Option Addr} {n c : Nat} {ls : List (List UInt8)} (h : Byts w (.slice A n c) ls) (hp : 0 < n) :
    ∃ b off, A = some ⟨b, off, none⟩ ∧ b < w.heap.size ∧ ∀ j (h : j < ls.length), ∃ u, w.cell? ⟨b, off + j, none⟩ = some u ∧ Byt w u ls[j] := by
  obtain ⟨us, h1, h2, h3⟩ := h
  obtain ⟨b, off, e, hb, hc⟩ := h2.at_ hp
  exact ⟨b, off, e, hb, fun j hj => ⟨us[j]'(by omega), hc j (by omega), h3 j _ _ (List.getElem?_eq_getElem (by omega)) (List.getElem?_eq_getElem hj)⟩⟩

/-- A literal of slices, just built. -/
theorem Byts.lit (w : World) (cs : Array Value) (e : TypeId) (ls : List (List UInt8)) (k : Nat) (hk : k = ls.length) (h : cs.size = ls.length) (hm : ls.length ≤ maxLen) (hs : ∀ (i : Nat) (u : Value) (l : List UInt8), cs[i]? = some u → ls[i]? = some l → Byt w u l) :
    Byts (w.alloc (.cells cs e)) (.slice (some ⟨w.heap.size, 0, none⟩) k k) ls := by
  subst hk
  refine ⟨cs.toList, by simpa using h, ?_, fun i u l hu hl => (hs i u l (by simpa using hu) hl).grow (Grow.alloc _ _)⟩
  have hr := Rd.block (w := w.alloc (.cells cs e)) (g := w.heap.size) (n := ls.length) (c := ls.length) (heap_alloc_new w _) (by omega) (Nat.le_refl _) hm
  rwa [List.take_of_length_le (by simp; omega)] at hr
theorem byt_one {w : World} {a : Value} {l : List UInt8} (ha : Byt w a l) : ∀ (i : Nat) (u : Value) (k : List UInt8), (#[a] : Array Value)[i]? = some u → [l][i]? = some k → Byt w u k := by
  intro i u k hu hk
  match i with
  | 0 => simp at hu hk; subst hu; subst hk; exact ha
  | i + 1 => simp at hk
theorem byt_two {w : World} {a b : Value} {l m : List UInt8} (ha : Byt w a l) (hb : Byt w b m) : ∀ (i : Nat) (u : Value) (k : List UInt8), (#[a, b] : Array Value)[i]? = some u → [l, m][i]? = some k → Byt w u k := by
  intro i u k hu hk
  match i with
  | 0 => simp at hu hk; subst hu; subst hk; exact ha
  | 1 => simp at hu hk; subst hu; subst hk; exact hb
  | i + 2 => simp at hk
theorem byt_three {w : World} {a b c : Value} {l m n : List UInt8} (ha : Byt w a l) (hb : Byt w b m) (hc : Byt w c n) : ∀ (i : Nat) (u : Value) (k : List UInt8), (#[a, b, c] : Array Value)[i]? = some u → [l, m, n][i]? = some k → Byt w u k := by
  intro i u k hu hk
  match i with
  | 0 => simp at hu hk; subst hu; subst hk; exact ha
  | 1 => simp at hu hk; subst hu; subst hk; exact hb
  | 2 => simp at hu hk; subst hu; subst hk; exact hc
  | i + 3 => simp at hk

theorem bv_one (l : List UInt8) : ∀ y ∈ l.map bv, y.oneCell' = true := by
  intro y hy
  obtain ⟨u, _, rfl⟩ := List.mem_map.1 hy
  rfl
theorem Byt.form2 {w : World} {v : Value} {l : List UInt8} (h : Byt w v l) : ∃ A m c, v = .slice A m c ∧ Hid (m = l.length) := by
  obtain ⟨A, c, rfl, _, _⟩ := h.form
  exact ⟨A, _, c, rfl, rfl⟩
theorem ret_int {k : IntKind} {a b : Int} (h : a = b) : Ending.returned (.int k a) = .returned (.int k b) := by rw [h]
theorem ret_bool {a b : Bool} (h : a = b) : Ending.returned (.bool a) = .returned (.bool b) := by rw [h]
theorem Byt.anywhere {w w' : World} {v : Value} (h : Byt w v []) : Byt w' v [] := by
  obtain ⟨A, c, e, h1, h2, _⟩ := h
  exact ⟨A, c, e, h1, h2, fun h => absurd h (by simp)⟩
end Go.Proofs.Ytpbnpkbmefjiaaa
