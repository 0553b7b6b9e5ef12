/- Contracts: Meet's closure, slices.IndexFunc and slices.DeleteFunc of datagrams. -/
import Derived.Test.YtkblgigpgpjjlaaUpTake
import Derived.Shelf.Abstract
namespace Go.Proofs.Ytkblgigpgpjjlaa
set_option linter.unusedVariables false
set_option linter.unusedSimpArgs false
open Go.ChangeShapes Go.WideShapes Go.ChangeAt Go.RowKit Go.Shelf

@[reducible] def mcV (x : Mc) : Value := .agg #[.int .u32 x.f.ad, .int .u16 x.f.po, .slice x.A x.n x.c]
set_option maxHeartbeats 1000000 in
theorem meet1P {q : World} {bp pb : Nat} {most room pa pp told lost : Int} {vL : Value} (h1 : q.heap[bp]? = some (.cells #[.pointer (some ⟨pb, 0, none⟩)] 25 (0, 0))) (h2 : UdB q pb most room vL pa pp told lost) (x : Mc) :
    Calls Try.prog 30 #[mcV x, .pointer (some ⟨bp, 0, none⟩)] q fun e w' => e = .returned (.bool (!decide (letsS ⟨pa, pp⟩ x.f))) ∧ Grow q w' := by
  obtain ⟨⟨a, p⟩, A, n, c, d⟩ := x
  unfold mcV
  obtain ⟨W, hW⟩ : ∃ W, W = q.alloc (.cells #[.int .u32 a, .int .u16 p, .slice A n c] 40) := ⟨_, rfl⟩
  have hg : Grow q W := by rw [hW]; exact Grow.alloc _ _
  have hb : MlB W q.heap.size a p (.slice A n c) := by rw [hW]; exact heap_alloc_new q _
  have z0 := hb.c0
  have z1 := hb.c1
  have y0 : W.cell? ⟨bp, 0, none⟩ = some (.pointer (some ⟨pb, 0, none⟩)) := (cell_of_row W bp 0 _ _ _ ((hg.block bp (Array.getElem?_eq_some_iff.1 h1).1).trans h1)).trans rfl
  have cT := permP (h2.grow hg) ⟨a, p⟩
  have HG := Lib.hid hg
  simp only
  generalize decide (letsS ⟨pa, pp⟩ ⟨a, p⟩) = b at *
  clear h1 h2 hg hb
  go_enter Try.func30, Try.ntmps30
  go_upto_region 1 with fail
  rw [← hW]
  have HW := Lib.hid hW
  clear hW
  go_wp2_with fail
  refine cT.mono ?_
  rintro e w2 ⟨rfl, g2⟩
  have HG2 := Lib.hid (HG.out.trans g2)
  clear cT g2 z0 z1 y0
  go_wp2_with fail
  go_ret
  exact ⟨rfl, HG2.out⟩
/-- What is asked of a predicate over datagrams: it answers p, and only memory grows. -/
structure Pred (PQ : World → Prop) (p : Mc → Bool) (bp : Nat) (g : Nat) : Prop where
  call : ∀ q x, PQ q → Calls Try.prog 30 #[mcV x, .pointer (some ⟨bp, 0, none⟩)] q fun e w' => e = .returned (.bool (p x)) ∧ Grow q w'
  grow : ∀ q q', PQ q → Grow q q' → PQ q'
  row : ∀ q q', PQ q → q.grownBy q' (some g) → PQ q'
set_option maxRecDepth 10000 in
set_option maxHeartbeats 1000000 in
theorem idxU {PQ : World → Prop} {p : Mc → Bool} {bp g : Nat} (HP : Pred PQ p bp g) (w : World) (v : Value) (l : List Mc) (h : RdG mcC w v l) (hl : l.length ≤ 1000) (hq : PQ w) :
    Calls Try.prog 32 #[v, .func (.func 30) #[] #[.pointer (some ⟨bp, 0, none⟩)]] w fun e w' => Grow w w' ∧ ((∃ (k : Nat) (x : Mc), l[k]? = some x ∧ p x = true ∧ (∀ (j : Nat) (y : Mc), j < k → l[j]? = some y → p y = false) ∧ e = .returned (.int .i64 (k : Int))) ∨ ((∀ x ∈ l, p x = false) ∧ e = .returned (.int .i64 (-1)))) := by
  have HB := Lib.hid h
  obtain ⟨A, cp, hvb, _⟩ := h.form
  obtain ⟨N, hN⟩ : ∃ N, N = l.length := ⟨_, rfl⟩
  rw [← hN] at hvb
  have HN := Lib.hid (And.intro hN hl)
  have HQ := Lib.hid hq
  subst hvb
  have eg : ∀ args w, (callFunc 30 args).run Try.prog w = .ok (.enter 30 args) w := enters_of Try.func30 (by kernel_rfl) rfl
  have HPr := Lib.hid HP
  clear h hl hN hq HP
  go_enter Try.func32, Try.ntmps32
  go_wp2_with fail
  go_loopg [8] N (fun gk s8 wr => ∃ i : Nat, gk = N - i ∧ s8 = .int .i64 (i : Int) ∧ Hid (i ≤ N ∧ Grow w wr ∧ ∀ (j : Nat) (y : Mc), j < i → l[j]? = some y → p y = false))
  case atStart => exact ⟨0, rfl, rfl, Nat.zero_le _, Grow.refl _, fun j y hj => absurd hj (Nat.not_lt_zero _)⟩
  case round =>
    obtain ⟨i, rfl, rfl, HR⟩ := hrel
    rename World => wo
    rcases Nat.lt_or_ge i N with hlt | hge
    · obtain ⟨b, off, c', e1, hb, hc⟩ := mc_cells HB.out (by have := HN.out.1; omega)
      obtain ⟨x, hx⟩ : ∃ x, l[i]? = some x := ⟨_, List.getElem?_eq_getElem (by have := HN.out.1; omega)⟩
      obtain ⟨x0, x1, x2⟩ := hc i x hx
      have e2 : A = some ⟨b, off, none⟩ := by injection e1
      have y0 := (HR.out.2.1.cell (p := ⟨b, off + i * 3, none⟩) hb).trans x0
      have y1 := (HR.out.2.1.cell (p := ⟨b, off + i * 3 + 1, none⟩) hb).trans x1
      have y2 := (HR.out.2.1.cell (p := ⟨b, off + i * 3 + 2, none⟩) hb).trans x2
      have i1 : (i : Int) < (N : Int) := by omega
      have ib : i < 1000 := by have := HN.out; omega
      subst e2
      have cP := HPr.out.call wo x (HPr.out.grow w wo HQ.out HR.out.2.1)
      unfold mcV at cP
      have HX := Lib.hid (And.intro hlt hx)
      have HPx : Hid (p x = p x) := rfl
      obtain ⟨px, hpx⟩ : ∃ px, px = p x := ⟨_, rfl⟩
      rw [← hpx] at cP
      have HPX := Lib.hid hpx
      obtain ⟨⟨xa, xp⟩, xA, xn, xc, xd⟩ := x
      simp only at y0 y1 y2 cP
      clear e1 hc hx x0 x1 x2 hb hlt hpx HPx
      cases px with
      | true =>
        go_wp2_with fail
        refine cP.mono ?_
        rintro e w2 ⟨rfl, g2⟩
        have HG2 := Lib.hid (HR.out.2.1.trans g2)
        clear cP g2 y0 y1 y2
        go_wp2_with fail
        go_ret
        exact ⟨HG2.out, .inl ⟨i, _, HX.out.2, HPX.out.symm, HR.out.2.2, rfl⟩⟩
      | false =>
        go_wp2_with fail
        refine cP.mono ?_
        rintro e w2 ⟨rfl, g2⟩
        have HG2 := Lib.hid (HR.out.2.1.trans g2)
        clear cP g2 y0 y1 y2
        go_wp2_with fail
        go_roundg (N - (i + 1))
        case measure => have := HX.out.1; omega
        case rel => exact ⟨i + 1, rfl, by go_num, by have := HX.out.1; omega, HG2.out, fun j y hj hy => by
          rcases Nat.lt_or_ge j i with hj' | hj'
          · exact HR.out.2.2 j y hj' hy
          · have : j = i := by omega
            subst this
            have : y = _ := Option.some.inj (hy.symm.trans HX.out.2)
            rw [this]
            exact HPX.out.symm⟩
    · obtain rfl : i = N := by have := HR.out.1; omega
      clear hge
      go_wp2_with fail
      go_ret
      exact ⟨HR.out.2.1, .inr ⟨fun x hx => by
        obtain ⟨j, hj⟩ := List.mem_iff_getElem?.1 hx
        have hlt := (List.getElem?_eq_some_iff.1 hj).1
        exact HR.out.2.2 j x (by rw [HN.out.1]; exact hlt) hj, rfl⟩⟩
section
variable {l m : List Mc} {p : Mc → Bool} {i j k : Nat} {x : Mc}
theorem kept_start (hx : l[k]? = some x) (hp : p x = true) (h : ∀ (j : Nat) (y : Mc), j < k → l[j]? = some y → p y = false) : l.take k = (l.take (k + 1)).filter fun y => !p y := by
  rw [List.take_add_one, hx, Option.toList_some, List.filter_append, List.filter_cons, hp]
  simp only [Bool.not_true, Bool.false_eq_true, if_false, List.filter_nil, List.append_nil]
  refine (List.filter_eq_self.2 fun y hy => ?_).symm
  obtain ⟨j, hj⟩ := List.mem_iff_getElem?.1 hy
  have hlt := (List.getElem?_eq_some_iff.1 hj).1
  rw [List.length_take] at hlt
  rw [List.getElem?_take_of_lt (by omega)] at hj
  rw [h j y (by omega) hj]
  rfl
theorem kept_skip (hx : l[j]? = some x) (hp : p x = true) (h1 : m.take i = (l.take j).filter fun y => !p y) (h2 : m.drop j = l.drop j) : (m.take i = (l.take (j + 1)).filter fun y => !p y) ∧ m.drop (j + 1) = l.drop (j + 1) := by
  refine ⟨?_, by rw [← List.drop_drop, ← List.drop_drop, h2]⟩
  rw [List.take_add_one, hx, Option.toList_some, List.filter_append, List.filter_cons, hp, h1]
  simp
theorem kept_put (hx : l[j]? = some x) (hp : p x = false) (h1 : m.take i = (l.take j).filter fun y => !p y) (h2 : m.drop j = l.drop j) (hi : i < m.length) (hij : i < j) : ((m.set i x).take (i + 1) = (l.take (j + 1)).filter fun y => !p y) ∧ (m.set i x).drop (j + 1) = l.drop (j + 1) := by
  refine ⟨?_, ?_⟩
  · rw [List.take_add_one, List.take_set_of_le (Nat.le_refl i), List.getElem?_set_self hi, h1, List.take_add_one, hx, Option.toList_some, List.filter_append, List.filter_cons, hp]
    simp
  · rw [List.drop_set_of_lt (by omega), ← List.drop_drop, ← List.drop_drop, h2]
theorem kept_at (h2 : m.drop j = l.drop j) (hx : l[j]? = some x) : m[j]? = some x := by
  have e1 : (m.drop j)[0]? = m[j]? := by rw [List.getElem?_drop]; rfl
  have e2 : (l.drop j)[0]? = l[j]? := by rw [List.getElem?_drop]; rfl
  rw [← e1, h2, e2, hx]
theorem kept_len (h1 : m.take i = (l.take j).filter fun y => !p y) (hi : i ≤ m.length) : i = ((l.take j).filter fun y => !p y).length := by
  rw [← h1, List.length_take]
  omega
end
/-- What DeleteFunc keeps from round to round. -/
def DfR (w wr : World) (g N cp : Nat) (l : List Mc) (p : Mc → Bool) (PQ : World → Prop) (i j : Nat) : Prop := i < j ∧ j ≤ N ∧ PQ wr ∧ ChgS (fun b => b = g) w wr ∧ ∃ m cur, Blk1 mcC 40 wr g N cp m cur ∧ (m.take i = (l.take j).filter fun y => !p y) ∧ m.drop j = l.drop j
theorem ChgS.grown {S : Nat → Prop} {w q q' : World} {b : Nat} (h : ChgS S w q) (g : q.grownBy q' (some b)) (hb : S b) : ChgS S w q' := h.by_ g (.inl hb)
theorem Blk1.gr {w w' : World} {g n cp : Nat} {m : List Mc} {cur : Array Value} (h : Blk1 mcC 40 w g n cp m cur) (k : Grow w w') : Blk1 mcC 40 w' g n cp m cur :=
  ⟨(k.block g (Array.getElem?_eq_some_iff.1 h.blk).1).trans h.blk, h.le, h.mx, h.sz, h.tk, h.len⟩
end Go.Proofs.Ytkblgigpgpjjlaa
