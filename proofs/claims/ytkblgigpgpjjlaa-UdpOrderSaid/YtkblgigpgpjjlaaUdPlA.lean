/- What UdpPlays keeps from round to round. -/
import Derived.Test.YtkblgigpgpjjlaaUdMuch
namespace Go.Proofs.Ytkblgigpgpjjlaa
set_option linter.unusedVariables false
set_option linter.unusedSimpArgs false
open Go.ChangeShapes Go.WideShapes Go.ChangeAt Go.RowKit

/-- The law's copy of a call. -/
def UaB (w : World) (g : Nat) (x : Ua) : Prop := w.heap[g]? = some (.cells #[.int .i64 x.d, .int .i64 x.n, .int .u32 x.m.f.ad, .int .u16 x.m.f.po, .slice x.m.A x.m.n x.m.c] 42 (0, 0))
/-- Within a round: the program at u', the reference at u; the law's box, its copy of the call. -/
structure UPr (Up : UbT) (w wr : World) (pb rb ab : Nat) (x : Ua) (u u' : Ub) (vL : Value) (i : Nat) : Prop where
  p : ∃ S, Up wr S pb u' ∧ ∀ b, S b → w.heap.size ≤ b ∧ b ≠ rb ∧ b ≠ ab ∧ vL.ownBlock ≠ some b
  blk : UbB wr rb u.most u.room u.pe.ad u.pe.po vL u.lost u.told
  row : ∃ l, Mcs wr w.heap.size vL l ∧ l.map Mc.ml = u.L ∧ Reads w l
  act : UaB wr ab x
  low : w.heap.size ≤ rb ∧ w.heap.size ≤ ab
  few : 0 ≤ u.lost ∧ u.lost ≤ 100 * (i : Int)
  g : Grow w wr
/-- Between rounds. -/
structure UPl (Up : UbT) (w wr : World) (pb rb : Nat) (u : Ub) (vL : Value) (i : Nat) : Prop where
  p : ∃ S, Up wr S pb u ∧ ∀ b, S b → w.heap.size ≤ b ∧ b ≠ rb ∧ vL.ownBlock ≠ some b
  blk : UbB wr rb u.most u.room u.pe.ad u.pe.po vL u.lost u.told
  row : ∃ l, Mcs wr w.heap.size vL l ∧ l.map Mc.ml = u.L ∧ Reads w l
  low : w.heap.size ≤ rb
  few : 0 ≤ u.lost ∧ u.lost ≤ 100 * (i : Int)
  g : Grow w wr
section
variable {Up : UbT} {w wr w2 w3 w4 : World} {pb rb ab i : Nat} {x : Ua} {u u' u2 : Ub} {vL : Value}
theorem UPr.grow (I : UIf Up) (h : UPr Up w wr pb rb ab x u u' vL i) (k : Grow wr w2) : UPr Up w w2 pb rb ab x u u' vL i := by
  obtain ⟨S, h1, h2⟩ := h.p
  obtain ⟨l, r1, r2, r3⟩ := h.row
  exact ⟨⟨S, I.grow h1 k, h2⟩, h.blk.grow k, ⟨l, r1.grow k, r2, r3⟩, (k.block _ (Array.getElem?_eq_some_iff.1 h.act).1).trans h.act, h.low, h.few, h.g.trans k⟩
theorem UPr.ok (I : UIf Up) (h : UPr Up w wr pb rb ab x u u' vL i) : UOk u' := by
  obtain ⟨S, h1, _⟩ := h.p
  exact I.ok h1
theorem UPl.begin (I : UIf Up) (h : UPl Up w wr pb rb u vL i) (x : Ua) (k : Grow wr w2) (ha : UaB w2 ab x) (hab : ab = wr.heap.size) : UPr Up w w2 pb rb ab x u u vL i := by
  obtain ⟨S, h1, h2⟩ := h.p
  obtain ⟨l, r1, r2, r3⟩ := h.row
  exact ⟨⟨S, I.grow h1 k, fun b hb => ⟨(h2 b hb).1, (h2 b hb).2.1, fun e => by have := I.lt h1 b hb; omega, (h2 b hb).2.2⟩⟩, h.blk.grow k, ⟨l, r1.grow k, r2, r3⟩, ha, ⟨h.low, by rw [hab]; exact h.g.size⟩, h.few, h.g.trans k⟩
theorem UPr.fin (h : UPr Up w wr pb rb ab x u u vL i) : UPl Up w wr pb rb u vL i := by
  obtain ⟨S, h1, h2⟩ := h.p
  exact ⟨⟨S, h1, fun b hb => ⟨(h2 b hb).1, (h2 b hb).2.1, (h2 b hb).2.2.2⟩⟩, h.blk, h.row, h.low.1, h.few, h.g⟩
theorem UPl.next (h : UPl Up w wr pb rb u vL i) : UPl Up w wr pb rb u vL (i + 1) := ⟨h.p, h.blk, h.row, h.low, ⟨h.few.1, by have := h.few.2; omega⟩, h.g⟩
/-- The program went ahead. -/
theorem UPr.prog {S : Nat → Prop} (h : UPr Up w wr pb rb ab x u u' vL i) (h1 : ∀ b, S b → w.heap.size ≤ b ∧ b ≠ rb ∧ b ≠ ab ∧ vL.ownBlock ≠ some b) (q : UPost Up wr w2 S pb u2) : UPr Up w w2 pb rb ab x u u2 vL i := by
  obtain ⟨k, S', q1, q2⟩ := q
  obtain ⟨l, r1, r2, r3⟩ := h.row
  have hlt := h.blk.lt
  have hla := (Array.getElem?_eq_some_iff.1 h.act).1
  refine ⟨⟨S', q1, fun b hb => ?_⟩, (k.block rb hlt fun e => (h1 rb e).2.1 rfl).trans h.blk, ⟨l, OffR.other r1 fun b cs hb hh => k.block b (Array.getElem?_eq_some_iff.1 hh).1 fun e => (h1 b e).2.2.2 hb, r2, r3⟩, (k.block ab hla fun e => (h1 ab e).2.2.1 rfl).trans h.act, h.low, h.few, Below.trans h.g (k.low (fun b hb => (h1 b hb).1) h.g.size)⟩
  rcases q2 b hb with e | e
  · exact h1 b e
  · refine ⟨Nat.le_trans h.g.size e, by omega, by omega, fun hv => ?_⟩
    have := (OffR.lt r1 hv).2
    omega
/-- What the reference's call leaves: its box is stored back then. -/
def RAft (Up : UbT) (w w2 w3 : World) (pb rb ab : Nat) (x : Ua) (u2 : Ub) (vL' : Value) (i : Nat) : Prop := Grow w2 w3 ∧ vL'.oneCell' = true ∧ UbB w3 rb u2.most u2.room u2.pe.ad u2.pe.po vL' u2.lost u2.told
theorem UPr.refd {S : Nat → Prop} (I : UIf Up) (h : UPr Up w w2 pb rb ab x u u' vL i) (h1 : Up w2 S pb u' ∧ ∀ b, S b → w.heap.size ≤ b ∧ b ≠ rb ∧ b ≠ ab ∧ vL.ownBlock ≠ some b) (g3 : Grow w2 w3) {vL' : Value} {l' : List Mc} (hr : Mcs w3 w.heap.size vL' l') (hl : l'.map Mc.ml = u'.L) (hR : Reads w l') (hq : ∀ k, vL'.ownBlock = some k → ¬ S k)
    (hf : 0 ≤ u'.lost ∧ u'.lost ≤ 100 * ((i + 1 : Nat) : Int)) (hb : UbB w4 rb u'.most u'.room u'.pe.ad u'.pe.po vL' u'.lost u'.told) (hk : But rb w3 w4) (g4 : Grow w w4) : UPr Up w w4 pb rb ab x u' u' vL' (i + 1) := by
  obtain ⟨p1, p2⟩ := h1
  have hb3 := h.blk.grow g3
  have ha3 : UaB w3 ab x := (g3.block _ (Array.getElem?_eq_some_iff.1 h.act).1).trans h.act
  refine ⟨⟨S, I.keep (I.grow p1 g3) (by rw [hk.1]; exact Nat.le_refl _) fun b hb2 => hk.2 b (p2 b hb2).2.1, fun b hb2 => ⟨(p2 b hb2).1, (p2 b hb2).2.1, (p2 b hb2).2.2.1, fun e => hq b e hb2⟩⟩, hb, ⟨l', Mcs.but_ hr hb3 hk, hl, hR⟩, (hk.2 ab fun e => ?_).trans ha3, h.low, hf, g4⟩
  subst e
  have := ha3.symm.trans hb3
  injection this with this
  injection this with _ e2
  exact absurd e2 (by decide)
theorem UPr.c0 (h : UPr Up w wr pb rb ab x u u' vL i) : wr.cell? ⟨ab, 0, none⟩ = some (.int .i64 x.d) := (cell_of_row wr ab 0 _ _ _ h.act).trans rfl
theorem UPr.c1 (h : UPr Up w wr pb rb ab x u u' vL i) : wr.cell? ⟨ab, 1, none⟩ = some (.int .i64 x.n) := (cell_of_row wr ab 1 _ _ _ h.act).trans rfl
theorem UPr.c2 (h : UPr Up w wr pb rb ab x u u' vL i) : wr.cell? ⟨ab, 2, none⟩ = some (.int .u32 x.m.f.ad) := (cell_of_row wr ab 2 _ _ _ h.act).trans rfl
theorem UPr.c3 (h : UPr Up w wr pb rb ab x u u' vL i) : wr.cell? ⟨ab, 3, none⟩ = some (.int .u16 x.m.f.po) := (cell_of_row wr ab 3 _ _ _ h.act).trans rfl
theorem UPr.c4 (h : UPr Up w wr pb rb ab x u u' vL i) : wr.cell? ⟨ab, 4, none⟩ = some (.slice x.m.A x.m.n x.m.c) := (cell_of_row wr ab 4 _ _ _ h.act).trans rfl
/-- Told: the law writes it into the reference's box itself. -/
theorem UPr.told {n : Int} (I : UIf Up) (h : UPr Up w wr pb rb ab x u (teU u n) vL i) (h0 : u.told = 0) : UPr Up w (wr.setCell ⟨rb, 6, none⟩ (.int .i64 n)) pb rb ab x (teU u n) (teU u n) vL i := by
  obtain ⟨S, h1, h2⟩ := h.p
  obtain ⟨l, r1, r2, r3⟩ := h.row
  have e : teU u n = { u with told := n } := if_pos h0
  have k : ∀ b, b ≠ rb → (wr.setCell ⟨rb, 6, none⟩ (.int .i64 n)).heap[b]? = wr.heap[b]? := fun b hb => Below.heap_setCell _ _ _ _ hb
  rw [e] at h1 ⊢
  refine ⟨⟨S, I.keep h1 (by simp [World.setCell]) fun b hb => k b (h2 b hb).2.1, h2⟩, h.blk.set6 n, ⟨l, Mcs.set_ r1 h.blk, r2, r3⟩, (k ab fun q => ?_).trans h.act, h.low, h.few, Below.setCell h.g h.low.1 _⟩
  subst q
  have := h.act.symm.trans h.blk
  injection this with this
  injection this with _ e2
  exact absurd e2 (by decide)
end
section
variable {u : Ub}
theorem puU_lost (u : Ub) (m : Ml) : (puU u m).lost = u.lost ∨ (puU u m).lost = u.lost + 1 := by
  unfold puU
  by_cases q : letsS u.pe m.f
  · rw [if_neg (fun k => k q)]
    by_cases q2 : fullU u m
    · rw [if_pos q2]; exact .inr rfl
    · rw [if_neg q2]; exact .inl rfl
  · rw [if_pos q]; exact .inl rfl
theorem meU_lost (u : Ub) (e : Ed) : u.lost ≤ (meU u e).lost ∧ (meU u e).lost ≤ u.lost + (u.L.length : Int) := by
  unfold meU
  by_cases q : badE e
  · rw [if_pos q]; exact ⟨Int.le_refl _, by omega⟩
  · rw [if_neg q]
    show u.lost ≤ u.lost + ((u.L.length - (letL e u.L).length : Nat) : Int) ∧ _
    exact ⟨by omega, by show u.lost + ((u.L.length - (letL e u.L).length : Nat) : Int) ≤ _; omega⟩
theorem tkuU_lost (u : Ub) (n : Int) : (tkuU u n).lost = u.lost := by
  rcases tku_cases u n with ⟨_, _, _, _, e⟩ | ⟨_, _, _, _, _, e⟩ | ⟨_, _, _, _, _, _, e⟩ | ⟨_, _, _, _, _, _, _, _, e⟩ <;> rw [e]
end
section
variable {Up : UbT} {w wr w2 : World} {pb rb ab i : Nat} {x : Ua} {u u' : Ub} {vL : Value}
/-- A call that the law may make. -/
def Ua.Fit (w : World) (x : Ua) : Prop := x.Ok w ∧ x.m.d.length ≤ 20000
theorem upr_put (I : UIf Up) (h : UPr Up w wr pb rb ab x u u vL i) (hi : i ≤ 100) (hx : x.Fit w) : Calls Try.prog 10 #[.pointer (some ⟨pb, 0, none⟩), .agg #[.int .u32 x.m.f.ad, .int .u16 x.m.f.po, .slice x.m.A x.m.n x.m.c]] wr fun e w2 => e = .returned (.int .i64 (puE u x.m.ml)) ∧ UPr Up w w2 pb rb ab x u (puU u x.m.ml) vL i := by
  obtain ⟨S, h1, h2⟩ := h.p
  refine (I.put h1 ⟨h.few.1, by have := h.few.2; omega⟩ x.m.f x.m.v x.m.d hx.1.2.2.1 (hx.1.2.2.2.1.grow h.g) (fun hp k hk q => ?_) (by have := hx.2; omega)).mono ?_
  · have := hx.1.2.2.2.1.old hp hk
    have := (h2 k q).1
    omega
  rintro e w2 ⟨rfl, q⟩
  exact ⟨rfl, h.prog h2 q⟩
theorem upr_take (I : UIf Up) (h : UPr Up w wr pb rb ab x u u vL i) (n : Int) (hn : In64 n) : Calls Try.prog 12 #[.pointer (some ⟨pb, 0, none⟩), .int .i64 n] wr fun e w2 => ∃ v, e = .returned (.tuple #[.agg #[.int .u32 (tkuM u n).f.ad, .int .u16 (tkuM u n).f.po, v], .int .i64 (tkuN u n), .int .i64 (tkuE u n)]) ∧ Byt w2 v (tkuM u n).d ∧ UPr Up w w2 pb rb ab x u (tkuU u n) vL i := by
  obtain ⟨S, h1, h2⟩ := h.p
  refine (I.take h1 n hn).mono ?_
  rintro e w2 ⟨v, rfl, hb, q⟩
  exact ⟨v, rfl, hb, h.prog h2 q⟩
theorem upr_meet (I : UIf Up) (h : UPr Up w wr pb rb ab x u u vL i) (hi : i ≤ 100) (e : Ed) (he : e.Ok) : Calls Try.prog 15 #[.pointer (some ⟨pb, 0, none⟩), .agg #[.int .u32 e.ad, .int .u16 e.po]] wr fun e' w2 => e' = .returned (.int .i64 (meE e)) ∧ UPr Up w w2 pb rb ab x u (meU u e) vL i := by
  obtain ⟨S, h1, h2⟩ := h.p
  refine (I.meet h1 ⟨h.few.1, by have := h.few.2; omega⟩ e he).mono ?_
  rintro e w2 ⟨rfl, q⟩
  exact ⟨rfl, h.prog h2 q⟩
theorem upr_tell (I : UIf Up) (h : UPr Up w wr pb rb ab x u u vL i) (n : Int) (hn : In64 n) : Calls Try.prog 17 #[.pointer (some ⟨pb, 0, none⟩), .int .i64 n] wr fun e' w2 => e' = .returned (.tuple #[]) ∧ UPr Up w w2 pb rb ab x u (teU u n) vL i := by
  obtain ⟨S, h1, h2⟩ := h.p
  refine (I.tell h1 n hn).mono ?_
  rintro e w2 ⟨rfl, q⟩
  exact ⟨rfl, h.prog h2 q⟩
/-- What the reference's call leaves, its box being stored back. -/
def RBack (Up : UbT) (w w3 : World) (pb rb ab : Nat) (x : Ua) (u : Ub) (vL' : Value) (i : Nat) : Prop := (∃ A n c, vL' = Value.slice A n c) ∧ ∀ w3', Grow w3 w3' → ∀ w4, UbB w4 rb u.most u.room u.pe.ad u.pe.po vL' u.lost u.told → But rb w3' w4 → Grow w w4 → UPr Up w w4 pb rb ab x u u vL' (i + 1)
theorem UPr.back {w3 : World} {v' : Value} {S : Nat → Prop} (I : UIf Up) (h : UPr Up w w2 pb rb ab x u u' vL i) (h1 : Up w2 S pb u' ∧ ∀ b, S b → w.heap.size ≤ b ∧ b ≠ rb ∧ b ≠ ab ∧ vL.ownBlock ≠ some b) (g3 : Grow w2 w3) (hr : RUb w w3 w.heap.size (fun k => ¬ S k) v' u') (hf : 0 ≤ u'.lost ∧ u'.lost ≤ 100 * ((i + 1 : Nat) : Int)) : ∃ vL', v' = .agg (ubA u'.most u'.room u'.pe.ad u'.pe.po vL' u'.lost u'.told) ∧ RBack Up w w3 pb rb ab x u' vL' i := by
  obtain ⟨vL', l', rfl, r1, r2, r3, r4⟩ := hr
  exact ⟨vL', rfl, by obtain ⟨A, c, e, -⟩ := r1.form; exact ⟨_, _, _, e⟩, fun w3' g3' w4 hb hk g4 => h.refd I h1 (g3.trans g3') (r1.grow g3') r2 r3 r4 hf hb hk g4⟩
theorem UPr.rub {S : Nat → Prop} (h : UPr Up w w2 pb rb ab x u u' vL i) (h2 : ∀ b, S b → w.heap.size ≤ b ∧ b ≠ rb ∧ b ≠ ab ∧ vL.ownBlock ≠ some b) : RUb w w2 w.heap.size (fun k => ¬ S k) (.agg (ubA u.most u.room u.pe.ad u.pe.po vL u.lost u.told)) u := by
  obtain ⟨l, r1, r2, r3⟩ := h.row
  exact ⟨vL, l, rfl, r1, r2, r3, fun k hk q => (h2 k q).2.2.2 hk⟩
theorem upr_rput (I : UIf Up) (h : UPr Up w w2 pb rb ab x u (puU u x.m.ml) vL i) (ok : UOk u) (hi : i ≤ 100) (hx : x.Fit w) : Calls Try.prog 11 #[.agg (ubA u.most u.room u.pe.ad u.pe.po vL u.lost u.told), .agg #[.int .u32 x.m.f.ad, .int .u16 x.m.f.po, .slice x.m.A x.m.n x.m.c]] w2 fun e w3 => ∃ vL', e = .returned (.tuple #[.agg (ubA (puU u x.m.ml).most (puU u x.m.ml).room (puU u x.m.ml).pe.ad (puU u x.m.ml).pe.po vL' (puU u x.m.ml).lost (puU u x.m.ml).told), .int .i64 (puE u x.m.ml)]) ∧ RBack Up w w3 pb rb ab x (puU u x.m.ml) vL' i ∧ Grow w2 w3 := by
  obtain ⟨S, h1, h2⟩ := h.p
  have hlen : x.m.n = x.m.d.length := (Byt.len hx.1.2.2.2.1).1
  refine (rPutU w w2 h.g w.heap.size h.g.size (fun k => ¬ S k) (fun k hk q => by have := I.lt h1 k q; omega) _ u (h.rub h2) ok ⟨h.few.1, by have := h.few.2; omega⟩ x.m hx.1.2.2.2.1 (by have := hx.2; omega)).mono ?_
  rintro e w3 ⟨v', rfl, hr, g3⟩
  obtain ⟨vL', rfl, hb⟩ := h.back I ⟨h1, h2⟩ g3 hr (by have := h.few; rcases puU_lost u x.m.ml with e | e <;> rw [e] <;> omega)
  exact ⟨vL', rfl, hb, g3⟩
theorem upr_rtake (I : UIf Up) (n : Int) (h : UPr Up w w2 pb rb ab x u (tkuU u n) vL i) (ok : UOk u) : Calls Try.prog 13 #[.agg (ubA u.most u.room u.pe.ad u.pe.po vL u.lost u.told), .int .i64 n] w2 fun e w3 => ∃ vL' A k c, e = .returned (.tuple #[.agg (ubA (tkuU u n).most (tkuU u n).room (tkuU u n).pe.ad (tkuU u n).pe.po vL' (tkuU u n).lost (tkuU u n).told), .agg #[.int .u32 (tkuM u n).f.ad, .int .u16 (tkuM u n).f.po, .slice A k c], .int .i64 (tkuN u n), .int .i64 (tkuE u n)]) ∧ RBack Up w w3 pb rb ab x (tkuU u n) vL' i ∧ Byt w (.slice A k c) (tkuM u n).d ∧ Grow w2 w3 := by
  obtain ⟨S, h1, h2⟩ := h.p
  refine (rTakeU w w2 h.g w.heap.size h.g.size (fun k => ¬ S k) _ u (h.rub h2) ok n).mono ?_
  rintro e w3 ⟨v', A, k, c, rfl, hr, hb, g3⟩
  obtain ⟨vL', rfl, hbk⟩ := h.back I ⟨h1, h2⟩ g3 hr (by have := h.few; rw [tkuU_lost]; omega)
  exact ⟨vL', A, k, c, rfl, hbk, hb, g3⟩
theorem upr_rmeet (I : UIf Up) (e : Ed) (h : UPr Up w w2 pb rb ab x u (meU u e) vL i) (ok : UOk u) (hi : i ≤ 100) : Calls Try.prog 16 #[.agg (ubA u.most u.room u.pe.ad u.pe.po vL u.lost u.told), .agg #[.int .u32 e.ad, .int .u16 e.po]] w2 fun e' w3 => ∃ vL', e' = .returned (.tuple #[.agg (ubA (meU u e).most (meU u e).room (meU u e).pe.ad (meU u e).pe.po vL' (meU u e).lost (meU u e).told), .int .i64 (meE e)]) ∧ RBack Up w w3 pb rb ab x (meU u e) vL' i ∧ Grow w2 w3 := by
  obtain ⟨S, h1, h2⟩ := h.p
  refine (rMeetU w w2 h.g w.heap.size h.g.size (fun k => ¬ S k) (fun k hk q => by have := I.lt h1 k q; omega) _ u (h.rub h2) ok ⟨h.few.1, by have := h.few.2; omega⟩ e).mono ?_
  rintro e' w3 ⟨v', rfl, hr, g3⟩
  obtain ⟨vL', rfl, hb⟩ := h.back I ⟨h1, h2⟩ g3 hr (by have := h.few; have := meU_lost u e; have := ok.len; have := ok.most; omega)
  exact ⟨vL', rfl, hb, g3⟩
end
/-- Bytes lie in no box. -/
theorem byt_box {W W' : World} {v : Value} {d : List UInt8} {rb : Nat} {most room pa pp lost told : Int} {vL : Value} (h : Byt W v d) (hb : UbB W rb most room pa pp vL lost told) (hs : ∃ A n c, vL = Value.slice A n c) (hk : But rb W W') : Byt W' v d := by
  rcases Nat.eq_zero_or_pos d.length with h0 | h0
  · obtain rfl : d = [] := List.eq_nil_of_length_eq_zero h0
    exact h.anywhere
  · refine h.other (by rw [hk.1]; exact Nat.le_refl _) fun b e _ => hk.2 b fun q => ?_
    subst q
    obtain ⟨A, c, rfl, _, _⟩ := h.form
    obtain ⟨b', off, rfl, _, hc⟩ := h.at_ h0
    obtain rfl : b' = b := Option.some.inj e
    have h1 := hc 0 h0
    rw [Nat.add_zero, cell_of_row W b' off _ _ _ hb] at h1
    obtain ⟨A2, n2, c2, rfl⟩ := hs
    rcases (by omega : off = 0 ∨ off = 1 ∨ off = 2 ∨ off = 3 ∨ off = 4 ∨ off = 5 ∨ off = 6 ∨ 7 ≤ off) with e | e | e | e | e | e | e | e
    all_goals first
      | (subst e; simp at h1)
      | (rw [Array.getElem?_eq_none (by simpa using e)] at h1; cases h1)
end Go.Proofs.Ytkblgigpgpjjlaa
