/- Contract: take: a fragment, and what it tells. -/
import Derived.Test.YtfjmcfkpbacicaaC06
import Derived.Test.YtfjmcfkpbacicaaC03
import Derived.Maps.RangeWalk
namespace Go.Proofs.Ytfjmcfkpbacicaa
set_option linter.unusedVariables false
set_option linter.unusedSimpArgs false
open Go.ChangeShapes Go.WideShapes Go.ChangeAt Go.RowKit Go.Shelf

/-- A packet, its slices out of reach. -/
structure Piece (base : Nat) (w : World) (k : Pkt) (vo vd : Value) : Prop where
  o : Firm base w vo k.opts
  d : Firm base w vd k.data
  ok : k.Ok
  small : k.Small
theorem Piece.only {base : Nat} {w w' : World} {k : Pkt} {vo vd : Value} {Z : Nat → TypeId → Prop} (h : Piece base w k vo vd) (o : Only base Z w w') (hz : ∀ b, ¬ Z b 5) : Piece base w' k vo vd := ⟨h.o.only o hz, h.d.only o hz, h.ok, h.small⟩
theorem Piece.grow {base : Nat} {w w' : World} {k : Pkt} {vo vd : Value} (h : Piece base w k vo vd) (g : Grow w w') (hb : base ≤ w.heap.size) : Piece base w' k vo vd := ⟨h.o.grow g hb, h.d.grow g hb, h.ok, h.small⟩
theorem Piece.ip {base : Nat} {w : World} {k : Pkt} {vo vd : Value} (h : Piece base w k vo vd) : Ip w (ipV k vo vd) k := ⟨_, _, rfl, h.o.1, h.d.1, h.ok⟩

section
variable {w : World} {base : Nat} {p : Wp}
theorem PktAt.setFin (h : PktAt w base p) {n : Nat} (hn : n ≤ 65515) : PktAt (w.setCell ⟨p.blk, 2, none⟩ (.int .i64 (n : Int))) base { p with fin := n } ∧ Grows base p { p with fin := n } w (w.setCell ⟨p.blk, 2, none⟩ (.int .i64 (n : Int))) := by
  have o : Only base (fun b T => b = p.blk ∧ T = 75) w (w.setCell ⟨p.blk, 2, none⟩ (.int .i64 (n : Int))) := Only.set h.blk h.low ⟨rfl, rfl⟩ _
  refine ⟨⟨heap_setCell_own (k := 2) h.blk _, h.low, o.row h.row (fun b _ e => absurd e.2 (by decide)), fun r hr => o.row (h.data r hr) (fun b _ e => absurd e.2 (by decide)), h.laid, h.top, fun f hf => ?_, hn, h.tick⟩, ⟨o.mono fun _ _ _ _ _ e => .inl e, rfl, rfl, rfl, fun b e => .inl e⟩⟩
  obtain ⟨e1, e2, e3, e4, e5⟩ := h.first f hf
  exact ⟨e1, o.cells e2 (fun e => absurd e.2 (by decide)), o.row e3 (fun b _ e => absurd e.2 (by decide)), o.row e4 (fun b _ e => absurd e.2 (by decide)), e5⟩
theorem PktAt.setFirst (h : PktAt w base p) {f : Fp} (h0 : base ≤ f.blk) (h1 : Blk w f.blk f.q.k f.q.vo f.q.vd) (h2 : Own w base f.q.vo f.q.k.opts) (h3 : Own w base f.q.vd f.q.k.data) (h4 : f.q.k.Ok) (h5 : f.q.k.Small) :
    PktAt (w.setCell ⟨p.blk, 1, none⟩ (.pointer (some ⟨f.blk, 0, none⟩))) base { p with first := some f } ∧ Grows base p { p with first := some f } w (w.setCell ⟨p.blk, 1, none⟩ (.pointer (some ⟨f.blk, 0, none⟩))) := by
  have o : Only base (fun b T => b = p.blk ∧ T = 75) w (w.setCell ⟨p.blk, 1, none⟩ (.pointer (some ⟨f.blk, 0, none⟩))) := Only.set h.blk h.low ⟨rfl, rfl⟩ _
  refine ⟨⟨heap_setCell_own (k := 1) h.blk _, h.low, o.row h.row (fun b _ e => absurd e.2 (by decide)), fun r hr => o.row (h.data r hr) (fun b _ e => absurd e.2 (by decide)), h.laid, h.top, fun g hg => ?_, h.fit, h.tick⟩, ⟨o.mono fun _ _ _ _ _ e => .inl e, rfl, rfl, rfl, fun b e => .inl e⟩⟩
  cases hg
  exact ⟨h0, o.cells h1 (fun e => absurd e.2 (by decide)), o.row h2 (fun b _ e => absurd e.2 (by decide)), o.row h3 (fun b _ e => absurd e.2 (by decide)), h4, h5⟩
end
def Wp.fk (p : Wp) : Option Pkt := p.first.map fun f => f.q.k

/-- p took the fragment. -/
structure Took (base : Nat) (w : World) (p : Wp) (k : Pkt) (p' : Wp) (w' : World) : Prop where
  pkt : PktAt w' base p'
  grows : Grows base p p' w w'
  con : cont 0 p'.ns = paint (cont 0 p.ns) (8 * k.off).toNat k.data
  fin : (p'.fin : Int) = if k.more = true then (p.fin : Int) else endOf k
  first : p'.fk = if k.off = 0 ∧ p.fk = none then some k else p.fk
  fresh : ∀ f, p'.first = some f → p.first = some f ∨ w.heap.size ≤ f.blk

set_option maxRecDepth 10000 in
set_option maxHeartbeats 8000000 in
theorem take_any (w : World) (base : Nat) (p : Wp) (h : PktAt w base p) (hb : base ≤ w.heap.size) (k : Pkt) (vo vd : Value) (hp : Piece base w k vo vd) (h0 : 0 ≤ k.off) (h1 : k.off ≤ 8191) (hE : endOf k ≤ 65515) :
    Calls Try.prog 30 #[pptr p, ipV k vo vd] w fun e w' => e = .returned (.tuple #[]) ∧ ∃ p', Took base w p k p' w' := by
  obtain ⟨A, c, rfl, _⟩ := hp.o.1.form
  obtain ⟨B, d, rfl, _⟩ := hp.d.1.form
  obtain ⟨W1, hW1⟩ : ∃ W1, W1 = w.alloc (.cells #[.int .u8 (k.tos : Int), .int .u16 (k.ident : Int), .bool k.whole, .bool k.more, .int .i64 k.off, .int .u8 (k.ttl : Int), .int .u8 (k.proto : Int), .int .u32 (k.src : Int), .int .u32 (k.dst : Int), .slice A k.opts.length c, .slice B k.data.length d] 38) := ⟨_, rfl⟩
  have hg1 : Grow w W1 := by rw [hW1]; exact Grow.alloc w _
  have hB : Blk W1 w.heap.size k (.slice A k.opts.length c) (.slice B k.data.length d) := by rw [hW1]; exact Blk.new _ _ _ _
  obtain ⟨S, hS⟩ : ∃ S : Nat, 8 * k.off = (S : Int) := ⟨(8 * k.off).toNat, by omega⟩
  have hSd : S + k.data.length ≤ 65515 := by unfold endOf at hE; omega
  have hE0 : 0 ≤ endOf k := by unfold endOf; omega
  have hb1 : base ≤ W1.heap.size := Nat.le_trans hb hg1.size
  have P1 := h.grow hg1 hb
  have Q1 := hp.grow hg1 hb
  have cS : ∀ W, Grow W1 W → Calls Try.prog 48 #[ipV k (.slice A k.opts.length c) (.slice B k.data.length d)] W fun e w' => e = .returned (.int .i64 (S : Int)) ∧ Grow W w' := fun W g => by
    have := start_any _ k W (Q1.ip.grow g) h0 h1
    rwa [hS] at this
  have cT : ∀ W, Grow W1 W → Calls Try.prog 47 #[pptr p, .int .i64 (S : Int), .slice B k.data.length d] W fun e w' => e = .returned (.tuple #[]) ∧ Hid (∃ q, PktAt w' base q ∧ Grows base p q w w' ∧ cont 0 q.ns = paint (cont 0 p.ns) S k.data ∧ q.first = p.first ∧ q.fin = p.fin ∧ Blk w' w.heap.size k (.slice A k.opts.length c) (.slice B k.data.length d)) := fun W g =>
    (store_any W base p (P1.grow g hb1) (Nat.le_trans hb1 g.size) S _ k.data (Q1.grow g hb1).d hSd).mono fun e w' ⟨he, q, v2, K⟩ => ⟨he, q, K.pkt, ⟨(Only.grow (hg1.trans g) hb _).trans K.grows.only, K.grows.blk, K.grows.nm, K.grows.till, fun b e => (K.grows.new b e).imp id fun h => Nat.le_trans (hg1.trans g).size h⟩, by rw [K.con, List.take_length], K.first, K.fin, K.grows.only.cells (hB.grow g) (fun e => by rcases e with e | e <;> exact absurd e.2 (by decide))⟩
  have hlt : w.heap.size < W1.heap.size := hB.lt
  have HB := Lib.hid hB
  obtain ⟨b0, b1, b2, b3, b4, b5, b6, b7, b8, b9, b10⟩ := hB.boxd
  have HP := Lib.hid (And.intro h (And.intro hp (And.intro hg1 hb)))
  have hpb := h.lt
  clear P1 Q1 h hp hB
  unfold pptr at cT ⊢
  generalize hpbk : p.blk = pb at *
  have HPB := Lib.hid hpbk
  clear hpbk
  have HS := Lib.hid hS
  clear hS
  unfold ipV at cS
  go_enter Try.func30, Try.ntmps30
  go_wp2_with fail
  rw [← hW1]
  clear hW1
  go_region_with (first
    | (go_at_call 48; refine (cS _ (Grow.drew _)).mono ?_; rintro e w2 ⟨rfl, hg2⟩; have d0 := (hg2.cell (p := ⟨w.heap.size, 0, none⟩) hlt).trans b0; have d10 := (hg2.cell (p := ⟨w.heap.size, 10, none⟩) hlt).trans b10; have cU := cT _ ((Grow.drew _).trans hg2); clear hg2)
    | (go_at_call 47; refine cU.mono ?_; rintro e w3 ⟨rfl, HQ⟩))
  all_goals
    obtain ⟨q, hq, hgq, hcq, hfq, hnq, hbx⟩ := HQ.out
    have eb : q.blk = pb := hgq.blk.trans HPB.out
    have c2 := hq.c2
    have f2 := hq.fz 2
    rw [eb] at c2 f2
    have hpc : pb < w3.heap.size := by rw [← eb]; exact hq.lt
    have hb3 : base ≤ w3.heap.size := Nat.le_trans HP.out.2.2.2 hgq.only.size
    have hpp := HP.out.2.1.only hgq.only (fun b e => by rcases e with e | e <;> exact absurd e.2 (by decide))
    have H3 := Lib.hid (And.intro hq (And.intro hgq (And.intro hcq (And.intro hfq (And.intro hnq hbx)))))
    obtain ⟨E, hEE⟩ : ∃ E : Nat, endOf k = (E : Int) := ⟨(endOf k).toNat, by omega⟩
    have cE := end_any _ k w3 hpp.ip h0 h1 (by omega)
    rw [hEE] at cE
    unfold ipV at cE
    have HPP := Lib.hid hpp
    obtain ⟨e0, e1, e2, e3, e4, e5, e6, e7, e8, e9, e10⟩ := hbx.boxd
    have HEE := Lib.hid hEE
    have hE65 : E ≤ 65515 := by omega
    clear hq hgq hcq hfq hnq hbx hEE hpp cS cT
    go_upto_if 13 with fail
    go_cut [13] (fun s13 wx => Hid (∃ q1, PktAt wx base q1 ∧ Grows base p q1 w wx ∧ cont 0 q1.ns = paint (cont 0 p.ns) S k.data ∧ q1.first = p.first ∧ (q1.fin : Int) = (if k.more = true then (p.fin : Int) else endOf k) ∧ Blk wx w.heap.size k (.slice A k.opts.length c) (.slice B k.data.length d)))
    case first =>
      cases hm : k.more with
      | true =>
        rw [hm] at e3
        have HMT := Lib.hid hm
        clear hm
        go_wp2_with fail
        go_meet
        exact ⟨q, H3.out.1, H3.out.2.1, H3.out.2.2.1, H3.out.2.2.2.1, by rw [if_pos HMT.out, H3.out.2.2.2.2.1], H3.out.2.2.2.2.2⟩
      | false =>
        rw [hm] at e3 cE
        have HMT := Lib.hid hm
        clear hm
        go_wp2_with (go_at_call 44; refine cE.mono ?_; rintro e w4 ⟨rfl, hg4⟩; have c2' := (hg4.cell (p := ⟨pb, 2, none⟩) hpc).trans c2; have f2' := (hg4.frozen (p := ⟨pb, 2, none⟩) hpc).trans f2; have H4 := Lib.hid hg4; clear hg4)
        go_meet
        have hq4 := H3.out.1.grow H4.out hb3
        obtain ⟨s1, s2⟩ := hq4.setFin hE65
        rw [eb] at s1 s2
        have g34 : Grows base q q w3 w4 := ⟨Only.grow H4.out hb3 _, rfl, rfl, rfl, fun b h => .inl h⟩
        refine ⟨_, s1, (H3.out.2.1.trans g34).trans s2, H3.out.2.2.1, H3.out.2.2.2.1, ?_, s2.only.cells (H3.out.2.2.2.2.2.grow H4.out) (fun e => by rcases e with e | e <;> exact absurd e.2 (by decide))⟩
        rw [if_neg (by rw [HMT.out]; simp), HEE.out]
    case rest =>
      obtain ⟨q1, hq, hgq, hcq, hfq, hnq, hbx⟩ := Hid.out hcut
      clear hcut e0 e1 e2 e3 e4 e5 e6 e7 e8 e9 e10 c2 f2 cE hpc hb3 eb H3 HQ
      have eb : q1.blk = pb := hgq.blk.trans HPB.out
      have c1 := hq.c1
      have f1 := hq.fz 1
      rw [eb] at c1 f1
      have hpc : pb < wc.heap.size := by rw [← eb]; exact hq.lt
      have hb3 : base ≤ wc.heap.size := Nat.le_trans HP.out.2.2.2 hgq.only.size
      have hpp := HP.out.2.1.only hgq.only (fun b e => by rcases e with e | e <;> exact absurd e.2 (by decide))
      have cO := rsOwn_any _ k wc hpp.ip hpp.small
      obtain ⟨e0, e1, e2, e3, e4, e5, e6, e7, e8, e9, e10⟩ := hbx.boxd
      have H3 := Lib.hid (And.intro hq (And.intro hgq (And.intro hcq (And.intro hfq hnq))))
      have HPP2 := Lib.hid hpp
      clear hq hgq hcq hfq hnq hbx hpp
      unfold ipV at cO
      by_cases hoff : k.off = 0
      · have o1 : (k.off == 0) = true := by simpa using hoff
        have o2 : decide (k.off = 0) = true := decide_eq_true hoff
        have HOF := Lib.hid hoff
        clear hoff
        cases hf : p.first with
        | none =>
          rw [H3.out.2.2.2.1, hf] at c1
          unfold fptr at c1
          have HF := Lib.hid hf
          clear hf
          go_wp2_with (first
            | (show wpList _ _ _ (⟨none, .store 38 (.tmp 4) (.tmp 30), _, _, _, _⟩ :: _) _ _; refine wpList_store_ip w6 _ rfl _ _ rfl rfl w6.heap.size rfl k zeroPk (.slice A6 n6 c6) (.slice B6 m6 d6) (.slice none 0 0) (.slice none 0 0) rfl rfl rfl (Blk.new w6 zeroPk (.slice none 0 0) (.slice none 0 0)) (Grow.alloc w6 _) (Nat.le_refl _) ?_; intro w7 hF7 hbut7 hg7; have c1' := ((H6.out.2.2.trans hg7).cell (p := ⟨pb, 1, none⟩) hpc).trans c1; have f1' := ((H6.out.2.2.trans hg7).frozen (p := ⟨pb, 1, none⟩) hpc).trans f1; have H7 := Lib.hid (And.intro hF7 hg7); clear hF7 hbut7 hg7)
            | (go_at_call 27; refine cO.mono ?_; rintro e w6 ⟨vo6, vd6, rfl, ho6, hd6, hg6⟩; obtain ⟨A6, n6, c6, rfl, hn6⟩ := ho6.byt.form2; obtain ⟨B6, m6, d6, rfl, hm6⟩ := hd6.byt.form2; have H6 := Lib.hid (And.intro ho6 (And.intro hd6 hg6)); clear ho6 hd6 hg6))
          go_end0
          have g7 := H6.out.2.2.trans H7.out.2
          have hq7 := H3.out.1.grow g7 hb3
          have hsz := H6.out.2.2.size
          obtain ⟨s1, s2⟩ := hq7.setFirst (f := ⟨w6.heap.size, ⟨k, .slice A6 n6 c6, .slice B6 m6 d6⟩⟩) (by show base ≤ w6.heap.size; omega) H7.out.1 ((H6.out.1.grow H7.out.2).base hb3) ((H6.out.2.1.grow H7.out.2).base hb3) HPP2.out.ok HPP2.out.small
          rw [eb] at s1 s2
          have g37 : Grows base q1 q1 wc w7 := ⟨Only.grow g7 hb3 _, rfl, rfl, rfl, fun b h => .inl h⟩
          refine ⟨rfl, _, s1, (H3.out.2.1.trans g37).trans s2, ?_, H3.out.2.2.2.2, ?_, fun f e => .inr (by cases e; have := H3.out.2.1.only.size; exact Nat.le_trans this hsz)⟩
          · rw [show (8 * k.off).toNat = S from by rw [HS.out]; rfl]; exact H3.out.2.2.1
          · rw [if_pos ⟨HOF.out, by unfold Wp.fk; rw [HF.out]; rfl⟩]; rfl
        | some f =>
          rw [H3.out.2.2.2.1, hf] at c1
          unfold fptr at c1
          have HF := Lib.hid hf
          clear hf
          go_wp2_with fail
          go_end0
          refine ⟨rfl, q1, H3.out.1, H3.out.2.1, ?_, H3.out.2.2.2.2, ?_, fun f e => .inl (by rw [← H3.out.2.2.2.1]; exact e)⟩
          · rw [show (8 * k.off).toNat = S from by rw [HS.out]; rfl]; exact H3.out.2.2.1
          · rw [if_neg (fun e => by have := e.2; unfold Wp.fk at this; rw [HF.out] at this; cases this)]; unfold Wp.fk; rw [H3.out.2.2.2.1]
      · have o1 : (k.off == 0) = false := by simpa using hoff
        have o2 : decide (k.off = 0) = false := decide_eq_false hoff
        have HOF := Lib.hid hoff
        clear hoff
        go_wp2_with fail
        go_end0
        refine ⟨rfl, q1, H3.out.1, H3.out.2.1, ?_, H3.out.2.2.2.2, ?_, fun f e => .inl (by rw [← H3.out.2.2.2.1]; exact e)⟩
        · rw [show (8 * k.off).toNat = S from by rw [HS.out]; rfl]; exact H3.out.2.2.1
        · rw [if_neg (fun e => HOF.out e.1)]; unfold Wp.fk; rw [H3.out.2.2.2.1]
end Go.Proofs.Ytfjmcfkpbacicaa
/- Contracts: stale; join. -/
namespace Go.Proofs.Ytfjmcfkpbacicaa
set_option linter.unusedVariables false
set_option linter.unusedSimpArgs false
open Go.ChangeShapes Go.WideShapes Go.ChangeAt Go.RowKit Go.Shelf

/-- Does the fragment not fit what is known? -/
def staleB (fin len : Nat) (k : Pkt) : Bool :=
  if fin ≠ 0 then decide ((fin : Int) < endOf k) || (!k.more && decide (endOf k < (fin : Int))) else !k.more && decide (endOf k < (len : Int))

set_option maxRecDepth 10000 in
set_option maxHeartbeats 4000000 in
theorem stale_any (w : World) (base : Nat) (p : Wp) (h : PktAt w base p) (hb : base ≤ w.heap.size) (hne : p.rows ≠ []) (k : Pkt) (vo vd : Value) (hp : Piece base w k vo vd) (h0 : 0 ≤ k.off) (h1 : k.off ≤ 8191) :
    Calls Try.prog 46 #[pptr p, ipV k vo vd] w fun e w' => e = .returned (.bool (staleB p.fin (reach 0 p.ns) k)) ∧ Grow w w' := by
  obtain ⟨A, c, rfl, _⟩ := hp.o.1.form
  obtain ⟨B, d, rfl, _⟩ := hp.d.1.form
  have hlen := hp.small.2
  obtain ⟨W1, hW1⟩ : ∃ W1, W1 = w.alloc (.cells #[.int .u8 (k.tos : Int), .int .u16 (k.ident : Int), .bool k.whole, .bool k.more, .int .i64 k.off, .int .u8 (k.ttl : Int), .int .u8 (k.proto : Int), .int .u32 (k.src : Int), .int .u32 (k.dst : Int), .slice A k.opts.length c, .slice B k.data.length d] 38) := ⟨_, rfl⟩
  have hg1 : Grow w W1 := by rw [hW1]; exact Grow.alloc w _
  have hB : Blk W1 w.heap.size k (.slice A k.opts.length c) (.slice B k.data.length d) := by rw [hW1]; exact Blk.new _ _ _ _
  have cE := end_any _ k W1 (hp.ip.grow hg1) h0 h1 hlen
  have cR : Hid (∀ W, Grow w W → Calls Try.prog 50 #[pptr p] W fun e w' => e = .returned (.int .i64 (reach 0 p.ns : Nat)) ∧ Grow W w') := fun W g => reach_any W base p (h.grow g hb) hne
  have c2 := h.c2
  have hpb := h.lt
  have hfit := h.fit
  have hR65 := h.top
  have hE : 0 ≤ endOf k ∧ endOf k ≤ 2000000 := by unfold endOf; omega
  clear h hp
  have hS : Hid (staleB p.fin (reach 0 p.ns) k = if p.fin ≠ 0 then decide ((p.fin : Int) < endOf k) || (!k.more && decide (endOf k < (p.fin : Int))) else !k.more && decide (endOf k < ((reach 0 p.ns : Nat) : Int))) := rfl
  generalize staleB p.fin (reach 0 p.ns) k = SB at *
  generalize endOf k = E at *
  generalize reach 0 p.ns = R at *
  unfold pptr at *
  obtain ⟨pnm, pb, ptl, pf, fin, prv, prows⟩ := p
  simp only at *
  have HB : Hid (∀ w2, Grow W1 w2 → Grow w w2 ∧ w2.cell? ⟨pb, 2, none⟩ = some (.int .i64 (fin : Int)) ∧ Boxd w2 w.heap.size k (.slice A k.opts.length c) (.slice B k.data.length d)) := fun w2 g => ⟨hg1.trans g, ((hg1.trans g).cell (p := ⟨pb, 2, none⟩) hpb).trans c2, (hB.grow g).boxd⟩
  obtain ⟨b0, b1, b2, b3, b4, b5, b6, b7, b8, b9, b10⟩ := hB.boxd
  obtain ⟨k0, k1, k2, more, k4, k5, k6, k7, k8, opts, data⟩ := k
  unfold ipV at *
  simp only at *
  clear hB hg1 c2
  by_cases hf : fin = 0
  · subst hf
    have q0 : (((0 : Nat) : Int) != 0) = false := rfl
    cases more with
    | true =>
      go_enter Try.func46, Try.ntmps46
      go_wp2_with fail
      rw [← hW1]
      clear hW1
      go_wp2_with (go_at_call 44; refine cE.mono ?_; rintro e w2 ⟨rfl, hg2⟩; obtain ⟨g2, c2, d0, d1, d2, d3, d4, d5, d6, d7, d8, d9, d10⟩ := HB.out w2 hg2; have G2 := Lib.hid g2; clear hg2 g2)
      go_ret
      exact ⟨by rw [hS.out]; rfl, G2.out⟩
    | false =>
      go_enter Try.func46, Try.ntmps46
      go_wp2_with fail
      rw [← hW1]
      clear hW1
      go_wp2_with (first
        | (go_at_call 44; refine cE.mono ?_; rintro e w2 ⟨rfl, hg2⟩; obtain ⟨g2, c2, d0, d1, d2, d3, d4, d5, d6, d7, d8, d9, d10⟩ := HB.out w2 hg2; have G2 := Lib.hid g2; clear hg2 g2)
        | (go_at_call 50; refine (cR.out _ G2.out).mono ?_; rintro e w3 ⟨rfl, hg3⟩; have G3 := Lib.hid hg3; clear hg3))
      go_ret
      exact ⟨by rw [hS.out]; rfl, G2.out.trans G3.out⟩
  · have q0 : ((fin : Int) != 0) = true := by simpa using hf
    have q00 : decide ((fin : Int) = 0) = false := by simpa using hf
    by_cases h5 : (fin : Int) < E
    · have q1 : decide ((fin : Int) < E) = true := decide_eq_true h5
      go_enter Try.func46, Try.ntmps46
      go_wp2_with fail
      rw [← hW1]
      clear hW1
      go_wp2_with (go_at_call 44; refine cE.mono ?_; rintro e w2 ⟨rfl, hg2⟩; obtain ⟨g2, c2, d0, d1, d2, d3, d4, d5, d6, d7, d8, d9, d10⟩ := HB.out w2 hg2; have G2 := Lib.hid g2; clear hg2 g2)
      go_ret
      exact ⟨by rw [hS.out, if_pos hf, q1]; rfl, G2.out⟩
    · have q1 : decide ((fin : Int) < E) = false := decide_eq_false h5
      cases more with
      | true =>
        go_enter Try.func46, Try.ntmps46
        go_wp2_with fail
        rw [← hW1]
        clear hW1
        go_wp2_with (go_at_call 44; refine cE.mono ?_; rintro e w2 ⟨rfl, hg2⟩; obtain ⟨g2, c2, d0, d1, d2, d3, d4, d5, d6, d7, d8, d9, d10⟩ := HB.out w2 hg2; have G2 := Lib.hid g2; clear hg2 g2)
        go_ret
        exact ⟨by rw [hS.out, if_pos hf, q1]; rfl, G2.out⟩
      | false =>
        go_enter Try.func46, Try.ntmps46
        go_wp2_with fail
        rw [← hW1]
        clear hW1
        go_wp2_with (go_at_call 44; refine cE.mono ?_; rintro e w2 ⟨rfl, hg2⟩; obtain ⟨g2, c2, d0, d1, d2, d3, d4, d5, d6, d7, d8, d9, d10⟩ := HB.out w2 hg2; have G2 := Lib.hid g2; clear hg2 g2)
        go_ret
        exact ⟨by rw [hS.out, if_pos hf, q1]; rfl, G2.out⟩
end Go.Proofs.Ytfjmcfkpbacicaa
/- Contract: join: the packet, whole. -/
namespace Go.Proofs.Ytfjmcfkpbacicaa
set_option linter.unusedVariables false
set_option linter.unusedSimpArgs false
open Go.ChangeShapes Go.WideShapes Go.ChangeAt Go.RowKit Go.Shelf

theorem Byt.rdK {w : World} {v : Value} {l : List UInt8} (h : Byt w v l) : RdK w 1 v l.length (l.map bv) := by
  obtain ⟨A, c, rfl, h1, h2, h3⟩ := h
  rw [List.length_map] at *
  exact ⟨A, c, rfl, by simp, h1, h2, fun hp => by
    obtain ⟨b, off, e, hb, hc⟩ := h3 (by rw [List.length_map]; exact hp)
    refine ⟨b, off, e, hb, fun j u hj => ?_⟩
    obtain ⟨hl, rfl⟩ := List.getElem?_eq_some_iff.1 hj
    exact hc j hl⟩
set_option maxHeartbeats 400000 in
/-- A packet, a bool and a number, handed back out of the packet's block. -/
theorem results3_ip {fn : Func} (j a b : Nat) (h : fn.results = #[.cell j 38, .tmp a, .tmp b]) (tmps : Array Value) (w : World) (g : Nat) (k : Pkt) (vo vd : Value) (ht : tmps.getD j undef = .pointer (some ⟨g, 0, none⟩)) (hb : Blk w g k vo vd) :
    (results fn tmps).run Try.prog w = .ok (.tuple #[ipV k vo vd, tmps.getD a undef, tmps.getD b undef]) w := by
  obtain ⟨b0, b1, b2, b3, b4, b5, b6, b7, b8, b9, b10⟩ := hb.boxd
  have ht' : tmps[j]?.getD undef = .pointer (some ⟨g, 0, none⟩) := by simpa using ht
  simp only [results, h, go_sem]
  simp [ht', b0, b1, b2, b3, b4, b5, b6, b7, b8, b9, b10, go_sem]

/-- The packet whole: the first fragment with all bytes. -/
def wholeK (k : Pkt) (D : List UInt8) : Pkt := { k with more := false, data := D }
/-- What join keeps from round to round. -/
structure Joins (w : World) (k : Pkt) (vo : Value) (v : Value) (D : List UInt8) (wr : World) : Prop where
  blk : Blk wr w.heap.size (wholeK k D) vo v
  own : Own wr (w.heap.size + 1) v D
  grow : Grow w wr
theorem Joins.app {w wr w5 : World} {k : Pkt} {vo v : Value} {D : List UInt8} (h : Joins w k vo v D wr) {o : Obj} (hg : (wr.alloc o).grownBy w5 v.ownBlock) : Blk w5 w.heap.size (wholeK k D) vo v ∧ Grow w w5 := by
  have hlt := h.blk.lt
  have hsz : wr.heap.size ≤ (wr.alloc o).heap.size := (Grow.alloc wr o).size
  have hgr := h.grow.size
  have hne : ∀ b, b ≤ w.heap.size → some b ≠ v.ownBlock := fun b hb e => by
    have := (h.own.lt _ e.symm).1
    omega
  refine ⟨(hg.block _ (by omega) (hne _ (Nat.le_refl _))).trans (h.blk.grow (Grow.alloc wr o)), Below.trans (h.grow.trans (Grow.alloc wr o)) ⟨hg.os, hg.tape, hg.output, hg.size, fun b hb => hg.block b (by omega) (hne b (by omega))⟩⟩
theorem wholeK_blk {w : World} {g : Nat} {k : Pkt} {D E : List UInt8} {vo v : Value} (h : Blk w g (wholeK k D) vo v) : Blk w g (wholeK k E) vo v := h
theorem flat_snoc (l : List RowN) (k : Nat) (h : k < l.length) : flat (l.take (k + 1)) = flat (l.take k) ++ (l[k]).2 := by
  unfold flat
  rw [List.take_succ_eq_append_getElem h, List.map_append, List.flatten_append]
  simp
theorem flat_held (l : List RowN) : (flat l).length = heldN l := by
  unfold flat heldN
  rw [List.length_flatten, List.map_map]
  rfl
theorem fpA : (Try.prog.info? 4).map (·.size) = some 1 := by kernel_rfl
theorem fpB : (Try.prog.info? 36).map (·.size) = some 1 := by kernel_rfl

set_option maxRecDepth 10000 in
set_option maxHeartbeats 8000000 in
theorem join_any (w : World) (base : Nat) (p : Wp) (h : PktAt w base p) (hb : base ≤ w.heap.size) (f : Fp) (hf : p.first = some f) :
    Calls Try.prog 33 #[pptr p] w fun e w' => ∃ vo vd, Grow w w' ∧
      (65535 < (wholeK f.q.k (flat p.ns)).len → e = .returned (.tuple #[ipV zeroPk (.slice none 0 0) (.slice none 0 0), .bool false, .int .i64 9])) ∧
      (¬ 65535 < (wholeK f.q.k (flat p.ns)).len → e = .returned (.tuple #[ipV (wholeK f.q.k (flat p.ns)) vo vd, .bool true, .int .i64 0]) ∧ Own w' base vo f.q.k.opts ∧ Own w' w.heap.size vd (flat p.ns)) := by
  obtain ⟨hf1, hf2, hf3, hf4, hf5, hf6⟩ := h.first f hf
  obtain ⟨fb, ⟨k, vo, vd0⟩⟩ := f
  simp only at *
  have hfew := h.few
  have c1 := h.c1
  have c2 := h.c2
  have c3 := h.c3
  have hfit := h.fit
  rw [hf] at c1
  unfold fptr at c1
  have hpb := h.lt
  have hns : p.ns = p.rows.map rowN := rfl
  have hRW := h.rws
  have hB : heldN p.ns ≤ 65515 := Nat.le_trans (held_reach _ h.laid) h.top
  obtain ⟨Ao, co, rfl, _⟩ := hf3.byt.form
  obtain ⟨Bd, dd, rfl, _⟩ := hf4.byt.form
  obtain ⟨A, c, hrv, _⟩ := (RdK.of_own h.row).form
  rw [hrv] at c3 hRW
  have hDat : Hid (∀ r ∈ p.rows, Byt w r.v r.data) := fun r hr => (h.data r hr).byt
  have hFit : Hid (∀ r ∈ p.rows, r.Fit) := h.fits
  have hRW2 := Lib.hid hRW
  have HN := Lib.hid hns
  have hnl : p.ns.length = p.rows.length := by rw [hns, List.length_map]
  generalize p.ns = L at *
  have HF := Lib.hid (And.intro hf3 (And.intro hf5 hf6))
  clear hf1 hf3 hf4 h hns hRW hrv hf
  have hflt := hf2.lt
  have hfB := Lib.hid hf2
  obtain ⟨s0, s1, s2, s3, s4, s5, s6, s7, s8, s9, s10⟩ := hf2.boxd
  clear hf2
  unfold pptr
  obtain ⟨pnm, pb, ptl, pf, fin, prv, prows⟩ := p
  simp only at *
  obtain ⟨i0, hi, hz0, hz1, hz2⟩ := info_parts infoByte
  go_enter Try.func33, Try.ntmps33
  go_wp2_with (first
    | (at_make; refine wpList_make_own _ rfl _ _ 36 rfl (w.heap.size + 1) 5 i0 (.int .u8 0) 1 Try.underlying36 hi hz0 hz1 .i64 .i64 _ fin rfl rfl rfl (by rw [hz2]; omega) (by unfold maxLen; omega) (by have := F2.out.2.2.2; omega) ?_; intro w3 hown3 hg3; have H3 := Lib.hid (And.intro hown3 hg3); clear hown3 hg3)
    | (show wpList _ _ _ (⟨none, .store 38 (.tmp 2) (.tmp 12), _, _, _, _⟩ :: _) _ _; refine wpList_store_ip w _ rfl _ _ rfl rfl w.heap.size rfl k zeroPk (.slice Ao k.opts.length co) (.slice Bd k.data.length dd) (.slice none 0 0) (.slice none 0 0) rfl rfl rfl (Blk.new w zeroPk (.slice none 0 0) (.slice none 0 0)) (Grow.alloc w _) (Nat.le_refl _) ?_; intro w1 hF1 hbut1 hg1; have H1 := Lib.hid (And.intro hF1 (And.intro hg1 hbut1.1)); clear hF1 hbut1 hg1)
    | (show wpList _ _ _ (⟨none, .store 4 (.tmp 13) _, _, _, _, _⟩ :: _) _ _; refine wpList_store_fld w w1 rfl _ _ _ rfl rfl w.heap.size 3 (.bool false) rfl rfl k (wholeK k k.data) (.slice Ao k.opts.length co) (.slice Bd k.data.length dd) (.slice Ao k.opts.length co) (.slice Bd k.data.length dd) H1.out.1 fpA rfl (by omega) rfl H1.out.2.1 (Nat.le_refl _) ?_; intro w2 hF2 hbut2 hg2; have F2 := Lib.hid (And.intro hF2 (And.intro hg2 (And.intro hbut2 (show w2.heap.size = w.heap.size + 1 by rw [hbut2.1, H1.out.2.2]; simp)))); have c2' := (hg2.cell (p := ⟨pb, 2, none⟩) hpb).trans c2; have c3' := (hg2.cell (p := ⟨pb, 3, none⟩) hpb).trans c3; clear hF2 hbut2 hg2)
    | (show wpList _ _ _ (⟨none, .store 36 (.tmp 19) _, _, _, _, _⟩ :: _) _ _; refine wpList_store_fld w w3 rfl _ _ _ rfl rfl w.heap.size 10 (.slice (some ⟨w2.heap.size, 0, none⟩) 0 fin) rfl rfl (wholeK k k.data) (wholeK k []) (.slice Ao k.opts.length co) (.slice Bd k.data.length dd) (.slice Ao k.opts.length co) (.slice (some ⟨w2.heap.size, 0, none⟩) 0 fin) ((H3.out.2.block w.heap.size (by have := F2.out.2.2.2; omega) (by simp)).trans F2.out.1) fpB rfl (by omega) rfl (F2.out.2.1.trans (Below.trans (Below.refl _ _) ⟨H3.out.2.os, H3.out.2.tape, H3.out.2.output, H3.out.2.size, fun b hb => H3.out.2.block b hb (by simp)⟩)) (Nat.le_refl _) ?_; intro w4 hF4 hbut4 hg4; have H4 := Lib.hid (And.intro hF4 (And.intro hg4 hbut4)); have c3'' := (hg4.cell (p := ⟨pb, 3, none⟩) hpb).trans c3; clear hF4 hbut4 hg4))
  have J0 : Hid (Joins w k (.slice Ao k.opts.length co) (.slice (some ⟨w2.heap.size, 0, none⟩) 0 fin) [] w4) := ⟨H4.out.1, Own.but H3.out.1 H4.out.2.2 (Nat.lt_succ_self _), H4.out.2.1⟩
  go_loopg [25] prows.length (fun g s25 wr => ∃ (j : Nat) (v : Value), j ≤ prows.length ∧ g = prows.length - j ∧ s25 = .int .i64 (j : Int) ∧ Hid (Joins w k (.slice Ao k.opts.length co) v (flat (L.take j)) wr))
  case atStart => exact ⟨0, _, Nat.zero_le _, rfl, rfl, J0⟩
  case round =>
    obtain ⟨j, v, hj, rfl, rfl, HJ⟩ := hrel
    rcases Nat.lt_or_ge j prows.length with hlt | hge
    · have hJ := HJ.out
      obtain ⟨b, off, rfl, hbq, hcell⟩ := hRW2.out.at_ (by omega)
      obtain ⟨x0, x1⟩ := (hcell j hlt).grow hJ.grow hbq
      have hfx := hFit.out _ (List.getElem_mem hlt)
      have hdx := hDat.out _ (List.getElem_mem hlt)
      have e3 : flat (L.take (j + 1)) = flat (L.take j) ++ (prows[j]).data := by
        rw [flat_snoc L j (by omega)]
        congr 1
        have : L[j]'(by omega) = rowN prows[j] := by simp only [HN.out, List.getElem_map]
        rw [this]
        rfl
      have e4 : (flat (L.take j)).length + (prows[j]).data.length ≤ 65515 := by
        rw [← List.length_append, ← e3, flat_held]
        exact Nat.le_trans (held_le L (j + 1)) hB
      have HE3 := Lib.hid e3
      obtain ⟨A5, c5, hxv⟩ := hfx.1
      rw [hxv] at x1 hdx
      generalize (prows[j]).at_ = xa at *
      generalize (prows[j]).data = xd at *
      obtain ⟨Av, nv, cv, rfl, hnv⟩ := hJ.own.byt.form2
      obtain ⟨b0, b1, b2, b3, b4, b5, b6, b7, b8, b9, b10⟩ := hJ.blk.boxd
      have hbl := hJ.blk.lt
      have b10' : (wr.alloc (.cells #[.int .i64 (xa : Int), .slice A5 xd.length c5] 99)).cell? ⟨w.heap.size, 10, none⟩ = some (.slice Av nv cv) := ((Grow.alloc wr _).cell (p := ⟨w.heap.size, 10, none⟩) hbl).trans b10
      have hJo := Lib.hid (hJ.own.grow (Grow.alloc wr (.cells #[.int .i64 (xa : Int), .slice A5 xd.length c5] 99)))
      have hdx2 := Lib.hid (hdx.grow (hJ.grow.trans (Grow.alloc wr (.cells #[.int .i64 (xa : Int), .slice A5 xd.length c5] 99))))
      have hbs : w.heap.size + 1 ≤ (wr.alloc (.cells #[.int .i64 (xa : Int), .slice A5 xd.length c5] 99)).heap.size := by have := (Grow.alloc wr (.cells #[.int .i64 (xa : Int), .slice A5 xd.length c5] 99)).size; omega
      have HBS := Lib.hid hbs
      clear hJ hfx hdx e3 hxv hcell hbs
      go_wp2_with (first
        | (show wpList _ _ _ (⟨none, .store 36 (.tmp 34) (.tmp 33), _, _, _, _⟩ :: _) _ _; refine wpList_store_fld w w5 rfl _ _ _ rfl rfl w.heap.size 10 (.slice A6 n6 c6) rfl rfl (wholeK k (flat (L.take j))) (wholeK k (flat (L.take j) ++ xd)) (.slice Ao k.opts.length co) (.slice Av nv cv) (.slice Ao k.opts.length co) (.slice A6 n6 c6) H5.out.2.1 fpB rfl (by omega) rfl H5.out.2.2 (Nat.le_refl _) ?_; intro w6 hF6 hbut6 hg6; have H6 := Lib.hid (And.intro hF6 (And.intro hg6 hbut6)); clear hF6 hbut6 hg6)
        | (at_builtin; refine wpList_appK _ rfl (.tmp 30) (.tmp 32) 36 rfl 5 (.int .u8 0) 1 1 Try.underlying36 infoByte rfl (by decide) (w.heap.size + 1) (.slice Av nv cv) _ (flat (L.take j)).length xd.length _ _ rfl rfl hJo.out hdx2.out.rdK (bv_one _) (by omega) (by unfold maxLen; omega) HBS.out ?_; intro v5 w5 ho5 hg5 hat5; have ho5' : Own w5 (w.heap.size + 1) v5 (flat (L.take j) ++ xd) := (by unfold Own; rw [List.length_append, List.map_append]; exact ho5); obtain ⟨A6, n6, c6, rfl, hn6⟩ := ho5'.byt.form2; have H5 := Lib.hid (And.intro ho5' (HJ.out.app hg5)); have bx := H5.out.2.1.c10; clear ho5 hg5 hat5 ho5'))
      go_roundg (prows.length - (j + 1))
      case measure => omega
      case rel => exact ⟨j + 1, _, by omega, rfl, by go_num, by rw [HE3.out]; exact ⟨H6.out.1, Own.but H5.out.1 H6.out.2.2 (Nat.lt_succ_self _), H6.out.2.1⟩⟩
    · obtain rfl : j = prows.length := by omega
      have e : L.take prows.length = L := List.take_of_length_le (by omega)
      have hJ := HJ.out
      rw [e] at hJ
      have HF2 := Lib.hid (And.intro (HF.out.1.grow hJ.grow) HF.out.2)
      obtain ⟨Av, nv, cv, rfl, hnv⟩ := hJ.own.byt.form2
      have hip : Ip wr (ipV (wholeK k (flat L)) (.slice Ao k.opts.length co) (.slice Av nv cv)) (wholeK k (flat L)) := ⟨_, _, rfl, HF2.out.1.byt, hJ.own.byt, ⟨HF.out.2.1.tos, HF.out.2.1.ident, HF.out.2.1.off1, HF.out.2.1.off2, HF.out.2.1.ttl, HF.out.2.1.proto, HF.out.2.1.src, HF.out.2.1.dst⟩⟩
      have cL := Len_any _ (wholeK k (flat L)) wr hip ⟨HF.out.2.2.1, by show (flat L).length ≤ _; rw [flat_held]; omega⟩
      have hlen : (wholeK k (flat L)).len ≤ 2000000 := by
        unfold Pkt.len wholeK
        simp only
        rw [flat_held]
        have := HF.out.2.2.1
        omega
      obtain ⟨b0, b1, b2, b3, b4, b5, b6, b7, b8, b9, b10⟩ := hJ.blk.boxd
      have HJ2 := Lib.hid hJ
      clear hJ e hip
      unfold ipV at cL
      have HT := Lib.hid (show ∀ n, n = (wholeK k (flat L)).len → n = (wholeK k (flat L)).len from fun _ h => h)
      generalize hLN : (wholeK k (flat L)).len = LN at cL hlen
      have HLN := Lib.hid hLN
      clear hLN HT
      by_cases hl : 65535 < LN
      · have q1 : decide ((65535 : Int) < (LN : Int)) = true := decide_eq_true (by omega)
        go_wp2_with (first
          | (show wpList _ _ _ (⟨none, .store 38 (.tmp 2) (.tmp 39), _, _, _, _⟩ :: _) _ _; refine wpList_store_ip w _ rfl _ _ rfl rfl w.heap.size rfl zeroPk (wholeK k (flat L)) (.slice none 0 0) (.slice none 0 0) (.slice Ao k.opts.length co) (.slice Av nv cv) rfl rfl rfl (HJ2.out.blk.grow G7.out) (HJ2.out.grow.trans G7.out) (Nat.le_refl _) ?_; intro w8 hF8 hbut8 hg8; have H8 := Lib.hid (And.intro hF8 hg8); clear hbut8 hg8)
          | (go_at_call 49; refine cL.mono ?_; rintro e w7 ⟨rfl, hg7⟩; have G7 := Lib.hid hg7; clear hg7))
        refine bodyPost_ret (results3_ip 2 3 4 rfl _ w8 w.heap.size zeroPk _ _ rfl hF8) rfl ?_
        exact ⟨.slice none 0 0, .slice none 0 0, H8.out.2, fun _ => rfl, fun h => absurd (by rw [HLN.out]; exact hl) h⟩
      · have q1 : decide ((65535 : Int) < (LN : Int)) = false := decide_eq_false (by omega)
        go_wp2_with (first
          | (show wpList _ _ _ (⟨none, .store 38 (.tmp 2) (.tmp 40), _, _, _, _⟩ :: _) _ _; refine wpList_store_ip w _ rfl _ _ rfl rfl w.heap.size rfl (wholeK k (flat L)) (wholeK k (flat L)) (.slice Ao k.opts.length co) (.slice Av nv cv) (.slice Ao k.opts.length co) (.slice Av nv cv) rfl rfl rfl (HJ2.out.blk.grow G7.out) (HJ2.out.grow.trans G7.out) (Nat.le_refl _) ?_; intro w8 hF8 hbut8 hg8; have H8 := Lib.hid (And.intro hF8 (And.intro hg8 hbut8)); clear hbut8 hg8)
          | (go_at_call 49; refine cL.mono ?_; rintro e w7 ⟨rfl, hg7⟩; have G7 := Lib.hid hg7; have hBX := (HJ2.out.blk.grow hg7).boxd; obtain ⟨e0, e1, e2, e3, e4, e5, e6, e7, e8, e9, e10⟩ := hBX; clear hg7 b0 b1 b2 b3 b4 b5 b6 b7 b8 b9 b10))
        refine bodyPost_ret (results3_ip 2 3 4 rfl _ w8 w.heap.size (wholeK k (flat L)) _ _ rfl hF8) rfl ?_
        exact ⟨_, _, H8.out.2.1, fun h => absurd (by rw [← HLN.out]; exact h) hl, fun _ => ⟨rfl, HF.out.1.grow H8.out.2.1, (Own.but (HJ2.out.own.grow G7.out) H8.out.2.2 (Nat.lt_succ_self _)).base (Nat.le_succ _)⟩⟩
end Go.Proofs.Ytfjmcfkpbacicaa
/- Contracts: slices.Index and slices.Delete on names. -/
namespace Go.Proofs.Ytfjmcfkpbacicaa
set_option linter.unusedVariables false
set_option linter.unusedSimpArgs false
open Go.ChangeShapes Go.WideShapes Go.ChangeAt Go.RowKit Go.Shelf

theorem zero4 : (Builtin.zeroCells (Value.agg #[.int .u32 0, .int .u32 0, .int .u8 0, .int .u16 0]).cells 1).toList = [.int .u32 0, .int .u32 0, .int .u8 0, .int .u16 0] := by kernel_rfl

set_option maxRecDepth 10000 in
set_option maxHeartbeats 2000000 in
theorem Delete_any (w : World) (base g cap i : Nat) (ws : List Nm) (h : Nrow w base (.slice (some ⟨g, 0, none⟩) ws.length cap) ws) (hi : i < ws.length) (hlen : ws.length ≤ 1000) :
    Calls Try.prog 42 #[.slice (some ⟨g, 0, none⟩) ws.length cap, .int .i64 (i : Int), .int .i64 ((i : Int) + 1)] w fun e w' => e = .returned (.slice (some ⟨g, 0, none⟩) (ws.length - 1) cap) ∧
      Nrow w' base (.slice (some ⟨g, 0, none⟩) (ws.length - 1) cap) (ws.eraseIdx i) ∧ w.grownBy w' (some g) := by
  have hle := ownsRow_len h
  have herase : (cellsN ws).take (i * 4) ++ (cellsN ws).drop ((i + 1) * 4) = cellsN (ws.eraseIdx i) := by
    unfold cellsN
    rw [flat_take nmC 4 nmC_length, flat_drop nmC 4 nmC_length, ← List.flatMap_append, ← List.eraseIdx_eq_take_drop_succ]
  have hel : (ws.eraseIdx i).length = ws.length - 1 := List.length_eraseIdx_of_lt hi
  have hF : Hid (∀ w1, Grow w w1 → w1.ownsRow base 70 4 (.slice (some ⟨g, 0, none⟩) i cap) i ((cellsN ws).take (i * 4))) := fun w1 hg => ownsRow_other (ownsRow_front h (by omega)) fun b cs hb hh => hg.block b (Array.getElem?_eq_some_iff.1 hh).1
  have hcl : Hid (∀ w, (zeroValue 70).run Try.prog w = .ok (.agg #[.int .u32 0, .int .u32 0, .int .u8 0, .int .u16 0]) w) := Try.zeroValue70
  obtain ⟨A, hA, hS⟩ : ∃ A : Addr, (if cap = i + 1 then some (⟨g, 0, none⟩ : Addr) else some ⟨g, (i + 1) * 4, none⟩) = some A ∧ Hid (∀ w1, Grow w w1 → RdK w1 4 (.slice (some A) (ws.length - (i + 1)) (cap - (i + 1))) (ws.length - (i + 1)) ((cellsN ws).drop ((i + 1) * 4))) := by
    have hb := RdK_back h (i := i + 1) (by omega)
    by_cases hc : cap = i + 1
    · rw [if_pos hc] at hb ⊢
      exact ⟨_, rfl, fun w1 hg => hb.grow hg⟩
    · rw [if_neg hc] at hb ⊢
      exact ⟨_, rfl, fun w1 hg => hb.grow hg⟩
  have hone : Hid (∀ y ∈ (cellsN ws).drop ((i + 1) * 4), y.oneCell' = true) := fun y hy => cellsN_one ws y (List.mem_of_mem_drop hy)
  have HE := Lib.hid (And.intro herase hel)
  have HL := Lib.hid h
  clear h herase hel
  generalize hN : ws.length = N at *
  have HN := Lib.hid hN
  clear hN
  have hmx : cap ≤ 9223372036854775807 := hle.2
  have q1 : ¬ N = i := by omega
  have q2 : (i : Int) ≤ (cap : Int) := by omega
  have q3 : ((i : Int) + 1) ≤ (N : Int) := by omega
  have q4 : ((i : Int) + 1) ≤ (cap : Int) := by omega
  have q5 : (N : Int) ≤ (cap : Int) := by omega
  have q6 : (((i : Int) + 1)).toNat = i + 1 := by omega
  go_enter Try.func42, Try.ntmps42
  go_wp2_with fail
  have q8 : (0 : Int) ≤ (i : Int) + 1 := by omega
  have q7 : i + (N - (i + 1)) = N - 1 := by omega
  have HQ := Lib.hid q7
  clear q7
  go_region_law (refine step_fitsK _ rfl (.tmp 22) (.tmp 25) 65 70 rfl _ 4 12 Try.underlying65 infoName base g i cap A (N - (i + 1)) (cap - (i + 1)) _ _ (by simp [Act.eval, Act.put]) (by simp [Act.eval, Act.put]) (hF.out _ (Grow.drew _)) (hS.out _ (Grow.drew _)) hone.out (by omega) ?_; intro w1 ho1 hg1; rw [HQ.out, HE.out.1] at ho1; rw [HQ.out])
  obtain ⟨M, rfl⟩ : ∃ M, N = M + 1 := ⟨N - 1, by omega⟩
  rw [Nat.add_sub_cancel] at *
  have hEl := HE.out.2
  have r1 : ¬ cap = M := by omega
  have r2 : (M : Int) ≤ (cap : Int) := by omega
  have r3 : ((M + 1 : Nat) : Int) ≤ (cap : Int) := by omega
  have r4 : M + 1 - M = 1 := by omega
  have HW := Lib.hid (And.intro ho1 hg1)
  clear ho1 hg1
  obtain ⟨w2, hrun, ho2, hg2⟩ := run_clear1K (P := Try.prog) (k := 4) 65 0 _ Try.underlying65 hcl.out rfl (by rw [zero4]; intro u hu; simp at hu; rcases hu with rfl | rfl | rfl | rfl <;> rfl) HW.out.1 (by omega) (cap - M)
  have HX := Lib.hid (And.intro ho2 hg2)
  clear ho2 hg2
  go_wp2_with fail
  go_ret
  refine ⟨rfl, ?_, Grown.trans ?_ (Grown.trans HW.out.2 HX.out.2)⟩
  · unfold Nrow
    rw [hEl]
    exact HX.out.1
  exact ⟨rfl, rfl, rfl, Nat.le_refl _, fun _ _ _ => rfl⟩

theorem nm_ne {a b : Nm} (h : a ≠ b) : a.src ≠ b.src ∨ (a.src = b.src ∧ a.dst ≠ b.dst) ∨ (a.src = b.src ∧ a.dst = b.dst ∧ a.proto ≠ b.proto) ∨ (a.src = b.src ∧ a.dst = b.dst ∧ a.proto = b.proto ∧ a.ident ≠ b.ident) := by
  obtain ⟨a0, a1, a2, a3⟩ := a
  obtain ⟨b0, b1, b2, b3⟩ := b
  simp only [ne_eq, Nm.mk.injEq] at h ⊢
  omega

set_option maxRecDepth 10000 in
set_option maxHeartbeats 2000000 in
theorem Index_any (w : World) (v : Value) (ws : List Nm) (h : Nms w v ws) (i : Nat) (hi : i < ws.length) (m : Nm) (hm : ws[i] = m) (hb4 : ∀ j (hj : j < ws.length), j < i → ws[j] ≠ m) (hlen : ws.length ≤ 1000) :
    Calls Try.prog 41 #[v, nmV m] w fun e w' => e = .returned (.int .i64 (i : Int)) ∧ Grow w w' := by
  obtain ⟨A, c, rfl, hlc, hcm⟩ := h.form
  have HS := Lib.hid (And.intro hm hb4)
  obtain ⟨b, off, rfl, hb, hcell⟩ := h.at_ (by omega)
  have HV := Lib.hid (And.intro hb hcell)
  have hcm2 : c ≤ 9223372036854775807 := hcm
  clear h hm hb4 hb hcell
  obtain ⟨m0, m1, m2, m3⟩ := m
  unfold nmV
  simp only
  go_enter Try.func41, Try.ntmps41
  go_wp2_with fail
  generalize hW : w.alloc (.cells #[.int .u32 (m0 : Int), .int .u32 (m1 : Int), .int .u8 (m2 : Int), .int .u16 (m3 : Int)] 70) = W
  have HW : Aside (Grow w W ∧ NmAt W w.heap.size 0 ⟨m0, m1, m2, m3⟩ ∧ w.heap.size < W.heap.size) := by
    rw [← hW]
    refine ⟨Grow.alloc _ _, ⟨?_, ?_, ?_, ?_⟩, by simp⟩ <;> simp [World.cell?_alloc_new]
  clear hW
  go_loopg [8] ws.length (fun g s8 wr => ∃ k : Nat, k ≤ i ∧ g = ws.length - k ∧ s8 = .int .i64 (k : Int) ∧ Grow W wr)
  case atStart => exact ⟨0, Nat.zero_le _, rfl, rfl, Grow.refl _⟩
  case round =>
    obtain ⟨k, hk, rfl, rfl, hgr⟩ := hrel
    have hkl : k < ws.length := by omega
    have RM : NmAt wr b (off + k * 4) ws[k] := ((HV.out.2 _ hkl).grow HW.out.1 HV.out.1).grow hgr (Nat.lt_of_lt_of_le HV.out.1 HW.out.1.size)
    have RT : NmAt wr w.heap.size 0 ⟨m0, m1, m2, m3⟩ := HW.out.2.1.grow hgr HW.out.2.2
    have hlt1 : b < wr.heap.size := Nat.lt_of_lt_of_le HV.out.1 (HW.out.1.trans hgr).size
    have hlt2 : w.heap.size < wr.heap.size := Nat.lt_of_lt_of_le HW.out.2.2 hgr.size
    have G1 := Lib.hid hgr
    clear hgr
    obtain ⟨c0, c1, c2, c3⟩ := RM
    obtain ⟨d0, d1, d2, d3⟩ := RT
    simp only [Nat.zero_add] at d1 d2 d3
    have hlt3 : decide ((k : Int) < (ws.length : Int)) = true := decide_eq_true (by omega)
    by_cases hki : k = i
    · subst hki
      have hx := HS.out.1
      rw [hx] at c0 c1 c2 c3
      simp only at c0 c1 c2 c3
      go_wp2_with fail
      go_quiet (fail)
      go_wp2_with fail
      go_ret
      exact ⟨rfl, HW.out.1.trans (G1.out.trans ⟨rfl, rfl, rfl, Nat.le_refl _, fun _ _ => rfl⟩)⟩
    · have hne := HS.out.2 k hkl (by omega)
      have HC := Lib.hid (And.intro c0 (And.intro c1 (And.intro c2 c3)))
      clear c0 c1 c2 c3
      have hd := nm_ne hne
      generalize ws[k] = x at *
      obtain ⟨x0, x1, x2, x3⟩ := x
      simp only at hd
      rcases hd with hd | ⟨e0, hd⟩ | ⟨e0, e1, hd⟩ | ⟨e0, e1, e2, hd⟩
      all_goals (try subst e0)
      all_goals (try subst e1)
      all_goals (try subst e2)
      all_goals obtain ⟨c0, c1, c2, c3⟩ := HC.out
      all_goals simp only at c0 c1 c2 c3
      · have f1 : ((m0 : Int) == (x0 : Int)) = false := by simpa using fun e => hd (by omega)
        have f2 : decide ((m0 : Int) = (x0 : Int)) = false := by simpa using fun e => hd (by omega)
        clear hd hne
        go_wp2_with fail
        go_quiet (fail)
        go_wp2_with fail
        go_roundg (ws.length - (k + 1))
        case measure => omega
        case rel => exact ⟨k + 1, by omega, rfl, by go_num, G1.out.trans ⟨rfl, rfl, rfl, Nat.le_refl _, fun _ _ => rfl⟩⟩
      · have f1 : ((m1 : Int) == (x1 : Int)) = false := by simpa using fun e => hd (by omega)
        have f2 : decide ((m1 : Int) = (x1 : Int)) = false := by simpa using fun e => hd (by omega)
        clear hd hne
        go_wp2_with fail
        go_quiet (fail)
        go_wp2_with fail
        go_roundg (ws.length - (k + 1))
        case measure => omega
        case rel => exact ⟨k + 1, by omega, rfl, by go_num, G1.out.trans ⟨rfl, rfl, rfl, Nat.le_refl _, fun _ _ => rfl⟩⟩
      · have f1 : ((m2 : Int) == (x2 : Int)) = false := by simpa using fun e => hd (by omega)
        have f2 : decide ((m2 : Int) = (x2 : Int)) = false := by simpa using fun e => hd (by omega)
        clear hd hne
        go_wp2_with fail
        go_quiet (fail)
        go_wp2_with fail
        go_roundg (ws.length - (k + 1))
        case measure => omega
        case rel => exact ⟨k + 1, by omega, rfl, by go_num, G1.out.trans ⟨rfl, rfl, rfl, Nat.le_refl _, fun _ _ => rfl⟩⟩
      · have f1 : ((m3 : Int) == (x3 : Int)) = false := by simpa using fun e => hd (by omega)
        have f2 : decide ((m3 : Int) = (x3 : Int)) = false := by simpa using fun e => hd (by omega)
        clear hd hne
        go_wp2_with fail
        go_quiet (fail)
        go_wp2_with fail
        go_roundg (ws.length - (k + 1))
        case measure => omega
        case rel => exact ⟨k + 1, by omega, rfl, by go_num, G1.out.trans ⟨rfl, rfl, rfl, Nat.le_refl _, fun _ _ => rfl⟩⟩
end Go.Proofs.Ytfjmcfkpbacicaa
/- The map of the packets that wait: looked up, laid into, taken from, counted. -/
namespace Go.Proofs.Ytfjmcfkpbacicaa
set_option linter.unusedVariables false
set_option linter.unusedSimpArgs false
set_option maxRecDepth 10000
open Go.ChangeShapes Go.WideShapes Go.ChangeAt Go.RowKit Go.Shelf Go.MapKept
open Go.ChangeMaps

theorem nm_check (b : Bool) (m : Nm) (w : World) : (Instr.checkKey b 10000 70 (nmV m)).run Try.prog w = .ok () w := by kernel_rfl
theorem nm_under : Try.prog.underlying 70 = some (.struct (Try.prog.fieldsOf 70)) := by kernel_rfl
theorem nm_eq (a b : Nm) (w : World) : (Op.equal 70 (nmV a) (nmV b)).run Try.prog w = .ok (decide (a = b)) w := by
  have h : (if (a.src : Int) = (b.src : Int) then if (a.dst : Int) = (b.dst : Int) then if (a.proto : Int) = (b.proto : Int) then if (a.ident : Int) = (b.ident : Int) then (Result.ok true w : Result Bool) else .ok false w else .ok false w else .ok false w else .ok false w) = .ok (decide (a = b)) w := by
    obtain ⟨a0, a1, a2, a3⟩ := a
    obtain ⟨b0, b1, b2, b3⟩ := b
    simp only [Nm.mk.injEq]
    split <;> rename_i h0
    · split <;> rename_i h1
      · split <;> rename_i h2
        · split <;> rename_i h3
          · rw [decide_eq_true ⟨by omega, by omega, by omega, by omega⟩]
          · rw [decide_eq_false fun e => h3 (by omega)]
        · rw [decide_eq_false fun e => h2 (by omega)]
      · rw [decide_eq_false fun e => h1 (by omega)]
    · rw [decide_eq_false fun e => h0 (by omega)]
  rw [← h]
  show (Op.equalIn 10000 70 (nmV a) (nmV b)).run Try.prog w = _
  go_simp
theorem nmV_inj {a b : Nm} (h : nmV a = nmV b) : a = b := by
  obtain ⟨a0, a1, a2, a3⟩ := a
  obtain ⟨b0, b1, b2, b3⟩ := b
  simp only [nmV, Value.agg.injEq, Array.mk.injEq, List.cons.injEq, Value.int.injEq, true_and, and_true] at h
  simp only [Nm.mk.injEq]
  omega

def entryOf (x : Nm × Nat) : Value × Value := (nmV x.1, .pointer (some ⟨x.2, 0, none⟩))
/-- The block mb is a map of these names to these blocks, in the order in which they were laid. -/
def MapAt (w : World) (mb : Nat) (L : List (Nm × Nat)) : Prop := ∃ es ck, w.heap[mb]? = some (.map es ck) ∧ Stamped es ck ∧ es.toList.map (fun e => (e.key, e.val)) = L.map entryOf

theorem asking (x : Nm) (w : World) : ∀ (L : List (Nm × Nat)) (es : List MapEntry) (i : Nat), es.map (fun e => (e.key, e.val)) = L.map entryOf →
    ((∀ y ∈ L, y.1 ≠ x) → (Instr.findAsking 70 (nmV x) es i).run Try.prog w = .ok none w) ∧
    (∀ j b, L[j]? = some (x, b) → (∀ t y, t < j → L[t]? = some y → y.1 ≠ x) → (Instr.findAsking 70 (nmV x) es i).run Try.prog w = .ok (some (i + j, .pointer (some ⟨b, 0, none⟩))) w)
  | [], [], i, _ => ⟨fun _ => rfl, fun j b h => by simp at h⟩
  | y :: L, e :: es, i, h => by
    simp only [List.map_cons, List.cons.injEq] at h
    obtain ⟨h1, h2⟩ := h
    obtain ⟨ih1, ih2⟩ := asking x w L es (i + 1) h2
    simp only [entryOf, Prod.mk.injEq] at h1
    obtain ⟨hk, hv⟩ := h1
    have step : (Instr.findAsking 70 (nmV x) (e :: es) i).run Try.prog w = if x = y.1 then .ok (some (i, e.val)) w else (Instr.findAsking 70 (nmV x) es (i + 1)).run Try.prog w := by
      simp only [Instr.findAsking, Sem.run_bind, hk, nm_eq, Result.andThen_ok]
      by_cases hxy : x = y.1
      · simp [hxy]
      · simp [hxy]
    refine ⟨fun hne => ?_, fun j b hj hne => ?_⟩
    · rw [step, if_neg (fun e => hne y (by simp) e.symm), ih1 (fun z hz => hne z (by simp [hz]))]
    · cases j with
      | zero =>
        simp only [List.getElem?_cons_zero, Option.some.injEq] at hj
        subst hj
        rw [step, if_pos rfl, hv, Nat.add_zero]
      | succ j =>
        rw [step, if_neg (fun e => hne 0 y (by omega) rfl e.symm), ih2 j b (by simpa using hj) (fun t z ht hz => hne (t + 1) z (by omega) (by simpa using hz)), show i + 1 + j = i + (j + 1) from by omega]
  | [], e :: es, i, h => by simp at h
  | y :: L, [], i, h => by simp at h
theorem find_now (x : Nm) : ∀ (es : List MapEntry) (w : World), (Instr.findKey 70 (nmV x) es).run Try.prog w = (Instr.findAsking 70 (nmV x) es 0).run Try.prog w
  | [], w => by
    simp only [Instr.findKey, Sem.run_bind, run_underlying nm_under, Result.andThen_ok]
    rfl
  | e :: es, w => by
    simp only [Instr.findKey, Sem.run_bind, run_underlying nm_under, Result.andThen_ok]
    rfl

section
variable {w : World} {mb : Nat} {L : List (Nm × Nat)}
theorem apart_of {x : Nm} {b j : Nat} (hn : (L.map Prod.fst).Nodup) (hj : L[j]? = some (x, b)) : ∀ t y, t < j → L[t]? = some y → y.1 ≠ x := by
  intro t y ht hy e
  have h1 := List.pairwise_iff_getElem.1 hn t j (by
    have := (List.getElem?_eq_some_iff.1 hy).1
    rw [List.length_map]; exact this) (by
    have := (List.getElem?_eq_some_iff.1 hj).1
    rw [List.length_map]; exact this) ht
  rw [List.getElem_map, List.getElem_map] at h1
  have e1 := (List.getElem?_eq_some_iff.1 hy).2
  have e2 := (List.getElem?_eq_some_iff.1 hj).2
  rw [e1, e2] at h1
  exact h1 e
theorem MapAt.keys (h : MapAt w mb L) : ∀ es ck, w.heap[mb]? = some (.map es ck) → es.toList.map (fun e => (e.key, e.val)) = L.map entryOf := by
  obtain ⟨es, ck, h1, h2, h3⟩ := h
  intro es' ck' h'
  rw [h1] at h'
  cases h'
  exact h3
theorem MapAt.look_some (h : MapAt w mb L) (hn : (L.map Prod.fst).Nodup) {x : Nm} {b j : Nat} (hj : L[j]? = some (x, b)) : (Instr.lookup 64 (.map (some mb)) (nmV x) false).run Try.prog w = .ok (.pointer (some ⟨b, 0, none⟩)) w := by
  obtain ⟨es, ck, h1, h2, h3⟩ := h
  have hf := (asking x w L es.toList 0 h3).2 j b hj (apart_of hn hj)
  simp only [Instr.lookup, Sem.run_bind, run_underlying Try.underlying64, Result.andThen_ok, MapKept.run_getObj_map h1, Sem.run_pure, nm_check, find_now, hf]
  rfl
theorem MapAt.look_none (h : MapAt w mb L) {x : Nm} (hx : ∀ y ∈ L, y.1 ≠ x) : (Instr.lookup 64 (.map (some mb)) (nmV x) false).run Try.prog w = .ok (.pointer none) w := by
  obtain ⟨es, ck, h1, h2, h3⟩ := h
  have hf := (asking x w L es.toList 0 h3).1 hx
  have hz : (zeroValue 71).run Try.prog w = .ok (.pointer none) w := by kernel_rfl
  simp only [Instr.lookup, Sem.run_bind, run_underlying Try.underlying64, Result.andThen_ok, MapKept.run_getObj_map h1, Sem.run_pure, nm_check, find_now, hf, hz]
  rfl
theorem MapAt.upd (h : MapAt w mb L) {x : Nm} (hx : ∀ y ∈ L, y.1 ≠ x) (b : Nat) : ∃ w', (Instr.mapUpdate 64 (.map (some mb)) (nmV x) (.pointer (some ⟨b, 0, none⟩))).run Try.prog w = .ok () w' ∧ MapAt w' mb (L ++ [(x, b)]) ∧ w.grownBy w' (some mb) := by
  obtain ⟨es, ck, h1, h2, h3⟩ := h
  have hf := (asking x w L es.toList 0 h3).1 hx
  have hk : ∀ e ∈ es.toList, e.key ≠ nmV x := by
    intro e he hex
    have : (e.key, e.val) ∈ L.map entryOf := by rw [← h3]; exact List.mem_map_of_mem (f := fun e : MapEntry => (e.key, e.val)) he
    obtain ⟨y, hy, e2⟩ := List.mem_map.1 this
    simp only [entryOf, Prod.mk.injEq] at e2
    exact hx y hy (nmV_inj (e2.1.trans hex))
  refine ⟨setBlock w mb (.map (es.push ⟨nmV x, .pointer (some ⟨b, 0, none⟩), ck⟩) (ck + 1)), ?_, ⟨_, _, heap_setBlock_same h1 _, stamped_push h2 hk, ?_⟩, ⟨rfl, rfl, rfl, by simp [setBlock], fun i _ hi => heap_setBlock_other h1 _ (fun e => hi (by rw [e]))⟩⟩
  · simp [Instr.mapUpdate, run_underlying Try.underlying64, MapKept.run_getObj_map h1, nm_check, find_now, hf, MapKept.run_setObj_map _ h1, Result.andThen, setBlock]
  · rw [Array.toList_push, List.map_append, List.map_append, h3]
    rfl
theorem MapAt.del (h : MapAt w mb L) (hn : (L.map Prod.fst).Nodup) {x : Nm} {b j : Nat} (hj : L[j]? = some (x, b)) (ty : TypeId) : ∃ w', (Builtin.delete_ #[64, 70] ty #[.map (some mb), nmV x]).run Try.prog w = .ok (.tuple #[]) w' ∧ MapAt w' mb (L.eraseIdx j) ∧ w.grownBy w' (some mb) := by
  obtain ⟨es, ck, h1, h2, h3⟩ := h
  have hf := (asking x w L es.toList 0 h3).2 j b hj (apart_of hn hj)
  have hjl : j < L.length := (List.getElem?_eq_some_iff.1 hj).1
  have hl : es.toList.length = L.length := by
    have := congrArg List.length h3
    simpa using this
  have hjs : j < es.size := by rw [← Array.length_toList, hl]; exact hjl
  refine ⟨setBlock w mb (.map (es.eraseIdxIfInBounds j) ck), ?_, ⟨_, _, heap_setBlock_same h1 _, stamped_erase h2 j, ?_⟩, ⟨rfl, rfl, rfl, by simp [setBlock], fun i _ hi => heap_setBlock_other h1 _ (fun e => hi (by rw [e]))⟩⟩
  · simp [Builtin.delete_, run_underlying Try.underlying64, MapKept.run_getObj_map h1, nm_check, find_now, hf, MapKept.run_setObj_map _ h1, Result.andThen, setBlock]
  · unfold Array.eraseIdxIfInBounds
    rw [dif_pos hjs, Array.toList_eraseIdx, map_eraseIdx, h3, ← map_eraseIdx]
theorem MapAt.len (h : MapAt w mb L) (ty : TypeId) : (Builtin.len_ #[64] ty #[.map (some mb)]).run Try.prog w = .ok (.int .i64 (L.length : Nat)) w := by
  obtain ⟨es, ck, h1, h2, h3⟩ := h
  have hl : es.size = L.length := by
    have := congrArg List.length h3
    simpa using this
  simp [Builtin.len_, run_underlying Try.underlying64, MapKept.run_getObj_map h1, hl, goInt]
end
end Go.Proofs.Ytfjmcfkpbacicaa
