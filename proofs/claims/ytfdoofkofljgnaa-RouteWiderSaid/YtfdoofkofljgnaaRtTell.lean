/- Contracts: tell, node.all, All, Len, New. -/
import Derived.Test.YtfdoofkofljgnaaRtWalkP
namespace Go.Proofs.Ytfdoofkofljgnaa
set_option linter.unusedVariables false
set_option linter.unusedSimpArgs false
open Go.ChangeShapes Go.WideShapes Go.ChangeAt Go.RowKit Go.Shelf

theorem Rts.low {w w' : World} {v : Value} {l : List Rt} {B : Nat} (h : Rts w v l) (hb : Below B w w') (hv : ∀ b, v.ownBlock = some b → b < B) : Rts w' v l := h.other hb.size fun b hb' _ => hb.block b (hv b hb')

theorem Grown.trans_ {a b c : World} {row : Option Nat} (h : a.grownBy b row) (k : b.grownBy c row) : a.grownBy c row :=
  ⟨k.os.trans h.os, k.tape.trans h.tape, k.output.trans h.output, Nat.le_trans h.size k.size, fun i hi hne => (k.block i (Nat.lt_of_lt_of_le hi h.size) hne).trans (h.block i hi hne)⟩

set_option maxRecDepth 10000 in
set_option maxHeartbeats 2000000 in
theorem tell_g (w : World) (blk bt : Nat) (wv : Value) (ws : List Rt) (hc : w.cell? ⟨blk, 2, none⟩ = some wv) (hv : Rts w wv ws) (hbt : bt ≤ w.heap.size) (hb2 : ∀ b, wv.ownBlock = some b → b < bt) (v : Value) (l : List Rt)
    (ho : Orow 32 w bt v l) (hlen : l.length + ws.length ≤ 100000000) :
    Calls Try.prog 29 #[.pointer (some ⟨blk, 0, none⟩), v] w fun e w' => ∃ v', e = .returned v' ∧ Orow 32 w' bt v' (l ++ ws) ∧ w.grownBy w' v.ownBlock := by
  obtain ⟨A, c, rfl, hlc, hcm⟩ := hv.form
  have hcm2 : ws.length ≤ 9223372036854775807 := Nat.le_trans hlc hcm
  have HV := Lib.hid hv
  have HB := Lib.hid hb2
  have HO := Lib.hid ho
  clear hv hb2 ho
  go_enter Try.func29, Try.ntmps29
  go_wp2_with fail
  go_loopg [1, 12] ws.length (fun g s1 s12 wr => ∃ k : Nat, k ≤ ws.length ∧ g = ws.length - k ∧ s12 = .int .i64 (k : Int) ∧ Orow 32 wr bt s1 (l ++ ws.take k) ∧ w.grownBy wr v.ownBlock ∧ (∀ g, s1.ownBlock = some g → v.ownBlock = some g ∨ w.heap.size ≤ g))
  case atStart => exact ⟨0, Nat.zero_le _, rfl, rfl, by simpa using HO.out, ⟨rfl, rfl, rfl, Nat.le_refl _, fun _ _ _ => rfl⟩, fun g hg => .inl hg⟩
  case round =>
    obtain ⟨k, hk, rfl, rfl, ho, hgw, hrw⟩ := hrel
    have hbl : Below bt w _ := (Below.refl bt w).grown hgw hbt fun g hg => (HO.out.lt g hg).1
    rcases Nat.lt_or_ge k ws.length with hlt | hge
    · obtain ⟨b, off, rfl, hb, hcell⟩ := HV.out.at_ (by omega)
      have hbb : b < bt := HB.out b rfl
      obtain ⟨x0, x1, x2, x3, x4⟩ := hcell k hlt
      have hwk : ws.take (k + 1) = ws.take k ++ [ws[k]] := List.take_succ_eq_append_getElem hlt
      have htl : (ws.take k).length = k := by rw [List.length_take]; omega
      generalize hy : ws[k] = y at *
      obtain ⟨yn, yb, yv, yi, yc⟩ := y
      rw [← hbl.cell (p := ⟨b, off + k * 5, none⟩) hbb] at x0
      rw [← hbl.cell (p := ⟨b, off + k * 5 + 1, none⟩) hbb] at x1
      rw [← hbl.cell (p := ⟨b, off + k * 5 + 2, none⟩) hbb] at x2
      rw [← hbl.cell (p := ⟨b, off + k * 5 + 3, none⟩) hbb] at x3
      rw [← hbl.cell (p := ⟨b, off + k * 5 + 4, none⟩) hbb] at x4
      have hsz := hbl.size
      have A1 := Lib.hid (And.intro hgw (And.intro hwk (And.intro htl hrw)))
      have hblt : b < wr.heap.size := Nat.lt_of_lt_of_le hb hsz
      have HOr := Lib.hid ho
      have hL : Hid (∀ g, g = wr.heap.size + 1 → Rts ((wr.alloc (.cells #[.int .u32 yn, .int .i64 yb, .int .u32 yv, .int .i64 yi, .int .i64 yc] 72)).alloc (.cells #[.int .u32 yn, .int .i64 yb, .int .u32 yv, .int .i64 yi, .int .i64 yc] 32)) (.slice (some ⟨g, 0, none⟩) 1 1) [⟨yn, yb, yv, yi, yc⟩]) :=
        fun g hg => (Orow.lit_at 32 _ ⟨yn, yb, yv, yi, yc⟩ _ rfl g (by rw [hg]; simp)).rts
      have hOw : Hid (Orow 32 ((wr.alloc (.cells #[.int .u32 yn, .int .i64 yb, .int .u32 yv, .int .i64 yi, .int .i64 yc] 72)).alloc (.cells #[.int .u32 yn, .int .i64 yb, .int .u32 yv, .int .i64 yi, .int .i64 yc] 32)) bt _ (l ++ ws.take k)) := ho.grow ((Grow.alloc wr _).trans (Grow.alloc _ _))
      have hrow : Hid (∀ g, _ = some g → bt ≤ g ∧ g < wr.heap.size) := ho.lt
      clear hbl ho hcell hwk hy hb hgw hrw
      have hltI : (k : Int) < (ws.length : Int) := by omega
      go_wp2_with (at_builtin; refine wpList_app5 _ rfl (.tmp 16) (.tmp 18) 26 32 rfl Try.underlying26 infoRoute bt _ _ _ _ rfl rfl hOw.out (hL.out _ (by simp)) (by simp [htl]; omega) (by simp; omega) ?_; intro v1 w1 ho1 hg1 hat1; have H1 := Lib.hid (And.intro ho1 (And.intro hg1 hat1)); clear ho1 hg1 hat1)
      obtain ⟨ho1, hg1, hat1⟩ := H1.out
      obtain ⟨hgw, hwk, _, hrw⟩ := A1.out
      go_roundg (ws.length - (k + 1))
      case measure => omega
      case rel =>
        refine ⟨k + 1, by omega, rfl, by go_num, by rw [hwk, ← List.append_assoc]; exact ho1, ?_, fun g hg => ?_⟩
        · have h2 := Grown.trans_ (Grown.trans_ hgw (World.grownBy_alloc _ (.cells #[.int .u32 yn, .int .i64 yb, .int .u32 yv, .int .i64 yi, .int .i64 yc] 72) v.ownBlock)) (World.grownBy_alloc _ (.cells #[.int .u32 yn, .int .i64 yb, .int .u32 yv, .int .i64 yi, .int .i64 yc] 32) v.ownBlock)
          exact ⟨hg1.os.trans h2.os, hg1.tape.trans h2.tape, hg1.output.trans h2.output, Nat.le_trans h2.size hg1.size, fun j hj hne => (hg1.block j (Nat.lt_of_lt_of_le hj h2.size) (fun e => by
            rcases hrw j e.symm with h3 | h3
            · exact hne h3.symm
            · omega)).trans (h2.block j hj hne)⟩
        · rcases hat1 with h2 | h2
          · rw [h2] at hg; exact hrw g hg
          · rw [h2] at hg
            injection hg with hg
            have := hgw.size
            simp at hg
            exact .inr (by omega)
    · have hkk : k = ws.length := by omega
      subst hkk
      rw [List.take_length] at ho
      have A1 := Lib.hid (And.intro ho hgw)
      clear ho hbl hgw hrw
      go_wp2_with fail
      go_ret
      exact ⟨_, rfl, A1.out⟩
theorem tell_any (w : World) (blk bt : Nat) (wv : Value) (ws : List Rt) (hc : w.cell? ⟨blk, 2, none⟩ = some wv) (hv : Rts w wv ws) (hbt : bt ≤ w.heap.size) (hb2 : ∀ b, wv.ownBlock = some b → b < bt) (v : Value) (l : List Rt)
    (ho : Orow 32 w bt v l) (hlen : l.length + ws.length ≤ 100000000) :
    Calls Try.prog 29 #[.pointer (some ⟨blk, 0, none⟩), v] w fun e w' => ∃ v', e = .returned v' ∧ Orow 32 w' bt v' (l ++ ws) ∧ Below bt w w' :=
  (tell_g w blk bt wv ws hc hv hbt hb2 v l ho hlen).mono fun _ _ ⟨v', he, h1, h2⟩ => ⟨v', he, h1, (Below.refl bt w).grown h2 hbt fun g hg => (ho.lt g hg).1⟩
end Go.Proofs.Ytfdoofkofljgnaa
