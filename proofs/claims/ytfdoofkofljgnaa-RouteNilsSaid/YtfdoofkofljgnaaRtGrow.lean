/- Contracts: grow, node.add. -/
import Derived.Test.YtfdoofkofljgnaaTrieUpd
import Derived.Test.YtfdoofkofljgnaaRtSort
namespace Go.Proofs.Ytfdoofkofljgnaa
set_option linter.unusedVariables false
set_option linter.unusedSimpArgs false
open Go.ChangeShapes Go.WideShapes Go.ChangeAt Go.RowKit Go.Shelf

/-- M' is M with some nodes more, which have no routes. -/
structure Wider (M M' : Net) : Prop where
  keep : ∀ k x d, M k x = some d → M' k x = some d
  new : ∀ k x d, M' k x = some d → M k x = some d ∨ (M k x = none ∧ d.ws = [])
theorem Wider.refl (M : Net) : Wider M M := ⟨fun _ _ _ h => h, fun _ _ _ h => .inl h⟩
theorem Wider.more {M M' : Net} (h : Wider M M') {k : Nat} {x : Int} (hno : M' k x = none) (b : Nat) (v : Value) : Wider M (upd M' k x (some ⟨b, v, []⟩)) := by
  have h0 : M k x = none := by
    cases hm : M k x with
    | none => rfl
    | some d => have := h.keep _ _ _ hm; rw [hno] at this; cases this
  refine ⟨fun k2 x2 d hd => ?_, fun k2 x2 d hd => ?_⟩
  · by_cases hk : k2 = k ∧ x2 = x
    · obtain ⟨rfl, rfl⟩ := hk
      rw [h0] at hd; cases hd
    · rw [upd_other _ _ _ _ hk]
      exact h.keep _ _ _ hd
  · by_cases hk : k2 = k ∧ x2 = x
    · obtain ⟨rfl, rfl⟩ := hk
      rw [upd_same] at hd
      cases hd
      exact .inr ⟨h0, rfl⟩
    · rw [upd_other _ _ _ _ hk] at hd
      exact h.new _ _ _ hd

set_option maxRecDepth 10000 in
set_option maxHeartbeats 2000000 in
theorem grow_any (w : World) (base tb : Nat) (n : Int) (M : Net) (role : Nat → Role) (h : Trie w base tb n M role) (a : Int) (ha : 0 ≤ a ∧ a ≤ 4294967295) (kb : Nat) (hkb : kb ≤ 32) :
    Calls Try.prog 32 #[.pointer (some ⟨tb, 0, none⟩), .int .u32 a, .int .i64 (kb : Int)] w fun e w' => ∃ (M' : Net) (role' : Nat → Role) (d : Nd), e = .returned (.pointer (some ⟨d.blk, 0, none⟩)) ∧
      M' kb (netOf a kb) = some d ∧ Trie w' base tb n M' role' ∧ Moves role w role' w' ∧ Wider M M' := by
  have HT := Lib.hid h
  clear h
  go_enter Try.func32, Try.ntmps32
  go_wp2_with fail
  go_loopg [7, 14] kb (fun g s7 s14 wr => ∃ (k : Nat) (M' : Net) (role' : Nat → Role) (d : Nd), k ≤ kb ∧ g = kb - k ∧ s14 = .int .i64 (k : Int) ∧ s7 = .pointer (some ⟨d.blk, 0, none⟩) ∧ M' k (netOf a (k : Int)) = some d ∧ Trie wr base tb n M' role' ∧ Moves role w role' wr ∧ Wider M M')
  case atStart =>
    obtain ⟨d, hd, rfl⟩ := HT.out.top
    exact ⟨0, M, role, d, Nat.zero_le _, rfl, rfl, rfl, by rw [show netOf a ((0 : Nat) : Int) = 0 from netOf_zero ha]; exact hd, HT.out, Moves.refl _ _, Wider.refl _⟩
  case round =>
    obtain ⟨k, M', role', d, hk, rfl, rfl, rfl, hd, hT, hMv, hWd⟩ := hrel
    rcases Nat.lt_or_ge k kb with hlt | hge
    · have hbit := fun w => bit_any a k ha (by omega) w
      have hch := hT.child hd
      have hn := (hT.node _ _ _ hd).2.2
      have hblt : d.blk < wr.heap.size := hT.lt _ (by rw [hn.blk]; simp)
      have hdlt : decide ((k : Int) < (kb : Int)) = true := decide_eq_true (by omega)
      cases hM : M' (k + 1) (netOf a ((k + 1 : Nat) : Int)) with
      | some d1 =>
        rw [hM, show ptrOf (some d1) = .pointer (some ⟨d1.blk, 0, none⟩) from rfl] at hch
        have A1 := Lib.hid (And.intro hM (And.intro hT (And.intro hMv hWd)))
        clear hM hT hMv hWd hd hn
        rcases bitOf_two a k with hb | hb
        all_goals
          rw [hb] at hbit hch
          simp only [Int.toNat_zero, Int.toNat_one] at hch
          go_wp2_with (go_at_call 39; refine (hbit _).mono ?_; rintro e w' ⟨rfl, rfl⟩)
          go_roundg (kb - (k + 1))
          case measure => omega
          case rel => exact ⟨k + 1, M', role', d1, by omega, rfl, by go_num, rfl, A1.out.1, A1.out.2⟩
      | none =>
        rw [hM, show ptrOf none = .pointer none from rfl] at hch
        have hm := hT.more ha (show k ≤ 31 by omega) hd hM 61
        have hfz : ∀ i, (wr.alloc (.cells #[.pointer none, .pointer none, .slice none 0 0] 61)).frozen? ⟨d.blk, i, none⟩ = false := fun i => by
          rw [World.frozen?_of_block (w := wr) (a := ⟨d.blk, i, none⟩) (Below.heap_alloc _ _ _ hblt)]; exact hn.fz i
        have hca : ∀ i, (wr.alloc (.cells #[.pointer none, .pointer none, .slice none 0 0] 61)).cell? ⟨d.blk, i, none⟩ = wr.cell? ⟨d.blk, i, none⟩ := fun i => World.cell?_of_block (w := wr) (a := ⟨d.blk, i, none⟩) (Below.heap_alloc _ _ _ hblt)
        have hmv : Moves role' wr (fun b => if b = wr.heap.size then .node (k + 1) (netOf a ((k + 1 : Nat) : Int)) else role' b) ((wr.alloc (.cells #[.pointer none, .pointer none, .slice none 0 0] 61)).setCell ⟨d.blk, (bitOf a k).toNat, none⟩ (.pointer (some ⟨wr.heap.size, 0, none⟩))) := by
          refine ⟨((Grow.alloc wr _).stays _).trans (Stays.set _ _ _ (by simp [hn.blk])), fun b hb hr => ?_⟩
          show (if b = wr.heap.size then _ else _) = _
          rw [if_neg (by omega)]
          exact hr
        have A1 := Lib.hid (And.intro hm (And.intro (hMv.trans hmv) (hWd.more hM wr.heap.size (.slice none 0 0))))
        clear hM hT hMv hWd hd hn hm hmv
        have hcc := (hca (bitOf a k).toNat).trans hch
        rcases bitOf_two a k with hb | hb
        all_goals
          rw [hb] at hbit hch A1 hcc
          simp only [Int.toNat_zero, Int.toNat_one] at hch A1 hcc
          rw [World.setCell_alloc_past (hn := hblt)] at A1
          have f0 := hfz 0
          have f1 := hfz 1
          clear hca
          go_wp2_with (go_at_call 39; refine (hbit _).mono ?_; rintro e w' ⟨rfl, rfl⟩)
          go_roundg (kb - (k + 1))
          case measure => omega
          case rel => exact ⟨k + 1, _, _, ⟨wr.heap.size, .slice none 0 0, []⟩, by omega, rfl, by go_num, rfl, upd_same _ _ _ _, A1.out⟩
    · obtain rfl : k = kb := by omega
      have A1 := Lib.hid (And.intro hd (And.intro hT (And.intro hMv hWd)))
      clear hd hT hMv hWd
      go_wp2_with fail
      go_ret
      exact ⟨M', role', d, rfl, A1.out⟩

/-- A row that grew, its slice stored, its elements moved: the trie behind it. -/
theorem Trie.rowed {w : World} {base tb : Nat} {n : Int} {M : Net} {role : Nat → Role} (h : Trie w base tb n M role) {k : Nat} {x : Int} {d : Nd} (hd : M k x = some d) {W1 w1 w4 : World} (hG : Grow w W1) (hg1 : W1.grownBy w1 d.wv.ownBlock) {v : Value}
    (hat : v.ownBlock = d.wv.ownBlock ∨ v.ownBlock = some W1.heap.size) {ws' : List Rt} (ho : Orow 72 w4 base v ws') (h1 : v.oneCell' = true) (hg4 : (w1.setCell ⟨d.blk, 2, none⟩ v).grownBy w4 v.ownBlock) :
    ∃ role', Trie w4 base tb n (upd M k x (some ⟨d.blk, v, ws'⟩)) role' ∧ Moves role w role' w4 := by
  have hn := (h.node _ _ _ hd).2.2
  have hblt : d.blk < w.heap.size := h.lt _ (by rw [hn.blk]; simp)
  have hbv : d.wv.ownBlock ≠ some d.blk := fun e => by have := hn.mine _ e; rw [hn.blk] at this; cases this
  have hbv2 : v.ownBlock ≠ some d.blk := fun e => by
    rcases hat with h2 | h2
    · rw [h2] at e; exact hbv e
    · rw [h2] at e
      injection e with e
      have := hG.size
      omega
  have hsz1 : w1.heap.size = (w1.setCell ⟨d.blk, 2, none⟩ v).heap.size := by simp [World.setCell]
  have hnew : ∀ g, v.ownBlock = some g → role g = .row k x ∨ (role g = .none ∧ w.heap.size ≤ g) := by
    intro g hg
    rcases hat with h2 | h2
    · rw [h2] at hg; exact .inl (hn.mine g hg)
    · rw [h2] at hg
      injection hg with hg
      have := hG.size
      exact .inr ⟨h.free (.inr (by omega)), by omega⟩
  have same : ∀ b, b < w.heap.size → b ≠ d.blk → role b ≠ .row k x → w4.heap[b]? = w.heap[b]? := by
    intro b hb hne hr
    have e1 := hG.block b hb
    have e2 : w1.heap[b]? = W1.heap[b]? := hg1.block b (Nat.lt_of_lt_of_le hb hG.size) (fun e => hr (hn.mine b e.symm))
    have e3 : (w1.setCell ⟨d.blk, 2, none⟩ v).heap[b]? = w1.heap[b]? := Below.heap_setCell _ _ _ _ hne
    have e4 : w4.heap[b]? = (w1.setCell ⟨d.blk, 2, none⟩ v).heap[b]? := hg4.block b (by rw [← hsz1]; exact Nat.lt_of_lt_of_le hb (Nat.le_trans hG.size hg1.size)) (fun e => by
      rcases hnew b e.symm with h3 | h3
      · exact hr h3
      · omega)
    rw [e4, e3, e2, e1]
  have hd1 : w1.heap[d.blk]? = w.heap[d.blk]? := (hg1.block d.blk (Nat.lt_of_lt_of_le hblt hG.size) (fun e => hbv e.symm)).trans (hG.block d.blk hblt)
  have hd4 : w4.heap[d.blk]? = (w1.setCell ⟨d.blk, 2, none⟩ v).heap[d.blk]? := hg4.block d.blk (by rw [← hsz1]; exact Nat.lt_of_lt_of_le hblt (Nat.le_trans hG.size hg1.size)) (fun e => hbv2 e.symm)
  have hsz : w.heap.size ≤ w4.heap.size := Nat.le_trans hG.size (Nat.le_trans hg1.size (by rw [hsz1]; exact hg4.size))
  have hp := h.put hd v ws' hsz (fun b hr hne hrr => same b (h.lt b hr) hne hrr)
    (fun i hi => by
      rw [World.cell?_of_block (w := w1.setCell ⟨d.blk, 2, none⟩ v) (a := ⟨d.blk, i, none⟩) hd4, World.cell?_setCell_other _ _ _ _ (by intro e; injection e with _ e2; exact hi e2.symm)]
      exact World.cell?_of_block (w := w) (a := ⟨d.blk, i, none⟩) hd1)
    (by
      rw [World.cell?_of_block (w := w1.setCell ⟨d.blk, 2, none⟩ v) (a := ⟨d.blk, 2, none⟩) hd4]
      exact World.cell?_setCell_same' _ _ _ (by rw [World.cell?_of_block (w := w) (a := ⟨d.blk, 2, none⟩) hd1, hn.c2]; rfl))
    (fun i => by
      rw [World.frozen?_of_block (w := w1.setCell ⟨d.blk, 2, none⟩ v) (a := ⟨d.blk, i, none⟩) hd4, World.frozen?_setCell, World.frozen?_of_block (w := w) (a := ⟨d.blk, i, none⟩) hd1]
      exact hn.fz i)
    ho (fun g hg => (hnew g hg).imp id And.left)
  refine ⟨_, hp, ⟨⟨?_, fun b hb hr => same b hb (fun e => by rw [e, hn.blk] at hr; cases hr) (by rw [hr]; simp)⟩, fun b hb hr => ?_⟩⟩
  · exact ((hG.mono (Nat.zero_le _)).trans ⟨hg1.os, hg1.tape, hg1.output, hg1.size, fun _ hb => absurd hb (Nat.not_lt_zero _)⟩).trans ((((Below.refl 0 w1).setCell (Nat.zero_le _) v)).trans ⟨hg4.os, hg4.tape, hg4.output, hg4.size, fun _ hb => absurd hb (Nat.not_lt_zero _)⟩)
  · show (if v.ownBlock = some b then _ else _) = _
    rw [if_neg (fun e => by
      rcases hnew b e with h3 | h3
      · rw [hr] at h3; cases h3
      · omega)]
    exact hr

set_option maxRecDepth 10000 in
set_option maxHeartbeats 2000000 in
theorem nodeadd_any (w : World) (base tb : Nat) (n : Int) (M : Net) (role : Nat → Role) (h : Trie w base tb n M role) (k : Nat) (x : Int) (d : Nd) (hd : M k x = some d) (r : Rt) (hlen : d.ws.length ≤ 900000) (hbase : base ≤ w.heap.size) :
    Calls Try.prog 33 #[.pointer (some ⟨d.blk, 0, none⟩), rtV r] w fun e w' => e = .returned (.tuple #[]) ∧ ∃ (wv' : Value) (ws' : List Rt) (role' : Nat → Role), ws'.Perm (d.ws ++ [r]) ∧ (ws'.Pairwise fun a b => a.cost ≤ b.cost) ∧
      Trie w' base tb n (upd M k x (some ⟨d.blk, wv', ws'⟩)) role' ∧ Moves role w role' w' := by
  have hn := (h.node _ _ _ hd).2.2
  have hblt : d.blk < w.heap.size := h.lt _ (by rw [hn.blk]; simp)
  have HT := Lib.hid h
  have HN := Lib.hid hn
  have HD := Lib.hid hd
  clear h hn hd
  obtain ⟨rn, rb, rv, ri, rcst⟩ := r
  unfold rtV
  go_enter Try.func33, Try.ntmps33
  go_wp2_with fail
  generalize hW : w.alloc (.cells #[.int .u32 rn, .int .i64 rb, .int .u32 rv, .int .i64 ri, .int .i64 rcst] 72) = W
  have hG : Grow w W := by rw [← hW]; exact Grow.alloc _ _
  have hsz : W.heap.size = w.heap.size + 1 := by rw [← hW]; simp
  have b0 : W.cell? ⟨w.heap.size, 0, none⟩ = some (.int .u32 rn) := by rw [← hW]; simp [World.cell?_alloc_new]
  have b1 : W.cell? ⟨w.heap.size, 1, none⟩ = some (.int .i64 rb) := by rw [← hW]; simp [World.cell?_alloc_new]
  have b2 : W.cell? ⟨w.heap.size, 2, none⟩ = some (.int .u32 rv) := by rw [← hW]; simp [World.cell?_alloc_new]
  have b3 : W.cell? ⟨w.heap.size, 3, none⟩ = some (.int .i64 ri) := by rw [← hW]; simp [World.cell?_alloc_new]
  have b4 : W.cell? ⟨w.heap.size, 4, none⟩ = some (.int .i64 rcst) := by rw [← hW]; simp [World.cell?_alloc_new]
  have HG := Lib.hid hG
  have HSZ := Lib.hid hsz
  have hWlt : w.heap.size < W.heap.size := by omega
  have hbltW : d.blk < W.heap.size := by omega
  clear hW hG hsz
  have n2 : W.cell? ⟨d.blk, 2, none⟩ = some d.wv := (HG.out.cell (p := ⟨d.blk, 2, none⟩) hblt).trans HN.out.c2
  have nf : ∀ i, W.frozen? ⟨d.blk, i, none⟩ = false := fun i => (HG.out.frozen (p := ⟨d.blk, i, none⟩) hblt).trans (HN.out.fz i)
  have hO : Hid (∀ w1, Grow W w1 → Orow 72 w1 base d.wv d.ws) := fun w1 hg => HN.out.row.grow (HG.out.trans hg)
  have hL : Hid (∀ g, g = W.heap.size → Rts (W.drew.alloc (.cells #[.int .u32 rn, .int .i64 rb, .int .u32 rv, .int .i64 ri, .int .i64 rcst] 72)) (.slice (some ⟨g, 0, none⟩) 1 1) [⟨rn, rb, rv, ri, rcst⟩]) := fun g hg => (Orow.lit_at 72 W.drew ⟨rn, rb, rv, ri, rcst⟩ _ rfl g hg).rts
  have hdwv : d.wv.ownBlock ≠ some d.blk := fun e => by have := HN.out.mine _ e; rw [HN.out.blk] at this; cases this
  have hone := HN.out.row.one
  have HW := Lib.hid hdwv
  clear hdwv
  generalize hdv : d.wv = dv at *
  have HDV := Lib.hid hdv
  clear hdv
  have hC : Hid (∀ w1, (W.drew.alloc (.cells #[.int .u32 rn, .int .i64 rb, .int .u32 rv, .int .i64 ri, .int .i64 rcst] 72)).grownBy w1 dv.ownBlock → w1.cell? ⟨d.blk, 2, none⟩ = some dv ∧ w1.frozen? ⟨d.blk, 2, none⟩ = false) := by
    intro w1 hg
    have hb := (hg.block d.blk (by simp; omega) (fun e => HW.out e.symm)).trans (Below.heap_alloc W.drew _ d.blk hbltW)
    exact ⟨(World.cell?_of_block (w := W) (a := ⟨d.blk, 2, none⟩) hb).trans n2, (World.frozen?_of_block (w := W) (a := ⟨d.blk, 2, none⟩) hb).trans (nf 2)⟩
  go_region_law (first | (refine step_app5 _ rfl (.tmp 8) (.tmp 10) 59 72 rfl Try.underlying59 infoWay base dv _ d.ws _ rfl rfl (hO.out _ ((Grow.drew _).trans (Grow.alloc _ _))) (hL.out _ (by simp)) (by simp; omega) (by simp; omega) ?_; intro v1 w1 ho1 hg1 hat1; obtain ⟨c2, f2⟩ := hC.out w1 hg1; generalize hL1 : d.ws ++ [(⟨rn, rb, rv, ri, rcst⟩ : Rt)] = L at ho1; have HL1 := Lib.hid hL1; clear hL1; obtain ⟨g1, cap1, rfl, hgb, hgl, hnc, hcm⟩ := ho1.pos (by rw [← HL1.out]; simp); have HO := Lib.hid (And.intro ho1 (And.intro hg1 hat1)); clear ho1 hg1 hat1))
  all_goals
    go_wp2_with fail
    obtain ⟨ho1, hg1, hat1⟩ := HO.out
    have hne : g1 ≠ d.blk := by
      intro e
      rcases hat1 with h2 | h2
      · exact HW.out (by rw [← h2, e]; rfl)
      · injection h2 with h2
        rw [e] at h2
        have h3 : d.blk = W.heap.size + 1 := by simpa using h2
        omega
    have hl : L.length ≤ 1000000 := by rw [← HL1.out]; simp; omega
    have hsort := sort_any _ base g1 cap1 L (Orow.other (w' := w1.setCell ⟨d.blk, 2, none⟩ (.slice (some ⟨g1, 0, none⟩) L.length cap1)) ho1 (fun b hb _ => Below.heap_setCell _ _ _ _ (by injection hb with hb; show b ≠ d.blk; rw [← hb]; exact hne))) hl
    refine hsort.mono ?_
    rintro e w4 ⟨rfl, ws', hperm, hsrt, ho4, hg4⟩
    have hlw : ws'.length = L.length := hperm.length_eq
    have hdd : d.wv = dv := HDV.out
    have hfin := Trie.rowed HT.out HD.out (W1 := W.drew.alloc (.cells #[.int .u32 rn, .int .i64 rb, .int .u32 rv, .int .i64 ri, .int .i64 rcst] 72)) ((HG.out.trans (Grow.drew _)).trans (Grow.alloc _ _)) (by rw [hdd]; exact hg1) (v := .slice (some ⟨g1, 0, none⟩) L.length cap1)
      (by rw [hdd]; exact hat1) ho4 rfl hg4
    obtain ⟨role', hT', hMv⟩ := hfin
    have hF := Lib.hid (And.intro hperm (And.intro hsrt (And.intro hT' hMv)))
    clear hperm hsrt hT' hMv ho4 hg4 hsort ho1 hg1 hat1
    go_wp2_with fail
    go_end0
    exact ⟨rfl, _, ws', role', by rw [HL1.out]; exact hF.out.1, hF.out.2.1, hF.out.2.2⟩
end Go.Proofs.Ytfdoofkofljgnaa
