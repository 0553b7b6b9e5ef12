/- Contract: Remove, on a table. -/
import Derived.Test.YtfdoofkofljgnaaRtTells
import Derived.Test.YtfdoofkofljgnaaRtDel
namespace Go.Proofs.Ytfdoofkofljgnaa
set_option linter.unusedVariables false
set_option linter.unusedSimpArgs false
open Go.ChangeShapes Go.WideShapes Go.ChangeAt Go.RowKit Go.Shelf

theorem rremL_length (r : List Rt) (x b c : Int) (hp : placeOf r x b c < r.length) : (((rremL r x b c).length : Nat) : Int) = (r.length : Int) - 1 := by
  unfold rremL
  rw [if_pos hp, List.length_eraseIdx_of_lt hp]
  omega

set_option maxRecDepth 10000 in
set_option maxHeartbeats 2000000 in
theorem Remove_any (w : World) (base tb : Nat) (r : List Rt) (M : Net) (role : Nat → Role) (h : Trie w base tb (r.length : Int) M role) (hM : Tells M r) (hF : Fine r) (x b c : Int) (hx : 0 ≤ x ∧ x ≤ 4294967295) :
    Calls Try.prog 17 #[.pointer (some ⟨tb, 0, none⟩), .int .u32 x, .int .i64 b, .int .i64 c] w fun e w' => e = .returned (.int .i64 (rremE r x b c)) ∧ ∃ (M' : Net) (role' : Nat → Role), Trie w' base tb ((rremL r x b c).length : Int) M' role' ∧ Tells M' (rremL r x b c) ∧ Moves role w role' w' := by
  have cS := search_any w base tb _ M role h r hM hF x b c hx
  have HT := Lib.hid (And.intro h (And.intro hM hF))
  clear h hM hF
  go_enter Try.func17, Try.ntmps17
  go_wp2_with fail
  refine cS.mono ?_
  clear cS
  rintro e w1 ⟨⟨hp, k, d, p, rfl, hd, ⟨hpl, hpc⟩, rfl⟩ | ⟨hp, rfl⟩, hg1⟩
  · obtain ⟨hT, hM, hF⟩ := HT.out
    have hn := (hT.node _ _ _ hd).2.2
    have hxk : netOf x k = x := (hT.node _ _ _ hd).2.1.2.2
    have hblt : d.blk < w.heap.size := hT.lt _ (by rw [hn.blk]; simp)
    obtain ⟨g, cap, hwv, hgb, hgl, hnc, hcm⟩ := hn.row.pos (by omega)
    have hO : Orow 72 w1 base (.slice (some ⟨g, 0, none⟩) d.ws.length cap) d.ws := by rw [← hwv]; exact hn.row.grow hg1
    have hne : g ≠ d.blk := fun e => by
      have := hn.mine g (by rw [hwv]; rfl)
      rw [e, hn.blk] at this
      cases this
    have hfew := hM.few hF hd
    have cD := Delete_any w1 base g cap p d.ws hO hpl (by omega)
    have c2 : w1.cell? ⟨d.blk, 2, none⟩ = some (.slice (some ⟨g, 0, none⟩) d.ws.length cap) := by rw [← hwv]; exact (hg1.cell (p := ⟨d.blk, 2, none⟩) hblt).trans hn.c2
    have hl := hF.len
    have hfz : w1.frozen? ⟨d.blk, 2, none⟩ = false := (hg1.frozen (p := ⟨d.blk, 2, none⟩) hblt).trans (hn.fz 2)
    have hfl : d.ws.length < 1000000 := by omega
    have hps : (p : Int) < 1000000 := by omega
    have H1 := Lib.hid (And.intro hp (And.intro hd (And.intro (show ∃ h : p < d.ws.length, d.ws[p].cost = c from ⟨hpl, hpc⟩) (And.intro hwv (And.intro hg1 (And.intro hnc hcm))))))
    have H2 := Lib.hid (And.intro hne (And.intro hblt hxk))
    have H3 := Lib.hid (And.intro hgb hgl)
    clear hp hd hpl hpc hwv hg1 hnc hcm hne hblt hxk hn hT hM hF hO hgb hgl hfew hl
    go_wp2_with fail
    refine cD.mono ?_
    rintro e w2 ⟨rfl, ho2, hg2⟩
    have hb2 : w2.heap[d.blk]? = w1.heap[d.blk]? := hg2.block d.blk (Nat.lt_of_lt_of_le H2.out.2.1 H1.out.2.2.2.2.1.size) (fun e => H2.out.1 (Option.some.inj e).symm)
    have c22 := (World.cell?_of_block (w := w1) (a := ⟨d.blk, 2, none⟩) hb2).trans c2
    have f22 := (World.frozen?_of_block (w := w1) (a := ⟨d.blk, 2, none⟩) hb2).trans hfz
    obtain ⟨hp, hd, ⟨hpl, hpc⟩, hwv, hg1, hnc, hcm⟩ := H1.out
    obtain ⟨hT, hM, hF⟩ := HT.out
    have hfin := Trie.rowed hT hd (W1 := w1) hg1 (by rw [hwv]; exact hg2) (v := .slice (some ⟨g, 0, none⟩) (d.ws.length - 1) cap) (.inl (by rw [hwv]; rfl))
      (Orow.other (w' := w2.setCell ⟨d.blk, 2, none⟩ (.slice (some ⟨g, 0, none⟩) (d.ws.length - 1) cap)) ho2 (fun b hb _ => Below.heap_setCell _ _ _ _ (by injection hb with hb; show b ≠ d.blk; rw [← hb]; exact H2.out.1))) rfl ⟨rfl, rfl, rfl, Nat.le_refl _, fun _ _ _ => rfl⟩
    obtain ⟨role', hT', hMv⟩ := hfin
    have hTl := Tells.rem hM hF hd hp hpl hpc d.blk (.slice (some ⟨g, 0, none⟩) (d.ws.length - 1) cap)
    have hFr := hF.rem x (k : Int) c
    have hlen : (r.length : Int) ≤ 64 := by have := hF.len; omega
    have hlen0 : 1 ≤ (r.length : Int) := by omega
    have hnn := rremL_length r x (k : Int) c hp
    have hcnt := hT'.cnt
    obtain ⟨dt, hdt, hdtb⟩ := hT'.top
    have hfz3 := (hT'.node _ _ _ hdt).2.2.fz 3
    rw [hdtb] at hfz3
    have hT5 := hT'.count ((r.length : Int) - 1)
    have hmv5 : Moves role' (w2.setCell ⟨d.blk, 2, none⟩ (.slice (some ⟨g, 0, none⟩) (d.ws.length - 1) cap)) role' ((w2.setCell ⟨d.blk, 2, none⟩ (.slice (some ⟨g, 0, none⟩) (d.ws.length - 1) cap)).setCell ⟨tb, 3, none⟩ (.int .i64 ((r.length : Int) - 1))) :=
      ⟨Stays.set _ _ _ (by show ¬ role' tb = .none; rw [hT'.topblk]; simp), fun _ _ h => h⟩
    have hrL : rremL r x (k : Int) c = r.eraseIdx (placeOf r x (k : Int) c) := by unfold rremL; rw [if_pos hp]
    rw [← hrL] at hTl
    have hfew2 : ∀ k2 x2 d2, upd M k x (some ⟨d.blk, .slice (some ⟨g, 0, none⟩) (d.ws.length - 1) cap, d.ws.eraseIdx p⟩) k2 x2 = some d2 → d2.ws.length ≤ 1000000 := fun k2 x2 d2 h2 => by have := hTl.few hFr h2; omega
    have cP := prune_any _ base tb _ _ role' hT5 x hx k ⟨d.blk, .slice (some ⟨g, 0, none⟩) (d.ws.length - 1) cap, d.ws.eraseIdx p⟩ (by rw [H2.out.2.2]; exact upd_same _ _ _ _) hfew2
    have hE : rremE r x (k : Int) c = 0 := by unfold rremE; rw [if_pos hp]
    have HP := Lib.hid (And.intro hTl (And.intro hFr (And.intro hnn (hMv.trans hmv5))))
    have HE := Lib.hid hE
    clear hT5 hT' hMv hmv5 hTl hFr hfew2 hE hrL hwv hg1 hnc hcm hpl hpc hp hd hT hM hF ho2 hg2 hb2 hdt hdtb hnn cD c2 hfz
    go_wp2_with fail
    refine cP.mono ?_
    rintro e w6 ⟨rfl, M6, hT6, hMv6, hSh⟩
    have hF6 := Lib.hid (And.intro hT6 (And.intro hMv6 hSh))
    clear hT6 hMv6 hSh cP hcnt hfz3 c22 f22
    go_wp2_with fail
    go_ret
    obtain ⟨hT6, hMv6, hSh⟩ := hF6.out
    obtain ⟨hTl, hFr, hnn, hMv⟩ := HP.out
    refine ⟨by rw [HE.out]; rfl, M6, role', by rw [hnn]; exact hT6, hTl.shrunk hFr hSh, hMv.trans hMv6⟩
  · have H1 := Lib.hid (And.intro hp hg1)
    clear hp hg1
    go_wp2_with fail
    go_ret
    obtain ⟨hp, hg1⟩ := H1.out
    refine ⟨by unfold rremE; rw [if_neg hp]; rfl, M, role, ?_, ?_, Moves.grow hg1⟩
    · unfold rremL; rw [if_neg hp]; exact HT.out.1.grow hg1
    · unfold rremL; rw [if_neg hp]; exact HT.out.2.1
end Go.Proofs.Ytfdoofkofljgnaa
