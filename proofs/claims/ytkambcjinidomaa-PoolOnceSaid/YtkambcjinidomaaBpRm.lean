/- Contract: Remove of the program's pool. -/
import Derived.Test.YtkambcjinidomaaBpGv
namespace Go.Proofs.Ytkambcjinidomaa
set_option linter.unusedVariables false
set_option linter.unusedSimpArgs false
open Go.ChangeShapes Go.WideShapes Go.ChangeAt Go.RowKit

theorem run_bdel {mb : Nat} {b : Int × Int} {n : Int} {R : List (Int × Int × Int)} (w : World) (h : BM w mb ((n, b) :: R)) {ops : Array Oper} {rest : List Oper} {o : Oper} {a : Act} {Q : Exit → Act → World → Prop} (hgd : o.guard = none) (m x : Operand)
    (ho : o.op = Op.call { callee := Callee.builtin Builtin.delete, args := #[m, x], argTypes := #[59, 3] }) (hm : a.eval m = .map (some mb)) (hx : a.eval x = .int .i64 n)
    (hK : ∀ w', BM w' mb R → w.grownBy w' (some mb) → wpList Try.prog ops Q rest (a.put o.dst (.tuple #[])) w') : wpList Try.prog ops Q (o :: rest) a w := by
  obtain ⟨w', hrun, h2, h3⟩ := h.del o.type
  refine wpList_plain hgd fun K hK' => ?_
  unfold Oper.wp
  simp [execOp, ho, resolve, invoke, builtin, hm, hx, hrun, Result.andThen]
  exact hK' _ _ (hK w' h2 h3)
/-- The entries behind the first i free ones. -/
def entsAt (x : Gp) (i : Nat) : List (Int × Int × Int) := ents ⟨x.fr.drop i, x.out⟩
theorem entsAt_next {x : Gp} {i : Nat} (h : i < x.fr.length) : entsAt x i = ((bp x.fr i).id, (bp x.fr i).sz, 1) :: entsAt x (i + 1) := by
  unfold entsAt ents
  rw [bp_eq h, List.drop_eq_getElem_cons h]
  rfl
/-- Where Remove stands: i of the free ones are gone from the map. -/
structure RmAt (w wr : World) (base : Nat) (mb : Nat) (x : Gp) (i : Nat) : Prop where
  mp : BM wr mb (entsAt x i)
  keep : ∀ b, b ≠ mb → b < w.heap.size → wr.heap[b]? = w.heap[b]?
  size : w.heap.size ≤ wr.heap.size
  only : Only base Zp w wr
section
variable {w : World} {base pb : Nat} {gs : Array Value} {m : Nat → Nat} {v : Nat → Value} {p : Pls} {k : Nat}
theorem RmAt.next {wr w' : World} {mb i : Nat} {x : Gp} (h : RmAt w wr base mb x i) (hb : base ≤ mb) (hw : base ≤ w.heap.size) (h2 : BM w' mb (entsAt x (i + 1))) (hg : wr.grownBy w' (some mb)) : RmAt w w' base mb x (i + 1) := by
  obtain ⟨es, ck, e⟩ := h.mp.blk
  refine ⟨h2, fun b q1 q2 => (hg.block b (Nat.lt_of_lt_of_le q2 h.size) fun e => q1 (Option.some.inj e)).trans (h.keep b q1 q2), Nat.le_trans h.size hg.size, h.only.trans (zpp_map hg hb (Nat.le_trans hw h.size) e)⟩
theorem RmAt.cells (h : PpS w base pb gs m v p) (hk : k < 16) {wr : World} {i : Nat} (r : RmAt w wr base (m k) (p k) i) : wr.cell? ⟨pb, k * 2, none⟩ = some (.map (some (m k))) ∧ wr.cell? ⟨pb, k * 2 + 1, none⟩ = some (v k) ∧ wr.frozen? ⟨pb, k * 2 + 1, none⟩ = false := by
  have hb := (r.keep pb (Ne.symm (h.m_ne hk)) h.lt).trans h.blk
  exact ⟨(cell_of_row wr pb (k * 2) gs _ _ hb).trans (h.mc k hk), (cell_of_row wr pb (k * 2 + 1) gs _ _ hb).trans (h.vc k hk), frozen_of hb⟩
theorem RmAt.done (h : PpS w base pb gs m v p) (hp : POk p) (hk : k < 16) {wr : World} {i : Nat} (r : RmAt w wr base (m k) (p k) i) {u : Value} (hu : OffR w base 3 1 u ((p k).fr.drop i).length (((p k).fr.drop i).map iv)) (hub : u.ownBlock = (v k).ownBlock) :
    Bpp (wr.setCell ⟨pb, k * 2 + 1, none⟩ u) base pb (upd p k ⟨(p k).fr.drop i, (p k).out⟩) ∧ Only base Zp w (wr.setCell ⟨pb, k * 2 + 1, none⟩ u) := by
  have hb := (r.keep pb (Ne.symm (h.m_ne hk)) h.lt).trans h.blk
  have hb1 := heap_setCell_own (k := k * 2 + 1) hb u
  have k1 : ∀ b, b ≠ pb → (wr.setCell ⟨pb, k * 2 + 1, none⟩ u).heap[b]? = wr.heap[b]? := fun b hb => Below.heap_setCell _ _ _ _ hb
  refine ⟨⟨hp.upd ((hp k hk).rem i), gs.setIfInBounds (k * 2 + 1) u, m, fun j => if j = k then u else v j, h.step (x := ⟨(p k).fr.drop i, (p k).out⟩) hk hb1 (r.mp.keep (k1 _ (h.m_ne hk))) ?_ (.inl hub) fun b hl q1 q2 q3 => (k1 b q1).trans (r.keep b q2 hl)⟩, r.only.trans (Only.set hb h.bas zpp_pool _)⟩
  refine hu.other fun b cs q hh => ?_
  rw [hub] at q
  exact (k1 b (h.v_ne hk q)).trans (r.keep b (h.mv_ne hk hk q) (Array.getElem?_eq_some_iff.1 hh).1)
theorem offR_form {w : World} {base : Nat} {e : TypeId} {kk n : Nat} {v : Value} {xs : List Value} (h : OffR w base e kk v n xs) : (v = .slice none 0 0 ∧ n = 0) ∨ ∃ b off c, v = .slice (some ⟨b, off, none⟩) n c ∧ n ≤ c ∧ c ≤ maxLen := by
  rcases h.2 with h | ⟨g, off, cap, cur, e1, _, _, h1, h2, _⟩
  · exact .inl h
  · exact .inr ⟨g, off, cap, e1, h1, h2⟩
set_option maxRecDepth 10000 in
set_option maxHeartbeats 2000000 in
theorem remP (h : PpS w base pb gs m v p) (hp : POk p) (hb : base ≤ w.heap.size) (g n : Int) (hn : AI64 n) : Calls Try.prog 15 #[.pointer (some ⟨pb, 0, none⟩), .int .i64 g, .int .i64 n] w fun e w' => e = .returned (.tuple #[.int .i64 (rmI p g n), .int .i64 (rmE g n)]) ∧ Bpp w' base pb (rmP p g n) ∧ Only base Zp w w' := by
  by_cases hg : Bad g
  · have HE : Hid (rmE g n = 1 ∧ rmI p g n = 0 ∧ rmP p g n = p) := rmE_bad (.inl hg)
    have HP : Hid (Bpp w base pb p) := ⟨hp, _, _, _, h⟩
    have c0 := pfind_bad w pb g hg
    clear h hg hp hb hn
    go_enter Try.func15, Try.ntmps15
    go_wp2_with fail
    refine c0.mono ?_
    rintro e w' ⟨rfl, hw⟩
    subst w'
    go_wp2_with fail
    go_ret2
    obtain ⟨e1, e2, e3⟩ := HE.out
    rw [e1, e2, e3]
    exact ⟨rfl, HP.out, Only.refl _ _ _⟩
  obtain ⟨k, rfl, hk, hk2⟩ := bad_nat hg
  have c0 := pfind_ok w pb k hk
  by_cases hn0 : n < 0
  · have HE : Hid (rmE k n = 1 ∧ rmI p k n = 0 ∧ rmP p k n = p) := rmE_bad (.inr hn0)
    have HP : Hid (Bpp w base pb p) := ⟨hp, _, _, _, h⟩
    have d1 : decide (n < 0) = true := decide_eq_true hn0
    clear h hg hp hb hn hn0
    go_enter Try.func15, Try.ntmps15
    go_wp2_with fail
    refine c0.mono ?_
    rintro e w' ⟨rfl, hw⟩
    subst w'
    go_wp2_with fail
    go_ret2
    obtain ⟨e1, e2, e3⟩ := HE.out
    rw [e1, e2, e3]
    exact ⟨rfl, HP.out, Only.refl _ _ _⟩
  have hE := rmE_ok (p := p) (g := (k : Int)) (n := n) (fun q => q.elim hg hn0)
  obtain ⟨N, rfl⟩ : ∃ N : Nat, n = (N : Int) := ⟨n.toNat, by omega⟩
  have d1 : decide ((N : Int) < 0) = false := decide_eq_false hn0
  obtain ⟨K, hK⟩ : ∃ K, K = rmK p (k : Int) (N : Int) := ⟨_, rfl⟩
  rw [← hK, hk2] at hE
  have hKm : K = min N (p k).fr.length := by rw [hK]; unfold rmK; rw [hk2]; rfl
  have hKl : K ≤ (p k).fr.length := by omega
  have mn : (if (p k).fr.length < N then ((p k).fr.length : Int) else (N : Int)) = (K : Int) := by split <;> omega
  have l0 := h.cellv hk
  have hlen := (hp k hk).len
  have HE : Hid (rmE (k : Int) (N : Int) = 0 ∧ rmI p k N = (K : Int) ∧ rmP p k N = upd p k ⟨(p k).fr.drop K, (p k).out⟩) := hE
  have H0 : Hid (PpS w base pb gs m v p ∧ POk p ∧ k < 16 ∧ base ≤ w.heap.size) := ⟨h, hp, hk, hb⟩
  have HR0 : Hid (RmAt w w base (m k) (p k) 0) := ⟨(h.map k hk).2, fun _ _ _ => rfl, Nat.le_refl _, Only.refl _ _ _⟩
  have hrow := h.row k hk
  rcases offR_form hrow with ⟨hv, hL⟩ | ⟨vb, off, c, hv, hLc, hcm⟩
  · rw [hv] at l0
    have hK0 : K = 0 := by omega
    subst hK0
    rw [hL] at mn
    have mn2 : (if 0 < N then (0 : Int) else (N : Int)) = 0 := by split <;> omega
    clear mn
    have HD : Hid (Bpp (w.setCell ⟨pb, k * 2 + 1, none⟩ (.slice none 0 0)) base pb (upd p k ⟨(p k).fr.drop 0, (p k).out⟩) ∧ Only base Zp w (w.setCell ⟨pb, k * 2 + 1, none⟩ (.slice none 0 0))) := HR0.out.done h hp hk (by rw [List.drop_zero, ← hv]; exact hrow) (by rw [hv])
    have fr := h.fro (k * 2 + 1)
    clear h hg hp hb hn hn0 hE hK hKm hKl hrow hv hL hlen hk
    go_enter Try.func15, Try.ntmps15
    go_wp2_with fail
    refine c0.mono ?_
    rintro e w' ⟨rfl, hw⟩
    subst w'
    go_wp2_with fail
    go_loopg [37] 0 (fun gk s37 wr => s37 = .int .i64 0 ∧ wr = w ∧ gk = 0)
    case atStart => exact ⟨rfl, rfl, rfl⟩
    case round =>
      obtain ⟨rfl, rfl, rfl⟩ := hrel
      go_wp2_with fail
      go_ret2
      obtain ⟨e1, e2, e3⟩ := HE.out
      rw [e1, e2, e3]
      exact ⟨rfl, HD.out⟩
  · rw [hv] at l0 hrow
    have hvb : (v k).ownBlock = some vb := by rw [hv]; rfl
    have HC : Hid (∀ i, i < (p k).fr.length → w.cell? ⟨vb, off + i, none⟩ = some (.int .i64 (bp (p k).fr i).id)) := fun i hi => by
      obtain ⟨A', c', e1, _, _, _, h3⟩ := hrow.rd
      cases e1
      obtain ⟨b, o, e2, _, h4⟩ := h3 (by omega)
      cases e2
      show w.cell? _ = some (iv (bp (p k).fr i))
      exact h4 i _ (by rw [List.getElem?_map, bp_get hi]; rfl)
    have htail := hrow.tail (j := K) hKl
    rw [Nat.mul_one, ← List.map_drop, show (p k).fr.length - K = ((p k).fr.drop K).length by rw [List.length_drop], show Option.map (fun a : Addr => a.add K) (some ⟨vb, off, none⟩) = some ⟨vb, off + K, none⟩ by rw [Option.map_some]; exact congrArg some (add_at ..)] at htail
    have HT := Lib.hid htail
    have HV := Lib.hid hvb
    obtain ⟨L, hL⟩ : ∃ L, L = (p k).fr.length := ⟨_, rfl⟩
    have hdl : ((p k).fr.drop K).length = L - K := by rw [List.length_drop, hL]
    rw [hdl] at HT
    rw [← hL] at l0 mn hKl hLc
    have HL := Lib.hid (And.intro hL (And.intro hKl (And.intro hdl (And.intro (show L ≤ 1024 by omega) hv))))
    have e0 : (0 : Int) ≤ (K : Int) := by omega
    have e1 : (K : Int) ≤ (c : Int) := by omega
    have e2 : (K : Int) ≤ (L : Int) := by omega
    clear h hg hp hb hn hn0 hE hK hKm hrow hv hlen hk htail hvb hL hdl
    go_enter Try.func15, Try.ntmps15
    go_wp2_with fail
    refine c0.mono ?_
    rintro e w' ⟨rfl, hw⟩
    subst w'
    go_wp2_with fail
    go_loopg [37] K (fun gk s37 wr => ∃ i : Nat, i ≤ K ∧ gk = K - i ∧ s37 = .int .i64 (i : Int) ∧ Hid (RmAt w wr base (m k) (p k) i))
    case atStart => exact ⟨0, Nat.zero_le _, rfl, rfl, HR0⟩
    case round =>
      obtain ⟨i, hi, rfl, rfl, HR⟩ := hrel
      obtain ⟨z0, z1, z2⟩ := HR.out.cells H0.out.1 H0.out.2.2.1
      rw [HL.out.2.2.2.2, ← HL.out.1] at z1
      rcases Nat.lt_or_ge i K with hlt | hge
      · have i0 : (i : Int) < (K : Int) := by omega
        have hiL : i < (p k).fr.length := by have := HL.out.1; omega
        have q0 : wr.cell? ⟨vb, off + i, none⟩ = some (.int .i64 (bp (p k).fr i).id) := by
          have hne := H0.out.1.mv_ne H0.out.2.2.1 H0.out.2.2.1 HV.out
          have hl2 := ((H0.out.1.row k H0.out.2.2.1).lt HV.out).2
          exact (World.cell?_of_block (a := ⟨vb, off + i, none⟩) (HR.out.keep vb hne hl2)).trans (HC.out i hiL)
        have HM := Lib.hid HR.out.mp
        rw [entsAt_next hiL] at HM
        generalize (bp (p k).fr i).id = y at q0 HM
        generalize (bp (p k).fr i).sz = ys at HM
        clear z1 z2
        go_wp2_with (refine run_bdel wr HM.out rfl (.tmp 44) (.tmp 45) rfl rfl rfl ?_; intro w5 hm5 hg5; have H5 : Hid (RmAt w w5 base (m k) (p k) (i + 1)) := HR.out.next (H0.out.1.map k H0.out.2.2.1).1 H0.out.2.2.2 hm5 hg5; clear hm5 hg5)
        go_roundg (K - (i + 1))
        case measure => omega
        case rel => exact ⟨i + 1, by omega, rfl, by rw [IntWalk.wrap64_in _ (by have := HL.out.2.2.2.1; omega)]; rfl, H5⟩
      · obtain rfl : i = K := by omega
        by_cases hc : c = i
        · rw [if_pos hc] at HT
          have z3 : c - i = 0 := by omega
          have z4 : L - i = 0 := by omega
          rw [z3, z4] at HT
          have HD := Lib.hid (HR.out.done (u := .slice (some ⟨vb, off, none⟩) 0 0) H0.out.1 H0.out.2.1 H0.out.2.2.1 (by rw [HL.out.2.2.1, z4]; exact HT.out) (by rw [HV.out]; rfl))
          have hLi : L = i := by omega
          clear z3 z4
          subst hc
          clear HT
          go_wp2_with fail
          go_ret2
          obtain ⟨e1, e2, e3⟩ := HE.out
          rw [e1, e2, e3]
          exact ⟨rfl, HD.out⟩
        · rw [if_neg hc] at HT
          have HD := Lib.hid (HR.out.done (u := .slice (some ⟨vb, off + i, none⟩) (L - i) (c - i)) H0.out.1 H0.out.2.1 H0.out.2.2.1 (by rw [HL.out.2.2.1]; exact HT.out) (by rw [HV.out]; rfl))
          clear HT
          go_wp2_with fail
          go_ret2
          obtain ⟨e1, e2, e3⟩ := HE.out
          rw [e1, e2, e3]
          exact ⟨rfl, HD.out⟩
end
end Go.Proofs.Ytkambcjinidomaa
