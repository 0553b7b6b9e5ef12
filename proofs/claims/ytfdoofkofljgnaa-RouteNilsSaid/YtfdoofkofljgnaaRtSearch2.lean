/- Contracts: search, empty. -/
import Derived.Test.YtfdoofkofljgnaaRtSearch
namespace Go.Proofs.Ytfdoofkofljgnaa
set_option linter.unusedVariables false
set_option linter.unusedSimpArgs false
open Go.ChangeShapes Go.WideShapes Go.ChangeAt Go.RowKit Go.Shelf

set_option maxRecDepth 10000 in
set_option maxHeartbeats 1000000 in
/-- search finds it. -/
theorem search_yes (w : World) (base tb : Nat) (n : Int) (M : Net) (role : Nat → Role) (h : Trie w base tb n M role) (x b c : Int) (hx : 0 ≤ x ∧ x ≤ 4294967295) (hN : netB x b = true) (d : Nd) (hd : M b.toNat x = some d)
    (hs : d.ws.Pairwise fun a b => a.cost < b.cost) (hlen : d.ws.length ≤ 1000000) (hf : foundB d.ws c = true) :
    Calls Try.prog 31 #[.pointer (some ⟨tb, 0, none⟩), .int .u32 x, .int .i64 b, .int .i64 c] w fun e w' => (∃ p : Nat, (∃ hp : p < d.ws.length, d.ws[p].cost = c) ∧ e = .returned (.tuple #[.pointer (some ⟨d.blk, 0, none⟩), .int .i64 (p : Int)])) ∧ Grow w w' := by
  have hN' : 0 ≤ b ∧ b ≤ 32 ∧ netOf x b = x := of_decide_eq_true hN
  obtain ⟨k, rfl⟩ := Int.eq_ofNat_of_zero_le hN'.1
  rw [Int.toNat_natCast] at hd
  have hk : k ≤ 32 := by omega
  have cN := fun w => network_any x k hx w
  rw [hN] at cN
  have cL := fun w' (hg : Grow w w') => line_any w' base tb n M role (h.grow hg) x hx
  have hnode := (h.node _ _ _ hd).2.2
  have hblt : d.blk < w.heap.size := h.lt _ (by rw [hnode.blk]; simp)
  have HN := Lib.hid hnode
  have HF := Lib.hid (And.intro hf hs)
  have HX := Lib.hid hN'.2.2
  have hT := Lib.hid h
  have HD := Lib.hid hd
  have HB := Lib.hid (fun v w hv r => BSF_any d.ws hs hlen v w hv r)
  clear h hnode hf hs hN hN' hd
  go_enter Try.func31, Try.ntmps31
  go_wp2_with fail
  refine (cN _).mono ?_
  rintro e w' ⟨rfl, rfl⟩
  go_wp2_with fail
  refine (cL _ (Grow.refl _)).mono ?_
  rintro e w1 ⟨v, m, rfl, hm1, hm33, hsome, hnone, hown, hg1⟩
  have hkm : k < m := by
    rcases Nat.lt_or_ge k m with h1 | h1
    · exact h1
    · have := hnone k h1
      rw [HX.out, HD.out] at this
      cases this
  obtain ⟨lb, cap, rfl, hlB, hlb, hl1, hl2, hlc⟩ := line_row hown hm1
  have hcell : w1.cell? ⟨lb, k, none⟩ = some (.pointer (some ⟨d.blk, 0, none⟩)) := by
    rw [hlc k hkm, HX.out, HD.out]
    rfl
  have hc2 : w1.cell? ⟨d.blk, 2, none⟩ = some d.wv := (hg1.cell (p := ⟨d.blk, 2, none⟩) hblt).trans HN.out.c2
  have hv : Rts w1 d.wv d.ws := HN.out.row.rts.grow hg1
  have hbs := HB.out d.wv w1 hv ⟨0, 0, 0, 0, c⟩
  have G1 := Lib.hid hg1
  clear hlc hnone hsome hown hg1 hv
  have hlt1 : decide ((m : Int) ≤ (k : Int)) = false := decide_eq_false (by omega)
  have hkm' : (k : Int) < (m : Int) := by omega
  unfold rtV at hbs
  generalize hdv : d.wv = dv at *
  go_wp2_with fail
  refine hbs.mono ?_
  rintro e w2 ⟨⟨p, hp, rfl⟩, hg2⟩
  rw [HF.out.1]
  have hp2 := hp.at_ HF.out.2 HF.out.1
  have HP := Lib.hid hp2
  clear hp hp2
  go_wp2_with fail
  go_ret2
  exact ⟨⟨p, HP.out, rfl⟩, G1.out.trans hg2⟩

set_option maxRecDepth 10000 in
set_option maxHeartbeats 1000000 in
/-- search finds none. -/
theorem search_no (w : World) (base tb : Nat) (n : Int) (M : Net) (role : Nat → Role) (h : Trie w base tb n M role) (x b c : Int) (hx : 0 ≤ x ∧ x ≤ 4294967295)
    (hno : netB x b = true → ∀ d, M b.toNat x = some d → (d.ws.Pairwise fun a b => a.cost < b.cost) ∧ d.ws.length ≤ 1000000 ∧ foundB d.ws c = false) :
    Calls Try.prog 31 #[.pointer (some ⟨tb, 0, none⟩), .int .u32 x, .int .i64 b, .int .i64 c] w fun e w' => e = .returned (.tuple #[.pointer none, .int .i64 0]) ∧ Grow w w' := by
  have cN := fun w => network_any x b hx w
  cases hN : netB x b with
  | false =>
    rw [hN] at cN
    clear hno hN
    go_enter Try.func31, Try.ntmps31
    go_wp2_with fail
    refine (cN _).mono ?_
    rintro e w' ⟨rfl, rfl⟩
    go_wp2_with fail
    go_ret2
    exact ⟨rfl, Grow.refl _⟩
  | true =>
    rw [hN] at cN
    have hno' := hno hN
    have hN' : 0 ≤ b ∧ b ≤ 32 ∧ netOf x b = x := of_decide_eq_true hN
    obtain ⟨k, rfl⟩ := Int.eq_ofNat_of_zero_le hN'.1
    rw [Int.toNat_natCast] at hno'
    have hk : k ≤ 32 := by omega
    have cL := fun w' (hg : Grow w w') => line_any w' base tb n M role (h.grow hg) x hx
    have HX := Lib.hid hN'.2.2
    have hT := Lib.hid h
    have HO := Lib.hid hno'
    clear h hN hN' hno hno'
    go_enter Try.func31, Try.ntmps31
    go_wp2_with fail
    refine (cN _).mono ?_
    rintro e w' ⟨rfl, rfl⟩
    go_wp2_with fail
    refine (cL _ (Grow.refl _)).mono ?_
    rintro e w1 ⟨v, m, rfl, hm1, hm33, hsome, hnone, hown, hg1⟩
    obtain ⟨lb, cap, rfl, hlB, hlb, hl1, hl2, hlc⟩ := line_row hown hm1
    rcases Nat.lt_or_ge k m with hkm | hkm
    · obtain ⟨d, hd⟩ := hsome k hkm
      rw [HX.out] at hd
      have hnode := (hT.out.node _ _ _ hd).2.2
      have hblt : d.blk < w.heap.size := hT.out.lt _ (by rw [hnode.blk]; simp)
      obtain ⟨hs, hlen, hf⟩ := HO.out d hd
      have hcell : w1.cell? ⟨lb, k, none⟩ = some (.pointer (some ⟨d.blk, 0, none⟩)) := by
        rw [hlc k hkm, HX.out, hd]
        rfl
      have hc2 : w1.cell? ⟨d.blk, 2, none⟩ = some d.wv := (hg1.cell (p := ⟨d.blk, 2, none⟩) hblt).trans hnode.c2
      have hv : Rts w1 d.wv d.ws := hnode.row.rts.grow hg1
      have hbs := BSF_any d.ws hs hlen d.wv w1 hv ⟨0, 0, 0, 0, c⟩
      rw [hf] at hbs
      have G1 := Lib.hid hg1
      clear hlc hnone hsome hown hg1 hv hnode hs hf hd
      have hlt1 : decide ((m : Int) ≤ (k : Int)) = false := decide_eq_false (by omega)
      have hkm' : (k : Int) < (m : Int) := by omega
      unfold rtV at hbs
      generalize hdv : d.wv = dv at *
      go_wp2_with fail
      refine hbs.mono ?_
      rintro e w2 ⟨⟨p, hp, rfl⟩, hg2⟩
      clear hp
      go_wp2_with fail
      go_ret2
      exact ⟨rfl, G1.out.trans hg2⟩
    · have hlt1 : decide ((m : Int) ≤ (k : Int)) = true := decide_eq_true (by omega)
      have G1 := Lib.hid hg1
      clear hlc hnone hsome hown hg1
      go_wp2_with fail
      go_ret2
      exact ⟨rfl, G1.out⟩

set_option maxHeartbeats 1000000 in
/-- Is a node not needed? -/
theorem empty_any (w : World) (base : Nat) (role : Nat → Role) (M : Net) (k : Nat) (x : Int) (d : Nd) (hn : NodeAt w base role M k x d) (hlen : d.ws.length ≤ 1000000) :
    Calls Try.prog 44 #[.pointer (some ⟨d.blk, 0, none⟩)] w fun e w' => e = .returned (.bool (d.ws.isEmpty && (M (k + 1) x).isNone && (M (k + 1) (x + sz ((k : Int) + 1))).isNone)) ∧ w = w' := by
  obtain ⟨_, h0, h1, h2, _, hrow, _⟩ := hn
  obtain ⟨A, c, hv, hl, hc⟩ := hrow.rts.form
  rw [hv] at h2
  clear hrow
  rcases hws : d.ws with _ | ⟨y, r⟩
  · rw [hws] at h2
    cases hM : M (k + 1) x with
    | some d1 =>
      rw [hM] at h0
      unfold ptrOf at h0
      clear h1 hM
      go_enter Try.func44, Try.ntmps44
      go_wp2_with fail
      go_ret
      exact ⟨rfl, rfl⟩
    | none =>
      rw [hM] at h0
      unfold ptrOf at h0
      cases hM2 : M (k + 1) (x + sz ((k : Int) + 1)) with
      | some d1 =>
        rw [hM2] at h1
        unfold ptrOf at h1
        clear hM hM2
        go_enter Try.func44, Try.ntmps44
        go_wp2_with fail
        go_ret
        exact ⟨rfl, rfl⟩
      | none =>
        rw [hM2] at h1
        unfold ptrOf at h1
        clear hM hM2
        go_enter Try.func44, Try.ntmps44
        go_wp2_with fail
        go_ret
        exact ⟨rfl, rfl⟩
  · rw [hws] at h2 hlen
    have e1 : (y :: r).length = r.length + 1 := rfl
    rw [e1] at h2 hlen
    clear h0 h1 hl hws hv e1
    have hz : (((r.length + 1 : Nat) : Int) == 0) = false := by simp; omega
    go_enter Try.func44, Try.ntmps44
    go_wp2_with fail
    go_ret
    exact ⟨rfl, rfl⟩
end Go.Proofs.Ytfdoofkofljgnaa
