/- A table and the document's list behind calls: one predicate, and what each call makes of it. -/
import Derived.Test.YtfdoofkofljgnaaRtFind
import Derived.Test.YtfdoofkofljgnaaRtAddAny
import Derived.Test.YtfdoofkofljgnaaRtRemove
import Derived.Test.YtfdoofkofljgnaaRtRWays
import Derived.Test.YtfdoofkofljgnaaRtSame
namespace Go.Proofs.Ytfdoofkofljgnaa
set_option linter.unusedVariables false
set_option linter.unusedSimpArgs false
open Go.ChangeShapes Go.WideShapes Go.ChangeAt Go.RowKit Go.Shelf

/-- The table (made at w0's end) holds the routes r', the list v the routes r. -/
def Half (w0 w : World) (v : Value) (r r' : List Rt) : Prop :=
  ∃ (M : Net) (role : Nat → Role), Trie w w0.heap.size w0.heap.size (r'.length : Int) M role ∧ Tells M r' ∧ Fine r' ∧ Rts w v r ∧ (0 < r.length → ∀ b, v.ownBlock = some b → role b = .none) ∧ r.length ≤ 64 ∧ Grow w0 w

theorem Rts.none_ {w w' : World} {v : Value} (h : Rts w v []) : Rts w' v [] := by
  obtain ⟨A, c, rfl, h1, h2, h3⟩ := h
  exact ⟨A, c, rfl, h1, h2, fun hp => absurd hp (by simp)⟩
theorem Rts.own_lt {w : World} {v : Value} {l : List Rt} (h : Rts w v l) (hp : 0 < l.length) (b : Nat) (hb : v.ownBlock = some b) : b < w.heap.size := by
  obtain ⟨A, c, rfl, h1, h2, h3⟩ := h
  obtain ⟨b', off, rfl, hlt, _⟩ := h3 hp
  have e : b' = b := by injection hb
  rw [← e]; exact hlt
theorem Rts.same_len {w w' : World} {v : Value} {l l' : List Rt} (h : Rts w v l) (h' : Rts w' v l') : l.length = l'.length := by
  obtain ⟨A, c, rfl, _⟩ := h.form
  exact h'.len.1

section
variable {w0 w w' : World} {v : Value} {r r' : List Rt}
theorem Half.grow (h : Half w0 w v r r') (g : Grow w w') : Half w0 w' v r r' := by
  obtain ⟨M, role, hT, hM, hF, hR, hn, hl, hG⟩ := h
  exact ⟨M, role, hT.grow g, hM, hF, hR.grow g, hn, hl, hG.trans g⟩
theorem Half.out (h : Half w0 w v r r') : Grow w0 w := by obtain ⟨M, role, hT, hM, hF, hR, hn, hl, hG⟩ := h; exact hG
theorem Half.fine (h : Half w0 w v r r') : Fine r' := by obtain ⟨M, role, hT, hM, hF, hR, hn, hl, hG⟩ := h; exact hF
theorem Half.rts (h : Half w0 w v r r') : Rts w v r := by obtain ⟨M, role, hT, hM, hF, hR, hn, hl, hG⟩ := h; exact hR
theorem Half.len (h : Half w0 w v r r') : r.length ≤ 64 := by obtain ⟨M, role, hT, hM, hF, hR, hn, hl, hG⟩ := h; exact hl
theorem Half.new (w0 : World) : Calls Try.prog 19 #[] w0 fun e w' => e = .returned (.pointer (some ⟨w0.heap.size, 0, none⟩)) ∧ Half w0 w' (.slice none 0 0) [] [] := by
  refine (New_any w0).mono ?_
  rintro e w1 ⟨rfl, hT, hg⟩
  exact ⟨rfl, _, _, hT, tells0 _, Fine.nil, Rts.nil _, fun h => absurd h (by simp), by simp, hg⟩
theorem Half.moved {M M' : Net} {role role' : Nat → Role} {r2 : List Rt} (hT : Trie w w0.heap.size w0.heap.size (r'.length : Int) M role) (hR : Rts w v r) (hn : 0 < r.length → ∀ b, v.ownBlock = some b → role b = .none) (hl : r.length ≤ 64) (hG : Grow w0 w)
    (hT' : Trie w' w0.heap.size w0.heap.size (r2.length : Int) M' role') (hM' : Tells M' r2) (hF' : Fine r2) (hv : Moves role w role' w') : Half w0 w' v r r2 := by
  have hg : Grow w0 w' := Below.trans hG (hv.below hG.size fun b hb => hT.free (.inl hb))
  rcases Nat.eq_zero_or_pos r.length with h0 | h0
  · obtain rfl : r = [] := List.length_eq_zero_iff.1 h0
    exact ⟨M', role', hT', hM', hF', hR.none_, fun h => absurd h (by simp), hl, hg⟩
  · exact ⟨M', role', hT', hM', hF', hv.rts hR (hn h0), fun _ b hb => hv.2 b (hR.own_lt h0 b hb) (hn h0 b hb), hl, hg⟩
theorem Half.add {wa : World} (h : Half w0 w v r r) (g : Grow w wa) (x : Rt) (hx : x.Ok) : Calls Try.prog 16 #[.pointer (some ⟨w0.heap.size, 0, none⟩), rtV x] wa fun e w' => e = .returned (.int .i64 (raddE r x)) ∧ Half w0 w' v r (raddL r x) ∧ ∀ b, w.heap.size ≤ b → b < wa.heap.size → w'.heap[b]? = wa.heap[b]? := by
  obtain ⟨M, role, hT, hM, hF, hR, hn, hl, hG⟩ := h
  refine (Add_any wa _ _ r M role (hT.grow g) hM hF x hx (hG.trans g).size).mono ?_
  rintro e w1 ⟨he, M', role', hT', hM', hv⟩
  exact ⟨he, Half.moved (hT.grow g) (hR.grow g) hn hl (hG.trans g) hT' hM' (hF.add hx) hv, fun b h1 h2 => hv.1.2 b h2 (hT.free (.inr h1))⟩
theorem Half.rem {wa : World} (h : Half w0 w v r r') (g : Grow w wa) (n b c : Int) (hn : 0 ≤ n ∧ n ≤ 4294967295) : Calls Try.prog 17 #[.pointer (some ⟨w0.heap.size, 0, none⟩), .int .u32 n, .int .i64 b, .int .i64 c] wa fun e w' => e = .returned (.int .i64 (rremE r' n b c)) ∧ Half w0 w' v r (rremL r' n b c) ∧ ∀ b, w.heap.size ≤ b → b < wa.heap.size → w'.heap[b]? = wa.heap[b]? := by
  obtain ⟨M, role, hT, hM, hF, hR, hn', hl, hG⟩ := h
  refine (Remove_any wa _ _ r' M role (hT.grow g) hM hF n b c hn).mono ?_
  rintro e w1 ⟨he, M', role', hT', hM', hv⟩
  exact ⟨he, Half.moved (hT.grow g) (hR.grow g) hn' hl (hG.trans g) hT' hM' (hF.rem _ _ _) hv, fun b h1 h2 => hv.1.2 b h2 (hT.free (.inr h1))⟩
theorem RtAt.kept {w w' : World} {b o : Nat} {x : Rt} (h : RtAt w b o x) (e : w'.heap[b]? = w.heap[b]?) : RtAt w' b o x := by
  obtain ⟨h0, h1, h2, h3, h4⟩ := h
  exact ⟨(World.cell?_of_block (w := w) (a := ⟨b, o, none⟩) e).trans h0, (World.cell?_of_block (w := w) (a := ⟨b, o + 1, none⟩) e).trans h1, (World.cell?_of_block (w := w) (a := ⟨b, o + 2, none⟩) e).trans h2, (World.cell?_of_block (w := w) (a := ⟨b, o + 3, none⟩) e).trans h3, (World.cell?_of_block (w := w) (a := ⟨b, o + 4, none⟩) e).trans h4⟩
theorem Half.fresh {v' : Value} (h : Half w0 w v r r') (hR' : Rts w' v' r') (hN : NewOr w v v') (g : Grow w w') : Half w0 w' v' r' r' := by
  obtain ⟨M, role, hT, hM, hF, hR, hn, hl, hG⟩ := h
  refine ⟨M, role, hT.grow g, hM, hF, hR', fun hp b hb => ?_, hF.len, hG.trans g⟩
  rcases hN with rfl | hN
  · exact hn (by rw [hR.same_len hR']; exact hp) b hb
  · exact hT.free (.inr (hN b hb))
theorem Half.rrem {n b c : Int} (h : Half w0 w v r (rremL r n b c)) : Calls Try.prog 20 #[v, .int .u32 n, .int .i64 b, .int .i64 c] w fun e w' => ∃ v', e = .returned (.tuple #[v', .int .i64 (rremE r n b c)]) ∧ Half w0 w' v' (rremL r n b c) (rremL r n b c) := by
  refine (RRemove_any w v r h.rts (Nat.le_trans h.len (by decide)) n b c).mono ?_
  rintro e w1 ⟨v', he, hR, hN, hg⟩
  exact ⟨v', he, h.fresh hR hN hg⟩
theorem Half.size (h : Half w0 w v r r') : Calls Try.prog 18 #[.pointer (some ⟨w0.heap.size, 0, none⟩)] w fun e w' => e = .returned (.int .i64 (r'.length : Int)) ∧ w = w' := by
  obtain ⟨M, role, hT, hM, hF, hR, hn, hl, hG⟩ := h
  exact Len_any w _ _ _ M role hT
theorem Half.all (h : Half w0 w v r r') : Calls Try.prog 12 #[.pointer (some ⟨w0.heap.size, 0, none⟩)] w fun e w' => ∃ v, e = .returned v ∧ Orow 32 w' w.heap.size v (rallL r') ∧ Grow w w' := by
  obtain ⟨M, role, hT, hM, hF, hR, hn, hl, hG⟩ := h
  exact All_any w _ _ r' M role hT hM hF
theorem Half.ways (h : Half w0 w v r r') (a : Int) (ha : 0 ≤ a ∧ a ≤ 4294967295) : Calls Try.prog 14 #[.pointer (some ⟨w0.heap.size, 0, none⟩), .int .u32 a] w fun e w' => ∃ v, e = .returned v ∧ Orow 32 w' w.heap.size v (rwaysL r' a) ∧ Grow w w' := by
  obtain ⟨M, role, hT, hM, hF, hR, hn, hl, hG⟩ := h
  exact Ways_any w _ _ r' M role hT hM hF a ha
theorem Half.find (h : Half w0 w v r r') (a : Int) (ha : 0 ≤ a ∧ a ≤ 4294967295) : Calls Try.prog 10 #[.pointer (some ⟨w0.heap.size, 0, none⟩), .int .u32 a] w fun e w' => e = .returned (.tuple #[rtV (findR (rwaysL r' a)), .int .i64 (findE (rwaysL r' a))]) ∧ Grow w w' := by
  obtain ⟨M, role, hT, hM, hF, hR, hn, hl, hG⟩ := h
  exact Find_any w _ _ r' M role hT hM hF a ha
theorem Half.rall (h : Half w0 w v r r') : Calls Try.prog 13 #[v] w fun e w' => ∃ v', e = .returned v' ∧ Rts w' v' (rallL r) ∧ Grow w w' :=
  RAll_any w v r h.rts (Nat.le_trans h.len (by decide))
theorem Half.rways (h : Half w0 w v r r) (a : Int) (ha : 0 ≤ a ∧ a ≤ 4294967295) : Calls Try.prog 9 #[v, .int .u32 a] w fun e w' => ∃ v', e = .returned v' ∧ Rts w' v' (rwaysL r a) ∧ Grow w w' :=
  RWays_any w v r h.rts (Nat.le_trans h.len (by decide)) (fun y hy => ⟨(Rt.good_iff.1 (h.fine.good y hy).1).1, (Rt.good_iff.1 (h.fine.good y hy).1).2.1⟩) a ha
end
end Go.Proofs.Ytfdoofkofljgnaa
