/- Contract: slices.Insert on rows of bytes, of one row. -/
import Derived.Test.YtmnemkeieaflhaaC05
import Derived.Lib.Overlaps
import Derived.Laws.Externs
import Derived.Shelf.RegionOpenPlain
import Derived.Laws.NewBlocks
namespace Go.Proofs.Ytmnemkeieaflhaa
set_option linter.unusedVariables false
set_option linter.unusedSimpArgs false
open Go.ChangeShapes Go.WideShapes Go.ChangeAt Go.RowKit Go.Shelf

theorem zero2 (n : Nat) : (Builtin.zeroCells (Value.agg #[.int .i64 0, .slice none 0 0]).cells n).toList.length = n * 2 := by
  simp [Builtin.zeroCells, Value.cells]
theorem shape_of {w : World} {g : Nat} {cs : Array Value} {t : TypeId} {fr : Nat × Nat} (h : w.heap[g]? = some (.cells cs t fr)) : w.shape? g = some (t, cs.size) := by
  unfold World.shape?
  rw [h]
theorem frozen_of {w : World} {g o : Nat} {cs : Array Value} {t : TypeId} (h : w.heap[g]? = some (.cells cs t (0, 0))) : w.frozen? ⟨g, o, none⟩ = false := by
  unfold World.frozen?
  rw [h]
  simp

theorem ins_shift {I M L : Nat} {cur xs ys c1 c2 : List Value} (hx : cur.take L = xs) (hl : xs.length = L) (hy : ys.length = M) (hI : I ≤ L) (hr : L + M ≤ cur.length)
    (h1 : c1 = cur.take (I + M) ++ xs.drop I ++ cur.drop (I + M + (xs.drop I).length)) (h2 : c2 = c1.take I ++ ys ++ c1.drop (I + ys.length)) :
    c2.take (L + M) = xs.take I ++ ys ++ xs.drop I ∧ c2.length = cur.length := by
  have e0 : (xs.drop I).length = L - I := by rw [List.length_drop, hl]
  have e1 : c1.take I = xs.take I := by
    rw [h1, List.append_assoc, List.take_append_of_le_length (by rw [List.length_take]; omega), List.take_take, Nat.min_eq_left (by omega), ← hx, List.take_take, Nat.min_eq_left hI]
  have e2 : c1.drop (I + M) = xs.drop I ++ cur.drop (L + M) := by
    have e3 : (cur.take (I + M)).length = I + M := by rw [List.length_take]; omega
    rw [h1, List.append_assoc, List.drop_append_of_le_length (by rw [e3]; exact Nat.le_refl _), List.drop_of_length_le (by rw [e3]; exact Nat.le_refl _), List.nil_append, e0, show I + M + (L - I) = L + M from by omega]
  rw [hy, e1, e2] at h2
  have e4 : (xs.take I ++ ys ++ xs.drop I).length = L + M := by
    simp only [List.length_append, List.length_take, e0, hy, hl]; omega
  rw [h2, ← List.append_assoc]
  refine ⟨?_, ?_⟩
  · rw [List.take_append_of_le_length (by rw [e4]; exact Nat.le_refl _), List.take_of_length_le (by rw [e4]; exact Nat.le_refl _)]
  · rw [List.length_append, e4, List.length_drop]; omega
theorem ins_new {I M L : Nat} {cur xs ys c1 c2 : List Value} (hx : cur.take I = xs.take I) (hl : xs.length = L) (hy : ys.length = M) (hI : I ≤ L) (hr : L + M ≤ cur.length)
    (h1 : c1 = cur.take I ++ ys ++ cur.drop (I + ys.length)) (h2 : c2 = c1.take (I + M) ++ xs.drop I ++ c1.drop (I + M + (xs.drop I).length)) :
    c2.take (L + M) = xs.take I ++ ys ++ xs.drop I ∧ c2.length = cur.length := by
  have e0 : (xs.drop I).length = L - I := by rw [List.length_drop, hl]
  have e1 : c1.length = cur.length := by rw [h1]; simp only [List.length_append, List.length_take, List.length_drop, hy]; omega
  have e2 : c1.take (I + M) = xs.take I ++ ys := by
    have e3 : (cur.take I ++ ys).length = I + M := by rw [List.length_append, List.length_take, hy]; omega
    rw [h1, List.take_append_of_le_length (by rw [e3]; exact Nat.le_refl _), List.take_of_length_le (by rw [e3]; exact Nat.le_refl _), hx]
  rw [e2] at h2
  have e4 : (xs.take I ++ ys ++ xs.drop I).length = L + M := by
    simp only [List.length_append, List.length_take, e0, hy, hl]; omega
  rw [h2]
  refine ⟨?_, ?_⟩
  · rw [List.take_append_of_le_length (by rw [e4]; exact Nat.le_refl _), List.take_of_length_le (by rw [e4]; exact Nat.le_refl _)]
  · rw [List.length_append, e4, List.length_drop, e0]; omega

theorem grownBy_undrew {w w' : World} {row : Option Nat} (h : w.drew.grownBy w' row) : w.grownBy w' row := ⟨h.os, h.tape, h.output, h.size, h.block⟩
section
variable {P : Program}
/-- copy into a row of plain memory, as one step. -/
theorem wpList_copyRow (w : World) {ops : Array Oper} {rest : List Oper} {o : Oper} {a : Act} {Q : Exit → Act → World → Prop} (hgd : o.guard = none) (d s : Operand) (t e : TypeId)
    (ho : o.op = .call { callee := .builtin .copy, args := #[d, s], argTypes := #[t, t] }) (ht : P.underlying t = some (.slice e)) (k : Nat) (hs : (P.info? e).map (·.size) = some k)
    (g oo dl dc : Nat) (A : Addr) (sl sc : Nat) (cur : Array Value) (m : Nat) (cs : List Value) (hd : a.eval d = .slice (some ⟨g, oo, none⟩) dl dc) (hx : a.eval s = .slice (some A) sl sc)
    (hg : w.heap[g]? = some (.cells cur e (0, 0))) (hm : Nat.min sl dl = m) (hn : cs.length = m * k) (hsrc : ∀ j v, cs[j]? = some v → w.cell? (A.add j) = some v) (hfit : oo + cs.length ≤ cur.size) (h1 : ∀ v ∈ cs, v.oneCell' = true)
    (h : ∀ w', w'.heap[g]? = some (.cells (cur.toList.take oo ++ cs ++ cur.toList.drop (oo + cs.length)).toArray e (0, 0)) → w.grownBy w' (some g) → wpList P ops Q rest (a.put o.dst (goInt m)) w') : wpList P ops Q (o :: rest) a w :=
  wpList_copyK w hgd d s t t ho _ _ hd hx (run_copyK w t t o.type e k g oo dl dc A sl sc cur e m cs ht hs hg hm hn hsrc hfit h1) (h _ (setRow_heap w g cur _ e _ hg) (grownBy_setRow _ _ _))
theorem step_copyRow (w : World) {ops : Array Oper} {o : Oper} {a : Act} {K : Act → World → Prop} {Q : Exit → Act → World → Prop} {E : Prop} (hgd : o.guard = none) (d s : Operand) (t e : TypeId)
    (ho : o.op = .call { callee := .builtin .copy, args := #[d, s], argTypes := #[t, t] }) (ht : P.underlying t = some (.slice e)) (k : Nat) (hs : (P.info? e).map (·.size) = some k)
    (g oo dl dc : Nat) (A : Addr) (sl sc : Nat) (cur : Array Value) (m : Nat) (cs : List Value) (hd : a.eval d = .slice (some ⟨g, oo, none⟩) dl dc) (hx : a.eval s = .slice (some A) sl sc)
    (hg : w.heap[g]? = some (.cells cur e (0, 0))) (hm : Nat.min sl dl = m) (hn : cs.length = m * k) (hsrc : ∀ j v, cs[j]? = some v → w.cell? (A.add j) = some v) (hfit : oo + cs.length ≤ cur.size) (h1 : ∀ v ∈ cs, v.oneCell' = true)
    (h : ∀ w', w'.heap[g]? = some (.cells (cur.toList.take oo ++ cs ++ cur.toList.drop (oo + cs.length)).toArray e (0, 0)) → w.grownBy w' (some g) → K (a.put o.dst (goInt m)) w') :
    if Region.wanted o (yielded ops a.tmps) = true then Oper.wp P o a w K Q else E :=
  step_copyK hgd d s t t ho _ _ hd hx (run_copyK w t t o.type e k g oo dl dc A sl sc cur e m cs ht hs hg hm hn hsrc hfit h1) (h _ (setRow_heap w g cur _ e _ hg) (grownBy_setRow _ _ _))
/-- append(s[:i], make(S, m)...), no room. -/
theorem wpList_appMake (w : World) {ops : Array Oper} {rest : List Oper} {o : Oper} {a : Act} {Q : Exit → Act → World → Prop} (hgd : o.guard = none) (s x : Operand) (t tn e : TypeId)
    (ho : o.op = .call { callee := .builtin .append, args := #[s, x], argTypes := #[t, tn] }) (ht : P.underlying t = some (.slice e)) (htn : P.underlying tn = some (.int .i64))
    (z : Value) (k bytes : Nat) (hi : (P.info? e).map (fun i => (i.zero, i.size, i.bytes)) = some (some z, k, bytes)) (hz : z.cells.size = k) (hk : 0 < k)
    (base g i cap m : Nat) (xs : List Value) (X : Int) (hX : X = (m : Int)) (hs : a.eval s = .slice (some ⟨g, 0, none⟩) i cap) (hx : a.eval x = .int .i64 X)
    (hown : w.ownsRow base e k (.slice (some ⟨g, 0, none⟩) i cap) i xs) (h0 : 0 < m) (hroom : cap < i + m) (hb : (i + m) * bytes ≤ 140737488355328) (hl : i + m ≤ 1000000000)
    (h : ∀ w' G R, w'.heap[w.heap.size]? = some (.cells R e (0, 0)) → R.toList.take (i * k) = xs → R.size = G * k → i + m ≤ G → G ≤ maxLen → w.grownBy w' none → wpList P ops Q rest (a.put o.dst (.slice (some ⟨w.heap.size, 0, none⟩) (i + m) G)) w') : wpList P ops Q (o :: rest) a w := by
  obtain ⟨j, hi0, hz0, hz1, hz2⟩ := info_parts hi
  subst hX
  have hold : (Builtin.firstCells j.size i (.slice (some ⟨g, 0, none⟩) i cap)).run P w.drew = .ok xs.toArray w.drew := by
    rw [hz1]
    exact run_firstCells_some w.drew k i ⟨g, 0, none⟩ i cap xs hown.1 (hown.cells rfl)
  have hmb : m * bytes ≤ (i + m) * bytes := Nat.mul_le_mul_right _ (Nat.le_add_left _ _)
  have hrun := Lib.run_append_grow_zeros w t tn o.type e j z .i64 .i64 ht htn hi0 hz0 (some ⟨g, 0, none⟩) i cap xs hold m h0 (by omega) hroom (by omega) (by rw [hz2]; omega) (by rw [hz2]; exact growslice_fits hroom hb)
  have hge := grownCap_ge w (i + m) cap e
  have hle := grownCap_le_maxLen w (i + m) cap e (by unfold maxLen; omega)
  generalize grownCap w (i + m) cap e = G at *
  have hxl := hown.1
  refine wpList_plain hgd fun _ hK => ?_
  unfold Oper.wp execOp
  simp only [ho, resolve, invoke, builtin, Sem.run_bind, Sem.run_pure, Result.andThen_ok, List.map_toArray, List.map_cons, List.map_nil, hs, hx, hrun]
  refine hK _ _ (h _ G _ (heap_alloc_new w.drew _) ?_ ?_ hge hle (grownBy_undrew (World.grownBy_alloc w.drew _ none)))
  · rw [Array.toList_append, Array.toList_append, List.append_assoc]
    show (xs ++ _).take (i * k) = xs
    rw [← hxl]
    exact List.take_left
  · have e1 : (G - (i + m)) * k + (i + m) * k = G * k := by rw [← Nat.add_mul]; congr 1; omega
    have e2 : (i + m) * k = i * k + m * k := Nat.add_mul _ _ _
    simp only [Array.size_append, List.size_toArray, size_zeroCells, hz, hxl]
    omega
end

/-- One row in a block of its own. -/
theorem vs_cells {w : World} {vb : Nat} {y0 y1 : Value} (hv : w.heap[vb]? = some (.cells #[y0, y1] 99 (0, 0))) : ∀ j v, [y0, y1][j]? = some v → w.cell? ((⟨vb, 0, none⟩ : Addr).add j) = some v := by
  intro j v hj
  rw [add_at, cell_of_row w vb _ _ _ _ hv]
  match j with
  | 0 => simpa using hj
  | 1 => simpa using hj
  | j + 2 => simp at hj
theorem sizeRow : (Try.prog.info? 99).map (·.size) = some 2 := by kernel_rfl

set_option maxRecDepth 10000 in
set_option maxHeartbeats 4000000 in
theorem Insert_shift (w : World) (base g n cap i vb : Nat) (xs : List Value) (y0 y1 : Value) (h : w.ownsRow base 99 2 (.slice (some ⟨g, 0, none⟩) n cap) n xs) (hx1 : ∀ v ∈ xs, v.oneCell' = true)
    (hv : w.heap[vb]? = some (.cells #[y0, y1] 99 (0, 0))) (h0 : y0.oneCell' = true) (h1 : y1.oneCell' = true) (hne : vb ≠ g) (hi : i < n) (hroom : n + 1 ≤ cap) :
    Calls Try.prog 56 #[.slice (some ⟨g, 0, none⟩) n cap, .int .i64 (i : Int), .slice (some ⟨vb, 0, none⟩) 1 1] w fun e w' => e = .returned (.slice (some ⟨g, 0, none⟩) (n + 1) cap) ∧
      w'.ownsRow base 99 2 (.slice (some ⟨g, 0, none⟩) (n + 1) cap) (n + 1) (xs.take (i * 2) ++ [y0, y1] ++ xs.drop (i * 2)) ∧ w.grownBy w' (some g) := by
  obtain ⟨hnc, hcm⟩ := ownsRow_len h
  rcases id h.2 with ⟨h', _⟩ | ⟨g', cap', cur, h', hb, hg, _, _, hcs, htake⟩
  · cases h'
  cases h'
  have hmx : cap ≤ 9223372036854775807 := hcm
  have hxl := h.1
  have hov : ∀ lb cb, (callFunc 57 #[.slice (some ⟨vb, 0, none⟩) 1 1, .slice (some ⟨g, (i + 1) * 2, none⟩) lb cb]).run Try.prog w = .ok (.value (.bool false)) w := fun lb cb => by
    rw [run_callFunc_extern Try.func57 (by kernel_rfl) (by kernel_rfl) (by kernel_rfl) (e := Extern.SlicesOverlaps.overlaps #[73, 73] #[4]) (by kernel_rfl),
      Lib.run_overlaps_apart w 73 4 99 Try.underlying73 2 (fun w => by
        obtain ⟨j, hi0, hz0, hz1, hz2⟩ := info_parts infoRow
        simp [sizeOf, typeInfo, hi0, hz1]) ⟨vb, 0, none⟩ ⟨g, (i + 1) * 2, none⟩ 1 1 lb cb hne _ _ _ _ (shape_of hv) (shape_of hg) (by rw [hcs]; omega) (frozen_of hv) (frozen_of hv)]
    rfl
  have hcl : cur.toList.length = cap * 2 := by rw [← hcs]; rfl
  have hsrc : Hid (∀ j v, (xs.drop (i * 2))[j]? = some v → w.cell? ((⟨g, i * 2, none⟩ : Addr).add j) = some v) := by
    intro j v hj
    rw [List.getElem?_drop] at hj
    have := h.cells (g := g) rfl _ v hj
    rw [add_at, Nat.zero_add] at this
    rw [add_at]
    exact this
  have hdl : (xs.drop (i * 2)).length = (n - i) * 2 := by rw [List.length_drop, hxl]; omega
  have HH := Lib.hid (And.intro hg (And.intro hcs (And.intro htake (And.intro hxl (And.intro hb (And.intro hcl hv))))))
  have HD := Lib.hid hdl
  clear h hg hcs htake hxl hb hcl hv hdl hnc hcm
  have q0 : ¬ ((i : Int) = (n : Int)) := by omega
  have q1 : ¬ ((cap : Int) < (n : Int) + 1) := by omega
  have q2 : (n : Int) + 1 ≤ (cap : Int) := by omega
  have q3 : ((n : Int) + 1).toNat = n + 1 := by omega
  have q4 : (0 : Int) ≤ (n : Int) + 1 := by omega
  have q5 : (0 : Int) ≤ (i : Int) + 1 := by omega
  have q6 : ((i : Int) + 1).toNat = i + 1 := by omega
  have q7 : (i : Int) + 1 ≤ (n : Int) + 1 := by omega
  have q8 : (i : Int) ≤ (n : Int) + 1 := by omega
  have q9 : ¬ cap = i + 1 := by omega
  have q10 : ¬ cap = i := by omega
  have q11 : (i : Int) ≤ (n : Int) := by omega
  go_enter Try.func56, Try.ntmps56
  go_wp2_with (simp only [hov])
  have qw : IntKind.i64.wrap ((i : Int) + 1) = (i : Int) + 1 := by rw [IntKind.wrap_i64]; omega
  go_region_law (refine step_copyRow _ rfl (.tmp 73) (.tmp 76) 73 99 rfl Try.underlying73 2 sizeRow g ((i + 1) * 2) (n - i) (cap - (i + 1)) ⟨g, i * 2, none⟩ (n + 1 - i) (cap - i) cur (n - i) (xs.drop (i * 2)) (by simp [Act.eval, Act.put]) (by simp [Act.eval, Act.put]) HH.out.1 (by simp only [Nat.min_def]; split <;> omega) HD.out (fun j v hj => hsrc.out j v hj) (by rw [HD.out, HH.out.2.1]; omega) (fun v hv => hx1 v (List.mem_of_mem_drop hv)) ?_; intro w1 hh1 hg1; have H1 := Lib.hid (And.intro hh1 hg1); clear hh1 hg1)
  go_wp2_with (show wpList _ _ _ (⟨some 82, _, _, _, _, _⟩ :: _) _ _; refine wpList_copyRow w1 rfl (.tmp 80) (.tmp 81) 73 99 rfl Try.underlying73 2 sizeRow g (i * 2) _ _ ⟨vb, 0, none⟩ _ _ _ 1 [y0, y1] rfl rfl H1.out.1 (by simp only [Nat.min_def]; split <;> omega) rfl (vs_cells ((H1.out.2.block vb (Array.getElem?_eq_some_iff.1 HH.out.2.2.2.2.2.2).1 (by simpa using hne)).trans HH.out.2.2.2.2.2.2)) (by simp only [List.size_toArray, List.length_append, List.length_take, List.length_drop, HD.out, HH.out.2.2.2.2.2.1, List.length_cons, List.length_nil]; omega) (fun v hv => by simp at hv; rcases hv with rfl | rfl; exact h0; exact h1) ?_; intro w2 hh2 hg2; have H2 := Lib.hid (And.intro hh2 hg2); clear hh2 hg2)
  go_ret
  obtain ⟨e1, e2⟩ := ins_shift (I := i * 2) (M := 2) (L := n * 2) (ys := [y0, y1]) HH.out.2.2.1 HH.out.2.2.2.1 rfl (by omega) (by rw [HH.out.2.2.2.2.2.1]; omega) (c1 := cur.toList.take ((i + 1) * 2) ++ xs.drop (i * 2) ++ cur.toList.drop ((i + 1) * 2 + (xs.drop (i * 2)).length)) (by rw [show (i + 1) * 2 = i * 2 + 2 from by omega]) rfl
  refine ⟨rfl, ⟨by simp only [List.length_append, List.length_take, List.length_drop, HH.out.2.2.2.1, List.length_cons, List.length_nil]; omega, .inr ⟨g, cap, _, rfl, HH.out.2.2.2.2.1, H2.out.1, hroom, hmx, ?_, ?_⟩⟩, ?_⟩
  · rw [List.size_toArray, e2, HH.out.2.2.2.2.2.1]
  · rw [show (n + 1) * 2 = n * 2 + 2 from by omega]
    exact e1.trans (by simp)
  · exact Grown.trans (grownBy_undrew H1.out.2) H2.out.2

set_option maxRecDepth 10000 in
set_option maxHeartbeats 4000000 in
theorem Insert_new (w : World) (base g n cap i vb : Nat) (xs : List Value) (y0 y1 : Value) (h : w.ownsRow base 99 2 (.slice (some ⟨g, 0, none⟩) n cap) n xs) (hx1 : ∀ v ∈ xs, v.oneCell' = true)
    (hv : w.heap[vb]? = some (.cells #[y0, y1] 99 (0, 0))) (h0 : y0.oneCell' = true) (h1 : y1.oneCell' = true) (hi : i < n) (hroom : ¬ n + 1 ≤ cap) (hn : n ≤ 1000000) (hbase : base ≤ w.heap.size) :
    Calls Try.prog 56 #[.slice (some ⟨g, 0, none⟩) n cap, .int .i64 (i : Int), .slice (some ⟨vb, 0, none⟩) 1 1] w fun e w' => ∃ G, e = .returned (.slice (some ⟨w.heap.size, 0, none⟩) (n + 1) G) ∧
      w'.ownsRow base 99 2 (.slice (some ⟨w.heap.size, 0, none⟩) (n + 1) G) (n + 1) (xs.take (i * 2) ++ [y0, y1] ++ xs.drop (i * 2)) ∧ w.grownBy w' none := by
  obtain ⟨hnc, hcm⟩ := ownsRow_len h
  have hmx : cap ≤ 9223372036854775807 := hcm
  have hxl := h.1
  have hlt := (h.lt g rfl).2
  have hvlt : vb < w.heap.size := (Array.getElem?_eq_some_iff.1 hv).1
  have hsrc : Hid (∀ j v, (xs.drop (i * 2))[j]? = some v → w.cell? ((⟨g, i * 2, none⟩ : Addr).add j) = some v) := by
    intro j v hj
    rw [List.getElem?_drop] at hj
    have := h.cells (g := g) rfl _ v hj
    rw [add_at, Nat.zero_add] at this
    rw [add_at]
    exact this
  have hdl : (xs.drop (i * 2)).length = (n - i) * 2 := by rw [List.length_drop, hxl]; omega
  have hfr := ownsRow_front h (i := i) (by omega)
  have HF := Lib.hid hfr
  have HH := Lib.hid (And.intro hv (And.intro hvlt (And.intro hlt hxl)))
  have HD := Lib.hid hdl
  clear h hxl hv hdl hvlt hlt hfr
  obtain rfl : n = cap := by omega
  have q0 : ¬ ((i : Int) = (n : Int)) := by omega
  have q1 : ((n : Int) < (n : Int) + 1) := by omega
  have q6 : ((i : Int) + 1).toNat = i + 1 := by omega
  have q5 : (0 : Int) ≤ (i : Int) + 1 := by omega
  have q8 : (i : Int) ≤ (n : Int) + 1 := by omega
  have q7 : (i : Int) + 1 ≤ (n : Int) + 1 := by omega
  have q10 : ¬ n = i := by omega
  have q11 : (i : Int) ≤ (n : Int) := by omega
  have q12 : i + (n + 1 - i) = n + 1 := by omega
  go_enter Try.func56, Try.ntmps56
  go_wp2_with (first
    | (show wpList _ _ _ (⟨some 45, _, _, _, _, _⟩ :: _) _ _; refine wpList_copyRow _ rfl (.tmp 43) (.tmp 44) 73 99 rfl Try.underlying73 2 sizeRow w.heap.size (i * 2) _ _ ⟨vb, 0, none⟩ _ _ R 1 [y0, y1] rfl rfl H1.out.1 (by simp only [Nat.min_def]; split <;> omega) rfl (vs_cells ((H1.out.2.2.2.block vb HH.out.2.1 (by simp)).trans HH.out.1)) (by simp only [List.length_cons, List.length_nil, H1.out.2.2.1]; omega) (fun v hv => by simp at hv; rcases hv with rfl | rfl; exact h0; exact h1) ?_; intro w2 hh2 hg2; have H2 := Lib.hid (And.intro hh2 hg2); clear hh2 hg2)
    | (at_builtin; (refine wpList_appMake w rfl (.tmp 34) (.tmp 39) 73 3 99 rfl Try.underlying73 Try.underlying3 _ 2 32 infoRow rfl (by decide) base g i n (n + 1 - i) (xs.take (i * 2)) _ (show (n : Int) + 1 - (i : Int) = _ by omega) rfl rfl HF.out (by omega) (by omega) (by omega) (by omega) ?_; intro w1 G R hh1 hR1 hR2 hG1 hG2 hg1; rw [q12] at hG1; rw [q12]; have H1 := Lib.hid (And.intro hh1 (And.intro hR1 (And.intro hR2 hg1))); have q13 : ¬ G = i := (by omega); have q14 : ¬ G = i + 1 := (by omega); have q15 : G ≤ 9223372036854775807 := hG2; clear hh1 hR1 hR2 hg1)))
  have qw : IntKind.i64.wrap ((i : Int) + 1) = (i : Int) + 1 := by rw [IntKind.wrap_i64]; omega
  have hRl : R.toList.length = G * 2 := by rw [← H1.out.2.2.1]; rfl
  have hc1l : Hid ((R.toList.take (i * 2) ++ [y0, y1] ++ R.toList.drop (i * 2 + [y0, y1].length)).toArray.size = G * 2) := by
    show _ = G * 2
    simp only [List.size_toArray, List.length_append, List.length_take, List.length_drop, hRl, List.length_cons, List.length_nil]
    omega
  go_region_law (refine step_copyRow _ rfl (.tmp 50) (.tmp 53) 73 99 rfl Try.underlying73 2 sizeRow w.heap.size ((i + 1) * 2) (n - i) (G - (i + 1)) ⟨g, i * 2, none⟩ (n - i) (n - i) _ (n - i) (xs.drop (i * 2)) (by simp [Act.eval, Act.put]) (by simp [Act.eval, Act.put]) H2.out.1 (by simp only [Nat.min_def]; split <;> omega) HD.out (fun j v hj => ((World.cell?_of_block (w := w) (a := (⟨g, i * 2, none⟩ : Addr).add j) (by rw [add_at]; exact (H2.out.2.block g (Nat.lt_of_lt_of_le HH.out.2.2.1 H1.out.2.2.2.size) (fun e => by have := HH.out.2.2.1; cases e; omega)).trans (H1.out.2.2.2.block g HH.out.2.2.1 (by simp)))).trans (hsrc.out j v hj))) (by rw [HD.out, hc1l.out]; omega) (fun v hv => hx1 v (List.mem_of_mem_drop hv)) ?_; intro w3 hh3 hg3; have H3 := Lib.hid (And.intro hh3 (grownBy_undrew hg3)); clear hh3 hg3)
  go_wp2_with fail
  go_ret
  obtain ⟨e1, e2⟩ := ins_new (I := i * 2) (M := 2) (L := n * 2) (ys := [y0, y1]) H1.out.2.1 HH.out.2.2.2 rfl (by omega) (by rw [hRl]; omega) rfl (c2 := (R.toList.take (i * 2) ++ [y0, y1] ++ R.toList.drop (i * 2 + [y0, y1].length)).toArray.toList.take ((i + 1) * 2) ++ xs.drop (i * 2) ++ (R.toList.take (i * 2) ++ [y0, y1] ++ R.toList.drop (i * 2 + [y0, y1].length)).toArray.toList.drop ((i + 1) * 2 + (xs.drop (i * 2)).length)) (by rw [show (i + 1) * 2 = i * 2 + 2 from by omega])
  refine ⟨G, rfl, ⟨by simp only [List.length_append, List.length_take, List.length_drop, HH.out.2.2.2, List.length_cons, List.length_nil]; omega, .inr ⟨w.heap.size, G, _, rfl, hbase, H3.out.1, hG1, hG2, ?_, ?_⟩⟩, ?_⟩
  · rw [List.size_toArray, e2, hRl]
  · rw [show (n + 1) * 2 = n * 2 + 2 from by omega]
    exact e1.trans (by simp)
  · have g1 := H1.out.2.2.2
    have g2 := H2.out.2
    have g3 := H3.out.2
    exact ⟨(g3.os.trans g2.os).trans g1.os, (g3.tape.trans g2.tape).trans g1.tape, (g3.output.trans g2.output).trans g1.output, Nat.le_trans g1.size (Nat.le_trans g2.size g3.size), fun b hb _ =>
      ((g3.block b (Nat.lt_of_lt_of_le hb (Nat.le_trans g1.size g2.size)) (fun e => by cases e; omega)).trans (g2.block b (Nat.lt_of_lt_of_le hb g1.size) (fun e => by cases e; omega))).trans (g1.block b hb (by simp))⟩
end Go.Proofs.Ytmnemkeieaflhaa
/- Contract: slices.Insert of one row, at whatever place. -/
namespace Go.Proofs.Ytmnemkeieaflhaa
set_option linter.unusedVariables false
set_option linter.unusedSimpArgs false
open Go.ChangeShapes Go.WideShapes Go.ChangeAt Go.RowKit Go.Shelf

theorem RdK.one_row {w : World} {vb : Nat} {y0 y1 : Value} (hv : w.heap[vb]? = some (.cells #[y0, y1] 99 (0, 0))) : RdK w 2 (.slice (some ⟨vb, 0, none⟩) 1 1) 1 [y0, y1] := by
  refine ⟨_, 1, rfl, rfl, Nat.le_refl _, by unfold maxLen; omega, fun _ => ⟨vb, 0, rfl, (Array.getElem?_eq_some_iff.1 hv).1, fun j u hj => ?_⟩⟩
  have := vs_cells hv j u hj
  rwa [add_at] at this

set_option maxRecDepth 10000 in
set_option maxHeartbeats 4000000 in
theorem Insert_end (w : World) (base n vb : Nat) (v : Value) (xs : List Value) (y0 y1 : Value) (h : w.ownsRow base 99 2 v n xs)
    (hv : w.heap[vb]? = some (.cells #[y0, y1] 99 (0, 0))) (h0 : y0.oneCell' = true) (h1 : y1.oneCell' = true) (hn : n ≤ 1000000) (hbase : base ≤ w.heap.size) :
    Calls Try.prog 56 #[v, .int .i64 (n : Int), .slice (some ⟨vb, 0, none⟩) 1 1] w fun e w' => ∃ v', e = .returned v' ∧
      w'.ownsRow base 99 2 v' (n + 1) (xs ++ [y0, y1]) ∧ w.grownBy w' v.ownBlock ∧ (v'.ownBlock = v.ownBlock ∨ v'.ownBlock = some w.heap.size) := by
  have H := Lib.hid (And.intro h hv)
  obtain ⟨A, c, rfl, hnc, hcm⟩ := (RdK.of_own h).form
  have hmx : c ≤ 9223372036854775807 := hcm
  clear h hv hcm
  by_cases hcn : c = n
  · subst hcn
    go_enter Try.func56, Try.ntmps56
    go_wp2_with (at_builtin; refine wpList_appK w rfl (.tmp 23) (.tmp 24) 73 rfl 99 _ 2 32 Try.underlying73 infoRow rfl (by decide) base (.slice A c c) _ c 1 xs [y0, y1] rfl rfl H.out.1 (RdK.one_row H.out.2) (fun v hv => by simp at hv; rcases hv with rfl | rfl; exact h0; exact h1) (by omega) (by unfold maxLen; omega) hbase ?_; intro v2 w2 ho2 hg2 hat2; have H2 := Lib.hid (And.intro ho2 (And.intro hg2 hat2)); clear ho2 hg2 hat2)
    go_ret
    exact ⟨_, rfl, H2.out.1, H2.out.2.1, H2.out.2.2⟩
  · go_enter Try.func56, Try.ntmps56
    go_wp2_with (at_builtin; refine wpList_appK w rfl (.tmp 23) (.tmp 24) 73 rfl 99 _ 2 32 Try.underlying73 infoRow rfl (by decide) base (.slice A n c) _ n 1 xs [y0, y1] rfl rfl H.out.1 (RdK.one_row H.out.2) (fun v hv => by simp at hv; rcases hv with rfl | rfl; exact h0; exact h1) (by omega) (by unfold maxLen; omega) hbase ?_; intro v2 w2 ho2 hg2 hat2; have H2 := Lib.hid (And.intro ho2 (And.intro hg2 hat2)); clear ho2 hg2 hat2)
    go_ret
    exact ⟨_, rfl, H2.out.1, H2.out.2.1, H2.out.2.2⟩

theorem Insert_any (w : World) (base n i vb : Nat) (v : Value) (xs : List Value) (y0 y1 : Value) (h : w.ownsRow base 99 2 v n xs) (hx1 : ∀ v ∈ xs, v.oneCell' = true)
    (hv : w.heap[vb]? = some (.cells #[y0, y1] 99 (0, 0))) (h0 : y0.oneCell' = true) (h1 : y1.oneCell' = true) (hne : v.ownBlock ≠ some vb) (hi : i ≤ n) (hn : n ≤ 1000000) (hbase : base ≤ w.heap.size) :
    Calls Try.prog 56 #[v, .int .i64 (i : Int), .slice (some ⟨vb, 0, none⟩) 1 1] w fun e w' => ∃ v', e = .returned v' ∧
      w'.ownsRow base 99 2 v' (n + 1) (xs.take (i * 2) ++ [y0, y1] ++ xs.drop (i * 2)) ∧ w.grownBy w' v.ownBlock ∧ (v'.ownBlock = v.ownBlock ∨ v'.ownBlock = some w.heap.size) := by
  have hxl := h.1
  rcases Nat.lt_or_ge i n with hlt | hge
  · rcases id h.2 with ⟨rfl, rfl⟩ | ⟨g, cap, cur, rfl, _⟩
    · omega
    · by_cases hr : n + 1 ≤ cap
      · refine (Insert_shift w base g n cap i vb xs y0 y1 h hx1 hv h0 h1 (fun e => hne (by rw [e]; rfl)) hlt hr).mono ?_
        rintro e w' ⟨rfl, ho, hg⟩
        exact ⟨_, rfl, ho, hg, .inl rfl⟩
      · refine (Insert_new w base g n cap i vb xs y0 y1 h hx1 hv h0 h1 hlt hr hn hbase).mono ?_
        rintro e w' ⟨G, rfl, ho, hg⟩
        exact ⟨_, rfl, ho, ⟨hg.os, hg.tape, hg.output, hg.size, fun b hb _ => hg.block b hb (by simp)⟩, .inr rfl⟩
  · obtain rfl : i = n := by omega
    refine (Insert_end w base i vb v xs y0 y1 h hv h0 h1 hn hbase).mono ?_
    rintro e w' ⟨v', rfl, ho, hg, hat⟩
    refine ⟨v', rfl, ?_, hg, hat⟩
    rw [List.take_of_length_le (by omega), List.drop_of_length_le (by omega), List.append_nil]
    exact ho
end Go.Proofs.Ytmnemkeieaflhaa
/- Contracts: where a row ends; the first row that ends behind a place. -/
namespace Go.Proofs.Ytmnemkeieaflhaa
set_option linter.unusedVariables false
set_option linter.unusedSimpArgs false
open Go.ChangeShapes Go.WideShapes Go.ChangeAt Go.RowKit Go.Shelf

@[reducible] def rwV (r : Rw) : Value := .agg #[.int .i64 (r.at_ : Int), r.v]
def Rw.Fit (r : Rw) : Prop := (∃ A c, r.v = .slice A r.data.length c) ∧ r.at_ + r.data.length ≤ 70000
def rE (r : Rw) : Int := (r.at_ : Int) + (r.data.length : Int)
/-- The slice reads as these rows. -/
def Rws (w : World) (v : Value) (l : List Rw) : Prop := RdK w 2 v l.length (cellsW l)
def RwAt (w : World) (b o : Nat) (r : Rw) : Prop := w.cell? ⟨b, o, none⟩ = some (.int .i64 (r.at_ : Int)) ∧ w.cell? ⟨b, o + 1, none⟩ = some r.v
theorem rwAt_of {w : World} {l : List Rw} {b off : Nat} (h : ∀ j u, (cellsW l)[j]? = some u → w.cell? ⟨b, off + j, none⟩ = some u) (j : Nat) (hj : j < l.length) : RwAt w b (off + j * 2) l[j] := by
  have e : ∀ i (hi : i < 2) u, (rwC l[j])[i]? = some u → w.cell? ⟨b, off + j * 2 + i, none⟩ = some u := fun i hi u hu => by
    rw [Nat.add_assoc]
    exact h _ _ (by rw [show cellsW l = l.flatMap rwC from rfl, flat_at rwC 2 rwC_length l j i hj hi]; exact hu)
  exact ⟨e 0 (by decide) _ rfl, e 1 (by decide) _ rfl⟩
theorem RwAt.grow {w w' : World} {b o : Nat} {r : Rw} (h : RwAt w b o r) (g : Grow w w') (hb : b < w.heap.size) : RwAt w' b o r :=
  ⟨(g.cell (p := ⟨b, o, none⟩) hb).trans h.1, (g.cell (p := ⟨b, o + 1, none⟩) hb).trans h.2⟩
theorem Rws.at_ {w : World} {A : Option Addr} {n c : Nat} {l : List Rw} (h : Rws w (.slice A n c) l) (hp : 0 < l.length) : ∃ b off, A = some ⟨b, off, none⟩ ∧ b < w.heap.size ∧ ∀ j (hj : j < l.length), RwAt w b (off + j * 2) l[j] := by
  obtain ⟨A', c', e, _, _, _, h3⟩ := h
  cases e
  obtain ⟨b, off, e, hb, hc⟩ := h3 hp
  exact ⟨b, off, e, hb, rwAt_of hc⟩
theorem Rws.grow {w w' : World} {v : Value} {l : List Rw} (h : Rws w v l) (g : Grow w w') : Rws w' v l := RdK.grow h g

set_option maxHeartbeats 1000000 in
theorem rowEnd_any (r : Rw) (hr : r.Fit) (w : World) : Calls Try.prog 53 #[rwV r] w fun e w' => e = .returned (.int .i64 (rE r)) ∧ Grow w w' := by
  obtain ⟨⟨A, c, hv⟩, hb⟩ := hr
  obtain ⟨ra, rv, rd⟩ := r
  simp only at hv hb
  subst hv
  unfold rE
  simp only
  go_enter Try.func53, Try.ntmps53
  go_wp2_with fail
  go_ret
  exact ⟨rfl, Grow.alloc _ _⟩

set_option maxHeartbeats 1000000 in
theorem cmpRow_any (r : Rw) (hr : r.Fit) (s : Int) (h0 : 0 ≤ s) (h1 : s ≤ 100000) (w : World) : Calls Try.prog 55 #[rwV r, .int .i64 s] w fun e w' => e = .returned (.int .i64 (rE r - s)) ∧ Grow w w' := by
  have cE := rowEnd_any r hr
  obtain ⟨⟨A, c, hv⟩, hb⟩ := hr
  have hE : 0 ≤ rE r ∧ rE r ≤ 70000 := by unfold rE; omega
  generalize rE r = R at *
  obtain ⟨ra, rv, rd⟩ := r
  simp only at hv hb
  subst hv
  unfold rwV at cE
  simp only at cE
  go_enter Try.func55, Try.ntmps55
  go_wp2_with (go_at_call 53; refine (cE _).mono ?_; rintro e w1 ⟨rfl, hg1⟩)
  go_ret
  exact ⟨rfl, (Grow.alloc _ _).trans hg1⟩

set_option maxRecDepth 10000 in
set_option maxHeartbeats 4000000 in
theorem BSF_any (ws : List Rw) (hs : ws.Pairwise fun a b => rE a < rE b) (hf : ∀ r ∈ ws, r.Fit) (hlen : ws.length ≤ 1000000) (v : Value) (w : World) (hv : Rws w v ws) (s : Int) (h0 : 0 ≤ s) (h1 : s ≤ 100000) :
    Calls Try.prog 54 #[v, .int .i64 s, .func (.func 55) #[] #[]] w fun e w' =>
      (∃ (p : Nat) (b : Bool), p ≤ ws.length ∧ (∀ t (h : t < ws.length), t < p → rE ws[t] < s) ∧ (∀ t (h : t < ws.length), p ≤ t → s ≤ rE ws[t]) ∧ e = .returned (.tuple #[.int .i64 (p : Int), .bool b])) ∧ Grow w w' := by
  obtain ⟨A, c, rfl, hlc, hcm⟩ := RdK.form hv
  have HB := Lib.hid (fun (x : Rw) (hx : x.Fit) w => cmpRow_any x hx s h0 h1 w)
  have HS := Lib.hid (And.intro hs hf)
  have HV := Lib.hid hv
  clear hs hv hf
  have eg : ∀ args w, (callFunc 55 args).run Try.prog w = .ok (.enter 55 args) w := enters_of Try.func55 (by kernel_rfl) rfl
  go_enter Try.func54, Try.ntmps54
  go_wp2_with fail
  go_loopg [9, 10] ws.length (fun g s9 s10 wr => ∃ i j : Nat, i ≤ j ∧ j ≤ ws.length ∧ g = j - i ∧ s9 = .int .i64 (i : Int) ∧ s10 = .int .i64 (j : Int) ∧ (∀ t (h : t < ws.length), t < i → rE ws[t] < s) ∧ (∀ t (h : t < ws.length), j ≤ t → s ≤ rE ws[t]) ∧ Grow w wr)
  case atStart => exact ⟨0, ws.length, Nat.zero_le _, Nat.le_refl _, by omega, rfl, rfl, fun t h h' => by omega, fun t h h' => by omega, Grow.refl _⟩
  case round =>
    obtain ⟨i, j, hij, hj, rfl, rfl, rfl, hlo, hhi, hgr⟩ := hrel
    rcases Nat.lt_or_ge i j with hlt | hge
    · obtain ⟨b, off, rfl, hb, hcell⟩ := HV.out.at_ (by omega)
      have hm : (i + j) / 2 < ws.length := by omega
      have RM : RwAt wr b (off + (i + j) / 2 * 2) ws[(i + j) / 2] := (hcell _ hm).grow hgr hb
      have hlt1 : b < wr.heap.size := Nat.lt_of_lt_of_le hb hgr.size
      have A1 : Aside ((∀ t (h : t < ws.length), t < i → rE ws[t] < s) ∧ (∀ t (h : t < ws.length), j ≤ t → s ≤ rE ws[t]) ∧ Grow w wr) := ⟨hlo, hhi, hgr⟩
      have hfx := HS.out.2 _ (List.getElem_mem hm)
      clear hlo hhi hgr hcell hb
      generalize hx : ws[(i + j) / 2] = x at *
      have HX := Lib.hid hx
      clear hx
      have m1 : ((i : Int) + (j : Int)) / 2 = (((i + j) / 2 : Nat) : Int) := by omega
      generalize hmm : (i + j) / 2 = m at *
      have HM := Lib.hid hmm
      clear hmm
      have hcall := HB.out x hfx
      have hE : 0 ≤ rE x ∧ rE x ≤ 70000 := by have := hfx.2; unfold rE; omega
      obtain ⟨A5, c5, hxv⟩ := hfx.1
      have HFX := Lib.hid hfx
      clear hfx
      obtain ⟨c0, c1⟩ := RM
      unfold rwV at hcall
      rw [hxv] at hcall
      rw [hxv] at c1
      generalize hxe : rE x = xe at *
      generalize x.at_ = xa at *
      generalize x.data.length = xn at *
      have HXE := Lib.hid hxe
      clear hxe hxv
      have hlt3 : decide ((i : Int) < (j : Int)) = true := decide_eq_true (by omega)
      by_cases hxt : xe < s
      · have hd : decide (xe - s < 0) = true := decide_eq_true (by omega)
        go_wp2_with (go_at_call 55; refine (hcall _).mono ?_; rintro e wq ⟨rfl, hgq⟩)
        go_roundg (j - (m + 1))
        case measure => omega
        case rel =>
          refine ⟨m + 1, j, by omega, hj, rfl, by go_num, rfl, fun t h h' => ?_, A1.out.2.1, A1.out.2.2.trans hgq⟩
          have e1 : rE ws[m] = xe := by rw [HX.out, HXE.out]
          rcases Nat.lt_or_ge t m with h1 | h1
          · have := List.pairwise_iff_getElem.1 HS.out.1 t m h hm h1
            omega
          · obtain rfl : t = m := by omega
            omega
      · have hd : decide (xe - s < 0) = false := decide_eq_false (by omega)
        go_wp2_with (go_at_call 55; refine (hcall _).mono ?_; rintro e wq ⟨rfl, hgq⟩)
        go_roundg (m - i)
        case measure => omega
        case rel =>
          refine ⟨i, m, by omega, by omega, rfl, rfl, rfl, A1.out.1, fun t h h' => ?_, A1.out.2.2.trans hgq⟩
          have e1 : rE ws[m] = xe := by rw [HX.out, HXE.out]
          rcases Nat.lt_or_ge m t with h1 | h1
          · have := List.pairwise_iff_getElem.1 HS.out.1 m t hm h h1
            omega
          · obtain rfl : t = m := by omega
            omega
    · obtain rfl : i = j := by omega
      have hlt3 : decide ((i : Int) < (i : Int)) = false := decide_eq_false (by omega)
      rcases Nat.lt_or_ge i ws.length with hin | hin
      · obtain ⟨b, off, rfl, hb, hcell⟩ := HV.out.at_ (by omega)
        have RM : RwAt wr b (off + i * 2) ws[i] := (hcell _ hin).grow hgr hb
        have hlt1 : b < wr.heap.size := Nat.lt_of_lt_of_le hb hgr.size
        have A1 : Aside ((∀ t (h : t < ws.length), t < i → rE ws[t] < s) ∧ (∀ t (h : t < ws.length), i ≤ t → s ≤ rE ws[t]) ∧ Grow w wr) := ⟨hlo, hhi, hgr⟩
        have hfx := HS.out.2 _ (List.getElem_mem hin)
        clear hlo hhi hgr hcell hb
        generalize ws[i] = x at RM hfx
        have hcall := HB.out x hfx
        have hE : 0 ≤ rE x ∧ rE x ≤ 70000 := by have := hfx.2; unfold rE; omega
        obtain ⟨A5, c5, hxv⟩ := hfx.1
        have HFX := Lib.hid hfx
        clear hfx
        obtain ⟨c0, c1⟩ := RM
        unfold rwV at hcall
        rw [hxv] at hcall
        rw [hxv] at c1
        generalize rE x = xe at *
        generalize x.at_ = xa at *
        generalize x.data.length = xn at *
        clear hxv
        have hd1 : decide ((i : Int) < (ws.length : Int)) = true := decide_eq_true (by omega)
        go_wp2_with (go_at_call 55; refine (hcall _).mono ?_; rintro e wq ⟨rfl, hgq⟩)
        go_ret2
        exact ⟨⟨i, _, hj, A1.out.1, A1.out.2.1, rfl⟩, A1.out.2.2.trans hgq⟩
      · have A1 : Aside ((∀ t (h : t < ws.length), t < i → rE ws[t] < s) ∧ (∀ t (h : t < ws.length), i ≤ t → s ≤ rE ws[t]) ∧ Grow w wr) := ⟨hlo, hhi, hgr⟩
        clear hlo hhi hgr
        obtain rfl : i = ws.length := by omega
        clear hin hj hlt3 hij
        go_wp2_with fail
        go_ret2
        exact ⟨⟨ws.length, _, Nat.le_refl _, A1.out.1, A1.out.2.1, rfl⟩, A1.out.2.2⟩
end Go.Proofs.Ytmnemkeieaflhaa
