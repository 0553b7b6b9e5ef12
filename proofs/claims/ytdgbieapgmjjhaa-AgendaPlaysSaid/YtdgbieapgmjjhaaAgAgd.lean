/- An agenda between calls; in order: sorting; contracts: New, Push, Pop. -/
import Derived.Test.YtdgbieapgmjjhaaAgNil
namespace Go.Proofs.Ytdgbieapgmjjhaa
set_option linter.unusedVariables false
set_option linter.unusedSimpArgs false
open Go.ChangeShapes Go.WideShapes Go.ChangeAt Go.RowKit

/-- No later than, in its tick and rank. -/
def leE (a b : En) : Prop := a.at_ < b.at_ ∨ a.at_ = b.at_ ∧ a.rk ≤ b.rk
instance (a b : En) : Decidable (leE a b) := by unfold leE; infer_instance
/-- One more, in order. -/
def insE : List En → En → List En
  | [], x => [x]
  | y :: l, x => if leE y x then y :: insE l x else x :: y :: l
/-- All, in order. -/
def sortE (l : List En) : List En := l.foldl insE []
def SrtE (l : List En) : Prop := l.Pairwise fun a b => ¬ ltE b a
/-- In the order of insertion. -/
def Nos (l : List En) : Prop := l.Pairwise fun a b => a.no < b.no
theorem insE_perm : ∀ (l : List En) (x : En), (insE l x).Perm (x :: l)
  | [], x => List.Perm.refl _
  | y :: l, x => by
    unfold insE
    by_cases h : leE y x
    · rw [if_pos h]
      exact ((insE_perm l x).cons y).trans (List.Perm.swap x y l)
    · rw [if_neg h]
theorem insE_srt : ∀ (l : List En) (x : En), SrtE l → (∀ y ∈ l, y.no < x.no) → SrtE (insE l x)
  | [], x, _, _ => List.pairwise_singleton _ _
  | y :: l, x, h, hn => by
    unfold insE
    obtain ⟨h1, h2⟩ := List.pairwise_cons.1 h
    by_cases q : leE y x
    · rw [if_pos q]
      refine List.pairwise_cons.2 ⟨fun z hz => ?_, insE_srt l x h2 fun z hz => hn z (List.mem_cons_of_mem _ hz)⟩
      rcases List.mem_cons.1 ((insE_perm l x).mem_iff.1 hz) with e | e
      · subst e
        have := hn y List.mem_cons_self
        unfold leE at q
        unfold ltE
        omega
      · exact h1 z e
    · rw [if_neg q]
      have h0 : ltE x y := by
        unfold leE at q
        unfold ltE
        omega
      refine List.pairwise_cons.2 ⟨fun z hz => ?_, h⟩
      rcases List.mem_cons.1 hz with e | e
      · subst e
        exact ltE_asymm h0
      · exact ltE_le (h1 z e) h0
theorem fold_perm : ∀ (l acc : List En), (l.foldl insE acc).Perm (acc ++ l)
  | [], acc => by simp
  | x :: l, acc => by
    rw [List.foldl_cons]
    refine (fold_perm l (insE acc x)).trans ?_
    refine ((insE_perm acc x).append_right l).trans ?_
    exact (List.perm_middle (a := x) (l₁ := acc) (l₂ := l)).symm
theorem fold_srt : ∀ (l acc : List En), SrtE acc → (∀ a ∈ acc, ∀ b ∈ l, a.no < b.no) → Nos l → SrtE (l.foldl insE acc)
  | [], acc, h, _, _ => h
  | x :: l, acc, h, hn, hl => by
    rw [List.foldl_cons]
    obtain ⟨h1, h2⟩ := List.pairwise_cons.1 hl
    refine fold_srt l _ (insE_srt acc x h fun y hy => hn y hy x List.mem_cons_self) (fun a ha b hb => ?_) h2
    rcases List.mem_cons.1 ((insE_perm acc x).mem_iff.1 ha) with e | e
    · subst e
      exact h1 b hb
    · exact hn a e b (List.mem_cons_of_mem _ hb)
theorem sortE_perm (l : List En) : (sortE l).Perm l := by
  have := fold_perm l []
  rwa [List.nil_append] at this
theorem sortE_srt {l : List En} (h : Nos l) : SrtE (sortE l) := fold_srt l [] List.Pairwise.nil (fun a ha => by cases ha) h
theorem nos_inj : ∀ {l : List En}, Nos l → ∀ a ∈ l, ∀ b ∈ l, a.no = b.no → a = b
  | [], _, a, ha, _, _, _ => by cases ha
  | x :: l, h, a, ha, b, hb, e => by
    obtain ⟨h1, h2⟩ := List.pairwise_cons.1 h
    rcases List.mem_cons.1 ha with p | p <;> rcases List.mem_cons.1 hb with q | q
    · rw [p, q]
    · have := h1 b q
      rw [← p] at this
      omega
    · have := h1 a p
      rw [← q] at this
      omega
    · exact nos_inj h2 a p b q e
theorem srtE_eq {l D : List En} (h : Nos l) (hp : D.Perm l) (hs : SrtE D) : D = sortE l := by
  have hp2 : D.Perm (sortE l) := hp.trans (sortE_perm l).symm
  refine hp2.eq_of_pairwise (le := fun a b => ¬ ltE b a) (fun a b ha hb h1 h2 => ?_) hs (sortE_srt h)
  have m1 := hp.mem_iff.1 ha
  have m2 := (sortE_perm l).mem_iff.1 hb
  refine nos_inj h a m1 b m2 ?_
  unfold ltE at h1 h2
  omega
theorem Nos.filter {l : List En} (h : Nos l) (p : En → Bool) : Nos (l.filter p) := List.Pairwise.filter p h
/-- An agenda between calls: L in the order of insertion. -/
structure Agd (w : World) (base ab mb : Nat) (L : List En) (mo pu : Int) : Prop where
  q : ∃ v E, Qu w base ab mb v E mo pu ∧ Hp E E.length ∧ E.Perm L
  nos : Nos L
  low : ∀ e ∈ L, e.no < pu
  cap : (L.length : Int) ≤ mo
  pu0 : 0 ≤ pu
section
variable {w w' : World} {base ab mb : Nat} {L : List En} {mo pu : Int}
theorem Agd.grow (h : Agd w base ab mb L mo pu) (g : Grow w w') : Agd w' base ab mb L mo pu := by
  obtain ⟨v, E, h1, h2⟩ := h.q
  exact ⟨⟨v, E, h1.grow g, h2⟩, h.nos, h.low, h.cap, h.pu0⟩
theorem Agd.onlyG {b0 : Nat} {Z : Nat → TypeId → Prop} (h : Agd w base ab mb L mo pu) (o : Only b0 Z w w') (z1 : ∀ b, ¬ Z b 61) (z2 : ∀ b, ¬ Z b mapT) (z3 : ∀ b, ¬ Z b 66) : Agd w' base ab mb L mo pu := by
  obtain ⟨v, E, h1, h2⟩ := h.q
  exact ⟨⟨v, E, h1.onlyG o z1 z2 z3, h2⟩, h.nos, h.low, h.cap, h.pu0⟩
theorem Agd.nod (h : Agd w base ab mb L mo pu) : (L.map En.id).Nodup := by
  obtain ⟨v, E, h1, h2, h3⟩ := h.q
  exact (h3.map En.id).nodup_iff.1 h1.nod
theorem Agd.bas (h : Agd w base ab mb L mo pu) : base ≤ w.heap.size := by
  obtain ⟨v, E, h1, _⟩ := h.q
  exact h1.bas
end
theorem agNew_any (w : World) (base : Nat) (hb : base ≤ w.heap.size) (n : Int) (h1 : 1 ≤ n) (h2 : n ≤ 4096) : Calls Try.prog 7 #[.int .i64 n] w fun e w' => e = .returned (.tuple #[.pointer (some ⟨w.heap.size + 1, 0, none⟩), .int .i64 0]) ∧ Agd w' base (w.heap.size + 1) w.heap.size [] n 0 ∧ Grow w w' := by
  refine (aNew_any w base hb n h1 h2).mono ?_
  rintro e w' ⟨rfl, h, g⟩
  exact ⟨rfl, ⟨⟨_, [], h, (fun k k0 kn => by simp at kn), List.Perm.refl _⟩, List.Pairwise.nil, (fun e he => by cases he), by simp; omega, Int.le_refl _⟩, g⟩
theorem agPush_ok (w : World) (base ab mb : Nat) (L : List En) (mo pu : Int) (h : Agd w base ab mb L mo pu) (hn : L.length ≤ 80000) (hpu : pu ≤ 1000000000) (a b r : Int) (hx : ∀ e ∈ L, e.id ≠ a) (hf : (L.length : Int) < mo) :
    Calls Try.prog 9 #[.pointer (some ⟨ab, 0, none⟩), .agg #[.int .i64 a, .int .i64 b, .int .i64 r]] w fun e w' => e = .returned (.int .i64 0) ∧ Agd w' base ab mb (L ++ [⟨a, b, r, pu⟩]) mo (pu + 1) ∧ Only base Zq w w' := by
  obtain ⟨v, E, h1, h2, h3⟩ := h.q
  have hl := h3.length_eq
  refine (aPush_ok w base ab mb v E mo pu h1 h2 (by omega) ⟨h.pu0, hpu⟩ a b r (fun m hm => hx _ (h3.mem_iff.1 (List.mem_iff_getElem?.2 ⟨m, pt_get hm⟩))) (by omega)).mono ?_
  rintro e w' ⟨rfl, v', E', q1, q2, q3, q4⟩
  refine ⟨rfl, ⟨⟨v', E', q1, q3, q2.trans ((h3.cons _).trans (List.perm_append_comm (l₁ := [_])))⟩, ?_, ?_, ?_, by have := h.pu0; omega⟩, q4⟩
  · refine List.pairwise_append.2 ⟨h.nos, List.pairwise_singleton _ _, fun x hx y hy => ?_⟩
    rw [List.mem_singleton.1 hy]
    exact h.low x hx
  · intro x hx
    rcases List.mem_append.1 hx with q | q
    · have := h.low x q
      omega
    · rw [List.mem_singleton.1 q]
      show pu < pu + 1
      omega
  · rw [List.length_append, List.length_singleton]
    omega
theorem perm_parts {D F L : List En} {now : Int} (h : (D ++ F).Perm L) (hD : ∀ d ∈ D, d.at_ ≤ now) (hF : ∀ e ∈ F, now < e.at_) : D.Perm (L.filter fun e => decide (e.at_ ≤ now)) ∧ F.Perm (L.filter fun e => decide (now < e.at_)) := by
  have h1 := h.filter fun e => decide (e.at_ ≤ now)
  have h2 := h.filter fun e => decide (now < e.at_)
  rw [List.filter_append] at h1 h2
  rw [List.filter_eq_self.2 (fun d hd => decide_eq_true (hD d hd)), List.filter_eq_nil_iff.2 (fun e he => by have := hF e he; simp; omega), List.append_nil] at h1
  rw [List.filter_eq_self.2 (fun d hd => decide_eq_true (hF d hd)), List.filter_eq_nil_iff.2 (fun e he => by have := hD e he; simp; omega), List.nil_append] at h2
  exact ⟨h1, h2⟩
theorem agPop_any (w : World) (base ab mb : Nat) (L : List En) (mo pu now : Int) (h : Agd w base ab mb L mo pu) (hn : L.length ≤ 80000) :
    Calls Try.prog 15 #[.pointer (some ⟨ab, 0, none⟩), .int .i64 now] w fun e w' => ∃ s, e = .returned s ∧ Its w' w.heap.size s (sortE (L.filter fun e => decide (e.at_ ≤ now))) ∧ Agd w' base ab mb (L.filter fun e => decide (now < e.at_)) mo pu ∧ Only base Zq w w' := by
  obtain ⟨v, E, h1, h2, h3⟩ := h.q
  have hl := h3.length_eq
  refine (aPop_any w base ab mb v E mo pu now h1 h2 (by omega)).mono ?_
  rintro e w' ⟨s, D, v', F, rfl, q1, q2, q3, q4, q5, q6, q7, q8⟩
  obtain ⟨p1, p2⟩ := perm_parts (q3.trans h3) q4 q5
  have e1 := srtE_eq (h.nos.filter _) p1 q6
  refine ⟨s, rfl, e1 ▸ q7, ⟨⟨v', F, q1, q2, p2⟩, h.nos.filter _, fun e he => h.low e (List.mem_filter.1 he).1, ?_, h.pu0⟩, q8⟩
  have := List.length_filter_le (fun e : En => decide (now < e.at_)) L
  have := h.cap
  omega
end Go.Proofs.Ytdgbieapgmjjhaa
