/- The reference's Pop. -/
import Derived.Test.YtdgbieapgmjjhaaAgRAl
namespace Go.Proofs.Ytdgbieapgmjjhaa
set_option linter.unusedVariables false
set_option linter.unusedSimpArgs false
open Go.ChangeShapes Go.WideShapes Go.ChangeAt Go.RowKit

theorem apt_symm {v u : Value} (h : Apt v u) : Apt u v := fun b e1 e2 => h b e2 e1
/-- Where Pop stands. -/
structure PoAt (w wr : World) (L : List En) (now : Int) (i : Nat) (A : Option Addr) (n c : Nat) (B : Option Addr) (m d : Nat) : Prop where
  le : i ≤ L.length
  left : Its wr w.heap.size (.slice A n c) ((L.take i).filter fun e => decide (now < e.at_))
  due : Its wr w.heap.size (.slice B m d) ((L.take i).filter fun e => decide (e.at_ ≤ now))
  apt : Apt (.slice A n c) (.slice B m d)
  g : Grow w wr
theorem take_succ {L : List En} {i : Nat} (hi : i < L.length) : L.take (i + 1) = L.take i ++ [pt L i] := by rw [List.take_succ_eq_append_getElem hi, pt_key hi]
set_option maxRecDepth 100000 in
set_option maxHeartbeats 8000000 in
theorem rPopE_any (w : World) (v : Value) (L : List En) (now : Int) (h : RdIt w v L) (hn : L.length ≤ 100000) :
    Calls Try.prog 16 #[v, .int .i64 now] w fun e w' => ∃ v1 v2, e = .returned (.tuple #[v1, v2]) ∧ Its w' w.heap.size v1 (L.filter fun e => decide (now < e.at_)) ∧ Its w' w.heap.size v2 (sortE (L.filter fun e => decide (e.at_ ≤ now))) ∧ Grow w w' := by
  have HV := Lib.hid h
  obtain ⟨A0, c0, rfl, _, _⟩ := h.form
  obtain ⟨N, hN⟩ : ∃ N, N = L.length := ⟨_, rfl⟩
  rw [← hN] at HV ⊢
  have HN : Hid (N = L.length ∧ N ≤ 100000) := ⟨hN, by omega⟩
  clear h hn hN
  go_enter Try.func16, Try.ntmps16
  go_wp2_with fail
  go_loopg [6, 7, 8] N (fun gk s6 s7 s8 wr => ∃ (i : Nat) (A : Option Addr) (n c : Nat) (B : Option Addr) (m d : Nat), gk = N - i ∧ s6 = .slice A n c ∧ s7 = .slice B m d ∧ s8 = .int .i64 (i : Int) ∧ Hid (PoAt w wr L now i A n c B m d))
  case atStart => exact ⟨0, Option.none, 0, 0, Option.none, 0, 0, rfl, rfl, rfl, rfl, Nat.zero_le _, Its.none _ _, Its.none _ _, apt_none _, Grow.refl _⟩
  case round =>
    obtain ⟨i, A, n, c, B, m, d, rfl, rfl, rfl, rfl, HR⟩ := hrel
    rename World => wo
    rcases Nat.lt_or_ge i N with hlt | hge
    · obtain ⟨bl, ol, cl, e1, hbl, hcl⟩ := HV.out.cell (by have := HN.out.1; omega)
      have hA0 : A0 = some ⟨bl, ol, none⟩ := by injection e1
      subst hA0
      obtain ⟨x0, x1, x2⟩ := hcl i (by have := HN.out.1; omega)
      obtain ⟨x, hx⟩ : ∃ x, x = pt L i := ⟨_, rfl⟩
      rw [← hx] at x0 x1 x2
      have y0 := (HR.out.g.cell (p := ⟨bl, ol + i * 3, none⟩) hbl).trans x0
      have y1 := (HR.out.g.cell (p := ⟨bl, ol + i * 3 + 1, none⟩) hbl).trans x1
      have y2 := (HR.out.g.cell (p := ⟨bl, ol + i * 3 + 2, none⟩) hbl).trans x2
      have HI : Hid (i < N ∧ i < L.length ∧ x = pt L i) := ⟨hlt, by have := HN.out.1; omega, hx⟩
      have hfl := fun p : En → Bool => List.length_filter_le p (L.take i)
      rw [List.length_take] at hfl
      have HF : Hid (∀ p : En → Bool, ((L.take i).filter p).length ≤ 100000) := fun p => by have := hfl p; have := HN.out; omega
      have i0 : (i : Int) < (N : Int) := by omega
      have ib : i < 100000 := by have := HN.out.2; omega
      clear e1 hbl hcl hx hlt hfl x0 x1 x2
      by_cases hd : x.at_ ≤ now
      · have HD : Hid (decide (x.at_ ≤ now) = true ∧ ¬ decide (now < x.at_) = true) := ⟨decide_eq_true hd, by simp; omega⟩
        go_wp2_with (at_builtin; refine run_itapp2 wo w.heap.size (.slice B m d) ((L.take i).filter fun e => decide (e.at_ ≤ now)) x HR.out.due HR.out.g.size (by have := HF.out (fun e => decide (e.at_ ≤ now)); omega) rfl (.tmp 22) (.tmp 27) rfl rfl rfl ?_; intro v5 w5 hr5 o5 p5 n5; obtain ⟨A5, c5, hv5⟩ := hr5.form; obtain ⟨m5, hm5⟩ : ∃ m5, m5 = ((L.take i).filter (fun e => decide (e.at_ ≤ now)) ++ [x]).length := ⟨_, rfl⟩; rw [← hm5] at hv5; subst hv5; have H5 : Hid (PoAt w w5 L now (i + 1) A n c A5 m5 c5) := ⟨HI.out.2.1, by rw [take_succ HI.out.2.1, List.filter_append, ← HI.out.2.2, List.filter_cons_of_neg (p := fun e : En => decide (now < e.at_)) HD.out.2, List.filter_nil, List.append_nil]; exact HR.out.left.pst p5 HR.out.apt, by rw [take_succ HI.out.2.1, List.filter_append, ← HI.out.2.2, List.filter_cons_of_pos (p := fun e : En => decide (e.at_ ≤ now)) HD.out.1, List.filter_nil]; exact hr5, HR.out.apt.new HR.out.left n5, Below.trans HR.out.g o5.low⟩; clear hr5 o5 p5 n5 hm5)
        go_roundg (N - (i + 1))
        case measure => have := HI.out.1; omega
        case rel => exact ⟨i + 1, A, n, c, A5, m5, c5, rfl, rfl, rfl, by go_num, H5.out⟩
      · have HD : Hid (¬ decide (x.at_ ≤ now) = true ∧ decide (now < x.at_) = true) := ⟨by simp; omega, decide_eq_true (by omega)⟩
        go_wp2_with (at_builtin; refine run_itapp2 wo w.heap.size (.slice A n c) ((L.take i).filter fun e => decide (now < e.at_)) x HR.out.left HR.out.g.size (by have := HF.out (fun e => decide (now < e.at_)); omega) rfl (.tmp 29) (.tmp 34) rfl rfl rfl ?_; intro v5 w5 hr5 o5 p5 n5; obtain ⟨A5, c5, hv5⟩ := hr5.form; obtain ⟨m5, hm5⟩ : ∃ m5, m5 = ((L.take i).filter (fun e => decide (now < e.at_)) ++ [x]).length := ⟨_, rfl⟩; rw [← hm5] at hv5; subst hv5; have H5 : Hid (PoAt w w5 L now (i + 1) A5 m5 c5 B m d) := ⟨HI.out.2.1, by rw [take_succ HI.out.2.1, List.filter_append, ← HI.out.2.2, List.filter_cons_of_pos (p := fun e : En => decide (now < e.at_)) HD.out.2, List.filter_nil]; exact hr5, by rw [take_succ HI.out.2.1, List.filter_append, ← HI.out.2.2, List.filter_cons_of_neg (p := fun e : En => decide (e.at_ ≤ now)) HD.out.1, List.filter_nil, List.append_nil]; exact HR.out.due.pst p5 (apt_symm HR.out.apt), apt_symm ((apt_symm HR.out.apt).new HR.out.due n5), Below.trans HR.out.g o5.low⟩; clear hr5 o5 p5 n5 hm5)
        go_roundg (N - (i + 1))
        case measure => have := HI.out.1; omega
        case rel => exact ⟨i + 1, A5, m5, c5, B, m, d, rfl, rfl, rfl, by go_num, H5.out⟩
    · obtain rfl : i = N := by have := HR.out.le; have := HN.out.1; omega
      have HE : Hid (Its wo w.heap.size (.slice A n c) (L.filter fun e => decide (now < e.at_)) ∧ Its wo w.heap.size (.slice B m d) (L.filter fun e => decide (e.at_ ≤ now))) := by
        have h1 := HR.out.left
        have h2 := HR.out.due
        rw [HN.out.1, List.take_length] at h1 h2
        exact ⟨h1, h2⟩
      have c1 := rAllE_any wo _ _ HE.out.2.rd (by have := List.length_filter_le (fun e : En => decide (e.at_ ≤ now)) L; have := HN.out; omega)
      go_wp2_with fail
      refine c1.mono ?_
      rintro e w2 ⟨v2, rfl, r2, g2⟩
      have H2 := Lib.hid (And.intro r2 g2)
      clear c1 r2 g2
      go_wp2_with fail
      go_ret2
      exact ⟨_, _, rfl, HE.out.1.grow H2.out.2, H2.out.1.base_ HR.out.g.size, Grow.trans HR.out.g H2.out.2⟩
end Go.Proofs.Ytdgbieapgmjjhaa
