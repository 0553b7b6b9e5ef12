/- Contracts: calm, Code, Res, Is. -/
import Derived.Test.YtmfgbanckehcgaaDoorTrailCode
import Derived.Lib.IfaceEq
namespace Go.Proofs.YtmfgbanckehcgaaDoor
set_option linter.unusedVariables false
set_option linter.unusedSimpArgs false
open Go.ChangeShapes Go.WideShapes Go.ChangeAt Go.RowKit Go.Extern.Stop Go.Stop Go.Extern

theorem Base.grow {w w' : World} (h : Base w) (g : Grow w w') : Base w' := by
  have hp := h.pos
  refine ⟨(g.cell (p := ⟨0, 0, none⟩) hp).trans h.1, ?_⟩
  have hgn : Tryd.prog.globalNamed "internal/strconv.uint64pow10" = some 1 := by kernel_rfl
  have h2 := h.2
  have hlt : 1 < w.heap.size := by
    rcases Nat.lt_or_ge 1 w.heap.size with h' | h'
    · exact h'
    · unfold Lib.TabIs World.var? at h2
      rw [hgn] at h2
      simp [Array.getElem?_eq_none h'] at h2
  exact var?_below g hgn hlt h2

theorem calm_idle (w : World) : CallsD Tryd.prog 34 #[] .returning w fun e u' w' => e = .returned (.tuple #[]) ∧ u' = .returning ∧ w' = w := by
  refine callsD_of_wpS Tryd.func34 rfl fun c₀ cs hu => ?_
  apply wpS_region
  simp [wpOpsS, go_sem, recoverD, hu, Tryd.ntmps34, bodyPostS, results, Tryd.results34]
  cases c₀
  simp_all

/-- calm: what the closure answers. -/
theorem calm_code (x y : Addr) (b : Bool) (R : World → Prop) (w : World) (h : Calls Tryd.prog 27 #[.pointer (some x), .pointer (some y)] w fun e w' => e = .returned (.bool b) ∧ R w') :
    Calls Tryd.prog 26 #[.func (.func 27) #[] #[.pointer (some x), .pointer (some y)]] w fun e w' => e = .returned (.bool b) ∧ R w' := by
  go_enter_defers Tryd.func26, Tryd.ntmps26
  go_wp2_with fail
  refine h.mono ?_
  rintro e w1 ⟨rfl, hR⟩
  go_wp2_with fail
  refine leaves_cons (f := 34) (args := #[]) (by simp) (by simp [go_sem]) ?_
  refine (calm_idle _).mono ?_
  rintro e u' w'' ⟨rfl, rfl, rfl⟩
  exact ⟨_, results_tmp rfl _ _ _, rfl, hR⟩

/-- calm: what the closure answers. -/
theorem calm_is (x y : Addr) (b : Bool) (R : World → Prop) (w : World) (h : Calls Tryd.prog 29 #[.pointer (some x), .pointer (some y)] w fun e w' => e = .returned (.bool b) ∧ R w') :
    Calls Tryd.prog 26 #[.func (.func 29) #[] #[.pointer (some x), .pointer (some y)]] w fun e w' => e = .returned (.bool b) ∧ R w' := by
  go_enter_defers Tryd.func26, Tryd.ntmps26
  go_wp2_with fail
  refine h.mono ?_
  rintro e w1 ⟨rfl, hR⟩
  go_wp2_with fail
  refine leaves_cons (f := 34) (args := #[]) (by simp) (by simp [go_sem]) ?_
  refine (calm_idle _).mono ?_
  rintro e u' w'' ⟨rfl, rfl, rfl⟩
  exact ⟨_, results_tmp rfl _ _ _, rfl, hR⟩

set_option maxHeartbeats 1600000 in
theorem is_any (l : List (ByteArray × Int)) (n : Int) (w : World) :
    Calls Tryd.prog 40 #[chainV l n, .iface 30 (.int .i64 n), .bool true] w fun e w' => e = .returned (.bool true) ∧ Grow w w' := by
  have nIE := fun v xT w => noIs 30 (.inl rfl) v xT w
  have nIS := fun v xT w => noIs 63 (.inr rfl) v xT w
  have hU := hasUnwrap
  have eE := fun wx => Lib.run_eql_iface_int (P := Tryd.prog) (k := .i64) (t := 26) (tx := 30) wx n n Tryd.underlying26 (by kernel_rfl) Tryd.underlying30
  have eS := fun v wx => run_eql_iface_types (P := Tryd.prog) 63 30 v (.int .i64 n) Tryd.underlying26 (by decide) wx
  simp only [beq_self_eq_true] at eE
  go_enter Tryd.func40, Tryd.ntmps40
  go_wp2_with fail
  go_loopg [0] (l.length + 1) (fun g v wr => ∃ l' : List (ByteArray × Int), g = l'.length + 1 ∧ v = chainV l' n ∧ Grow w wr)
  case atStart => exact ⟨l, rfl, rfl, Grow.refl _⟩
  case round =>
    obtain ⟨l', hg, hv, hgr⟩ := hrel
    subst hg
    have A : Aside (Grow w wr) := hgr
    clear hgr
    cases l' with
    | nil =>
      subst hv
      simp only [chainV, List.foldr_nil]
      go_wp2_with fail
      go_ret
      exact ⟨rfl, A.out⟩
    | cons p l'' =>
      obtain ⟨t', v', hv'⟩ := chainV_iface l'' n
      have e1 : chainV (p :: l'') n = .iface 63 (.agg #[.string p.1, .int .i64 p.2, .iface t' v']) := by rw [← hv']; rfl
      rw [e1] at hv
      subst hv
      have A2 : Aside (.iface t' v' = chainV l'' n) := hv'.symm
      clear hv' e1
      go_wp2_with (go_at_call 76; refine (Unwrap_any _ _ _ _).mono ?_; rintro e w' ⟨rfl, rfl⟩)
      go_roundg (l''.length + 1)
      case measure => simp
      case rel => exact ⟨l'', rfl, A2.out, A.out.trans (Grow.alloc _ _)⟩

set_option maxHeartbeats 800000 in
theorem EIs_any (l : List (ByteArray × Int)) (n : Int) (w : World) :
    Calls Tryd.prog 30 #[chainV l n, .iface 30 (.int .i64 n)] w fun e w' => e = .returned (.bool true) ∧ Grow w w' := by
  have h39 := @run_callFunc_extern Tryd.prog 39 _ ReflectliteType.typeOf Tryd.func39 (by kernel_rfl) (by kernel_rfl) (by kernel_rfl) (by kernel_rfl)
  have h82 := @run_callFunc_extern Tryd.prog 82 _ compF Tryd.func82 (by kernel_rfl) (by kernel_rfl) (by kernel_rfl) (by kernel_rfl)
  have tE := typeOfE
  have cE := compE
  obtain ⟨t', v', hv⟩ := chainV_iface l n
  have A : Hid (∀ w2, Calls Tryd.prog 40 #[.iface t' v', .iface 30 (.int .i64 n), .bool true] w2 fun e w' => e = .returned (.bool true) ∧ Grow w2 w') := by
    intro w2
    rw [← hv]
    exact is_any l n w2
  rw [hv]
  clear hv
  go_enter Tryd.func30, Tryd.ntmps30
  go_wp2_with (go_at_call 40; refine (A.out _).mono ?_; rintro e w' ⟨rfl, h1⟩)
  go_ret
  exact ⟨rfl, h1⟩

set_option maxHeartbeats 800000 in
theorem IsC_any (l : List (ByteArray × Int)) (n : Int) (a b : Nat) (w : World) (ha : w.cell? ⟨a, 0, none⟩ = some (chainV l n)) (hb : w.cell? ⟨b, 0, none⟩ = some (.int .i64 n)) :
    Calls Tryd.prog 29 #[.pointer (some ⟨a, 0, none⟩), .pointer (some ⟨b, 0, none⟩)] w fun e w' => e = .returned (.bool true) ∧ Grow w w' := by
  have A : Hid (∀ w2, Calls Tryd.prog 30 #[chainV l n, .iface 30 (.int .i64 n)] w2 fun e w' => e = .returned (.bool true) ∧ Grow w2 w') := EIs_any l n
  revert A ha
  generalize chainV l n = X
  intro ha A
  go_enter Tryd.func29, Tryd.ntmps29
  go_wp2_with (go_at_call 30; refine (A.out _).mono ?_; rintro e w' ⟨rfl, h1⟩)
  go_ret
  exact ⟨rfl, h1⟩

set_option maxHeartbeats 800000 in
theorem Is_same (l : List (ByteArray × Int)) (n : Int) (hn : n ≠ 0) (w : World) :
    Calls Tryd.prog 13 #[chainV l n, .int .i64 n] w fun e w' => e = .returned (.bool true) ∧ Grow w w' := by
  have hd : (n == 0) = false := by simpa using hn
  have hmf : ∀ (fn : Fn) (first cap : Array Value) (w : World), (Instr.makeFunc fn first cap).run Tryd.prog w = .ok (.func fn first cap) w := fun _ _ _ _ => rfl
  have A : Hid (Calls Tryd.prog 29 #[.pointer (some ⟨w.heap.size, 0, none⟩), .pointer (some ⟨w.heap.size + 1, 0, none⟩)] ((w.alloc (.cells #[chainV l n] 26)).alloc (.cells #[.int .i64 n] 30)) fun e w' => e = .returned (.bool true) ∧ Grow w w') := by
    refine (IsC_any l n _ _ _ ?_ ?_).mono ?_
    · simp
    · simp
    · rintro e w' ⟨rfl, h⟩
      exact ⟨rfl, ((Grow.alloc w _).trans (Grow.alloc _ _)).trans h⟩
  obtain ⟨t', v', hv⟩ := chainV_iface l n
  rw [hv] at A ⊢
  clear hv
  go_enter Tryd.func13, Tryd.ntmps13
  go_wp2_with (go_at_call 26; refine (calm_is _ _ _ _ _ A.out).mono ?_; rintro e w' ⟨rfl, h1⟩)
  go_ret
  exact ⟨rfl, h1⟩

theorem Is_ok (t : TypeId) (v : Value) (w : World) :
    Calls Tryd.prog 13 #[.iface t v, .int .i64 0] w fun e w' => e = .returned (.bool false) ∧ Grow w w' := by
  go_enter Tryd.func13, Tryd.ntmps13
  go_wp2_with fail
  go_ret
  exact ⟨rfl, (Grow.alloc w _).trans (Grow.alloc _ _)⟩
theorem Is_none (w : World) :
    Calls Tryd.prog 13 #[.nilIface, .int .i64 0] w fun e w' => e = .returned (.bool true) ∧ Grow w w' := by
  go_enter Tryd.func13, Tryd.ntmps13
  go_wp2_with fail
  go_ret
  exact ⟨rfl, (Grow.alloc w _).trans (Grow.alloc _ _)⟩

set_option maxHeartbeats 800000 in
theorem CodeC_any (l : List (ByteArray × Int)) (n : Int) (B a t : Nat) (old : Value) (w : World) (hg : Base w) (hB : B ≤ t) (htl : t < w.heap.size) (ha : w.cell? ⟨a, 0, none⟩ = some (chainV l n))
    (ht : w.cell? ⟨t, 0, none⟩ = some old) (hf : w.frozen? ⟨t, 0, none⟩ = false) :
    Calls Tryd.prog 27 #[.pointer (some ⟨a, 0, none⟩), .pointer (some ⟨t, 0, none⟩)] w fun e w' => e = .returned (.bool true) ∧ Below B w w' ∧ w'.cell? ⟨t, 0, none⟩ = some (.int .i64 n) := by
  have A : Hid (Calls Tryd.prog 28 #[chainV l n, .iface 60 (.pointer (some ⟨t, 0, none⟩))] w fun e w' => e = .returned (.bool true) ∧ Below B w w' ∧ w'.cell? ⟨t, 0, none⟩ = some (.int .i64 n)) := As_any l n B t old w hg hB htl ht hf
  clear ht hf
  generalize chainV l n = X at *
  go_enter Tryd.func27, Tryd.ntmps27
  go_wp2_with (go_at_call 28; refine A.out.mono ?_; rintro e w' ⟨rfl, h1, h2⟩)
  go_ret
  exact ⟨rfl, h1, h2⟩

set_option maxHeartbeats 800000 in
theorem Code_chain (l : List (ByteArray × Int)) (n : Int) (w : World) (hg : Base w) :
    Calls Tryd.prog 12 #[chainV l n] w fun e w' => e = .returned (.int .i64 n) ∧ Grow w w' := by
  have hmf : ∀ (fn : Fn) (first cap : Array Value) (w : World), (Instr.makeFunc fn first cap).run Tryd.prog w = .ok (.func fn first cap) w := fun _ _ _ _ => rfl
  have A : Hid (Calls Tryd.prog 27 #[.pointer (some ⟨w.heap.size, 0, none⟩), .pointer (some ⟨w.heap.size + 1, 0, none⟩)] ((w.alloc (.cells #[chainV l n] 26)).alloc (.cells #[.int .i64 0] 30)) fun e w' => e = .returned (.bool true) ∧ Grow w w' ∧ w'.cell? ⟨w.heap.size + 1, 0, none⟩ = some (.int .i64 n)) := by
    refine (CodeC_any l n (w.heap.size + 1) _ _ (.int .i64 0) _ ((hg.grow (Grow.alloc w _)).grow (Grow.alloc _ _)) (Nat.le_refl _) (by simp) ?_ ?_ ?_).mono ?_
    · simp
    · simp
    · simp
    · rintro e w' ⟨rfl, h, h2⟩
      refine ⟨rfl, ?_, h2⟩
      exact Below.trans (((Below.refl w.heap.size w).alloc (Nat.le_refl _) _).alloc (by simp) _) (Below.mono h (by omega))
  obtain ⟨t', v', hv⟩ := chainV_iface l n
  rw [hv] at A ⊢
  clear hv
  go_enter Tryd.func12, Tryd.ntmps12
  go_wp2_with (go_at_call 26; refine (calm_code _ _ _ _ _ A.out).mono ?_; rintro e w' ⟨rfl, h1, h2⟩)
  go_ret
  exact ⟨rfl, h1⟩
theorem Code_nil (w : World) : Calls Tryd.prog 12 #[.nilIface] w fun e w' => e = .returned (.int .i64 0) ∧ Grow w w' := by
  go_enter Tryd.func12, Tryd.ntmps12
  go_wp2_with fail
  go_ret
  exact ⟨rfl, Grow.alloc w _⟩
theorem Code_made (l : List (ByteArray × Int)) (n : Int) (w : World) (hg : Base w) :
    Calls Tryd.prog 12 #[madeV l n] w fun e w' => e = .returned (.int .i64 n) ∧ Grow w w' := by
  by_cases hn : n = 0
  · subst hn
    exact Code_nil w
  · rw [madeV_chain hn]
    exact Code_chain l n w hg
theorem Res_made (l : List (ByteArray × Int)) (n : Int) (hn : -9223372036854775807 ≤ n ∧ n ≤ 9223372036854775807) (w : World) (hg : Base w) :
    Calls Tryd.prog 14 #[madeV l n] w fun e w' => e = .returned (.int .i64 (-n)) ∧ Grow w w' := by
  have hw : wrap64 (-n) = -n := IntWalk.wrap64_in _ (by omega)
  generalize hX : madeV l n = X
  have A : Hid (Calls Tryd.prog 12 #[X] w fun e w' => e = .returned (.int .i64 n) ∧ Grow w w') := by rw [← hX]; exact Code_made l n w hg
  clear hX
  go_enter Tryd.func14, Tryd.ntmps14
  go_wp2_with (go_at_call 12; refine A.out.mono ?_; rintro e w' ⟨rfl, h1⟩)
  go_ret
  exact ⟨rfl, h1⟩
end Go.Proofs.YtmfgbanckehcgaaDoor
