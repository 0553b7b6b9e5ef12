/- Contracts: errors.As and errors.Is over errors at places; Code, Is. -/
import Derived.Test.YtmfgbanckehcgaaDoorTrailAs
namespace Go.Proofs.YtmfgbanckehcgaaDoor
set_option linter.unusedVariables false
set_option linter.unusedSimpArgs false
open Go.ChangeShapes Go.WideShapes Go.ChangeAt Go.RowKit Go.Extern.Stop Go.Stop Go.Extern

theorem Unwrap_any (s : ByteArray) (k : Int) (v : Value) (w : World) :
    Calls Tryd.prog 76 #[.agg #[.string s, .int .i64 k, v]] w fun e w' => e = .returned v ∧ w' = w.alloc (.cells #[.string s, .int .i64 k, v] 63) := by
  go_enter Tryd.func76, Tryd.ntmps76
  go_wp2_with fail
  go_ret
  exact ⟨rfl, rfl⟩

theorem noAs (t : TypeId) (h : t = 30 ∨ t = 63) (v : Value) (xT : TypeId) (w : World) : (Instr.typeAssert (.iface t v) xT 87 true).run Tryd.prog w = .ok (.tuple #[.nilIface, .bool false]) w := by
  rcases h with rfl | rfl
  · exact run_typeAssert_lacksB Tryd.underlying87 (by kernel_rfl) (by kernel_rfl) v xT w
  · exact run_typeAssert_lacksB Tryd.underlying87 (by kernel_rfl) (by kernel_rfl) v xT w
theorem noIs (t : TypeId) (h : t = 30 ∨ t = 63) (v : Value) (xT : TypeId) (w : World) : (Instr.typeAssert (.iface t v) xT 94 true).run Tryd.prog w = .ok (.tuple #[.nilIface, .bool false]) w := by
  rcases h with rfl | rfl
  · exact run_typeAssert_lacksB Tryd.underlying94 (by kernel_rfl) (by kernel_rfl) v xT w
  · exact run_typeAssert_lacksB Tryd.underlying94 (by kernel_rfl) (by kernel_rfl) v xT w
theorem hasUnwrap (v : Value) (xT : TypeId) (w : World) : (Instr.typeAssert (.iface 63 v) xT 90 true).run Tryd.prog w = .ok (.tuple #[.iface 63 v, .bool true]) w :=
  run_typeAssert_hasB Tryd.underlying90 (by kernel_rfl) v xT w

set_option maxHeartbeats 1600000 in
/-- errors.as: the chain is gone down to the number, which lies in the target then. -/
theorem as_any (l : List (ByteArray × Int)) (n : Int) (B t a : Nat) (old : Value) (w : World) (hB : B ≤ t) (htl : t < w.heap.size) (hal : a < w.heap.size)
    (ht : w.cell? ⟨t, 0, none⟩ = some old) (hf : w.frozen? ⟨t, 0, none⟩ = false) (ha : w.cell? ⟨a, 0, none⟩ = some (.pointer (some ⟨t, 0, none⟩))) :
    Calls Tryd.prog 38 #[chainV l n, .iface 60 (.pointer (some ⟨t, 0, none⟩)), .agg #[.pointer (some ⟨4, 60, none⟩), .pointer (some ⟨a, 0, none⟩), .int .u64 150], .iface 83 (.agg #[.pointer (some ⟨4, 30, none⟩)])] w
      fun e w' => e = .returned (.bool true) ∧ Below B w w' ∧ w'.cell? ⟨t, 0, none⟩ = some (.int .i64 n) := by
  have h35 := @run_callFunc_extern Tryd.prog 35 _ (fun args => ReflectliteValue.unpack (args.getD 0 (.tuple #[]))) Tryd.func35 (by kernel_rfl) (by kernel_rfl) (by kernel_rfl) (by kernel_rfl)
  have h39 := @run_callFunc_extern Tryd.prog 39 _ ReflectliteType.typeOf Tryd.func39 (by kernel_rfl) (by kernel_rfl) (by kernel_rfl) (by kernel_rfl)
  have h81 := @run_callFunc_extern Tryd.prog 81 _ (ReflectliteType.relation "AssignableTo" ReflectliteType.assignableTo) Tryd.func81 (by kernel_rfl) (by kernel_rfl) (by kernel_rfl) (by kernel_rfl)
  have h43 := @run_callFunc_extern Tryd.prog 43 _ (ReflectliteValue.method (ReflectliteValue.valueError "reflectlite.Value.Elem" 0) ReflectliteValue.elem) Tryd.func43 (by kernel_rfl) (by kernel_rfl) (by kernel_rfl) (by kernel_rfl)
  have h44 := @run_callFunc_extern Tryd.prog 44 _ ReflectliteValue.set Tryd.func44 (by kernel_rfl) (by kernel_rfl) (by kernel_rfl) (by kernel_rfl)
  have tE := typeOfE
  have tS := typeOfS
  have aE := assignE
  have aS := assignS
  have vE := valueOfE
  have nAE := fun v xT w => noAs 30 (.inl rfl) v xT w
  have nAS := fun v xT w => noAs 63 (.inr rfl) v xT w
  have hU := hasUnwrap
  generalize hC : (.agg #[.pointer (some ⟨4, 60, none⟩), .pointer (some ⟨a, 0, none⟩), .int .u64 150] : Value) = C
  go_enter Tryd.func38, Tryd.ntmps38
  subst hC
  go_wp2_with fail
  go_loopg [0] (l.length + 1) (fun g v wr => ∃ l' : List (ByteArray × Int), g = l'.length + 1 ∧ v = chainV l' n ∧ Grow (w.alloc (.cells #[.pointer (some ⟨4, 60, none⟩), .pointer (some ⟨a, 0, none⟩), .int .u64 150] 69)) wr)
  case atStart => exact ⟨l, rfl, rfl, Grow.refl _⟩
  case round =>
    obtain ⟨l', hg, hv, hgr⟩ := hrel
    subst hg
    have hsz := hgr.size
    simp only [World.size_alloc] at hsz
    have c0 : wr.cell? ⟨w.heap.size, 0, none⟩ = some (.pointer (some ⟨4, 60, none⟩)) := by rw [hgr.cell (by simp)]; simp
    have c1 : wr.cell? ⟨w.heap.size, 1, none⟩ = some (.pointer (some ⟨a, 0, none⟩)) := by rw [hgr.cell (by simp)]; simp
    have c2 : wr.cell? ⟨w.heap.size, 2, none⟩ = some (.int .u64 150) := by rw [hgr.cell (by simp)]; simp
    have ha1 : wr.cell? ⟨a, 0, none⟩ = some (.pointer (some ⟨t, 0, none⟩)) := by rw [hgr.cell (by simp; omega), World.cell?_alloc_lt _ _ ⟨a, 0, none⟩ hal]; exact ha
    have ht1 : wr.cell? ⟨t, 0, none⟩ = some old := by rw [hgr.cell (by simp; omega), World.cell?_alloc_lt _ _ ⟨t, 0, none⟩ htl]; exact ht
    have hf1 : wr.frozen? ⟨t, 0, none⟩ = false := by rw [hgr.frozen (by simp; omega), World.frozen?_alloc_old _ _ ⟨t, 0, none⟩ (Nat.ne_of_lt htl)]; exact hf
    have hb : Below B w wr := ((Below.refl B w).alloc (by omega) _).trans (hgr.mono (by simp; omega))
    have A : Aside (Grow (w.alloc (.cells #[.pointer (some ⟨4, 60, none⟩), .pointer (some ⟨a, 0, none⟩), .int .u64 150] 69)) wr ∧ Below B w wr) := ⟨hgr, hb⟩
    clear hgr hb ht hf ha
    cases l' with
    | nil =>
      subst hv
      simp only [chainV, List.foldr_nil]
      have el := elemVP ⟨a, 0, none⟩ ⟨t, 0, none⟩ wr ha1
      have st := setE ⟨t, 0, none⟩ ⟨wr.heap.size, 0, none⟩ n old (wr.alloc (.cells #[.int .i64 n] 30)) (by simp)
        (by rw [World.cell?_alloc_lt _ _ ⟨t, 0, none⟩ (by simp; omega)]; exact ht1) (by rw [World.frozen?_alloc_old _ _ ⟨t, 0, none⟩ (by simp; omega)]; exact hf1)
      go_wp2_with fail
      go_ret
      have hb := A.out.2
      refine ⟨rfl, (hb.alloc (by omega) _).setCell hB _, ?_⟩
      exact World.cell?_setCell_same _ _ _ (by rw [World.cell?_alloc_lt _ _ ⟨t, 0, none⟩ (by simp; omega)]; exact ht1)
    | cons p l'' =>
      obtain ⟨t', v', hv'⟩ := chainV_iface l'' n
      have e1 : chainV (p :: l'') n = .iface 63 (.agg #[.string p.1, .int .i64 p.2, .iface t' v']) := by rw [← hv']; rfl
      rw [e1] at hv
      subst hv
      have A2 : Aside (.iface t' v' = chainV l'' n) := hv'.symm
      clear hv' e1
      go_wp2_with (go_at_call 76; refine (Unwrap_any _ _ _ _).mono ?_; rintro e w' ⟨rfl, rfl⟩)
      go_roundg (l''.length + 1)
      case measure => simp
      case rel => exact ⟨l'', rfl, A2.out, A.out.1.trans (Grow.alloc _ _)⟩
end Go.Proofs.YtmfgbanckehcgaaDoor
