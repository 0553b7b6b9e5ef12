/- The document's own answer: a packet's bytes. -/
import Derived.Test.YtbhdpobmooncpaaIpBlk
import Derived.Test.YtbhdpobmooncpaaIpPutW
import Derived.Test.YtbhdpobmooncpaaWeave
namespace Go.Proofs.Ytbhdpobmooncpaa
set_option linter.unusedVariables false
set_option linter.unusedSimpArgs false
open Go.ChangeShapes Go.WideShapes Go.ChangeAt Go.RowKit

theorem upon_app (w₀ w : World) {ops : Array Oper} {o : Oper} {a : Act} {post : Value → World → Prop} (hgd : o.guard = none) (s x : Operand)
    (ho : o.op = .call { callee := .builtin .append, args := #[s, x], argTypes := #[24, 24] })
    (v u : Value) (l m : List UInt8) (hs : a.eval s = v) (hx : a.eval x = u) (hown : Own w w₀.heap.size v l) (hg : Grow w₀ w) (hr : Byt w u m) (hl : l.length + m.length ≤ 140737488355328)
    (h : ∀ v' w', Own w' w₀.heap.size v' (l ++ m) → Grow w₀ w' → post v' w') :
    if Region.wanted o (yielded ops a.tmps) = true then looseUpon Try.prog post ((execOp a.eval o).run Try.prog w) else post undef w := by
  have hw : Region.wanted o (yielded ops a.tmps) = true := by simp [Region.wanted, hgd]
  rw [if_pos hw]
  have f2 : (m.map bv).length = m.length := by simp
  have hb := hg.size
  have q : (l.map bv).length = l.length := by simp
  obtain ⟨v', w', hrun, h2, h3, h4⟩ := run_append_rd (P := Try.prog) w w₀.heap.size 24 o.type 5 (.int .u8 0) 1 Try.underlying24 infoByte rfl v (l.map bv) (by rw [q]; exact hown) u (m.map bv) hr (bv_one _) (by rw [q, f2]; omega) (by rw [q, f2]; unfold maxLen; omega) hb
  unfold execOp
  simp only [ho, resolve, invoke, builtin, Sem.run_bind, Sem.run_pure, Result.andThen_ok, List.map_toArray, List.map_cons, List.map_nil, hs, hx, hrun, looseUpon]
  refine h v' w' ?_ (hg.grown h3 hb fun k hk => own_block hown k hk)
  unfold Own
  rw [← List.map_append, List.length_map] at h2
  exact h2

theorem own26 (w : World) (k : Pkt) (k1 : k.tos < 256) : Own (w.alloc (.cells #[.int .u8 ((69 + (k.opts.length : Int) / 4) % 256), .int .u8 (k.tos : Int)] 5)) w.heap.size (.slice (some ⟨w.heap.size, 0, none⟩) 2 2) [UInt8.ofNat (69 + k.opts.length / 4), UInt8.ofNat k.tos] := by
  refine Own.lit w _ [UInt8.ofNat (69 + k.opts.length / 4), UInt8.ofNat k.tos] ?_ (by unfold maxLen; simp)
  simp only [bv, List.map_cons, List.map_nil, UInt8.toNat_ofNat', List.cons.injEq, Value.int.injEq, true_and, and_true]
  constructor <;> omega

theorem lit2 (w : World) (k : Pkt) (k3 : k.ttl < 256) (k4 : k.proto < 256) : Byt (w.alloc (.cells #[.int .u8 (k.ttl : Int), .int .u8 (k.proto : Int)] 5)) (.slice (some ⟨w.heap.size, 0, none⟩) 2 2) [UInt8.ofNat k.ttl, UInt8.ofNat k.proto] := by
  refine (Own.lit w _ [UInt8.ofNat k.ttl, UInt8.ofNat k.proto] ?_ (by unfold maxLen; simp)).byt
  simp only [bv, List.map_cons, List.map_nil, UInt8.toNat_ofNat', List.cons.injEq, Value.int.injEq, true_and, and_true]
  constructor <;> omega
theorem lit00 (w : World) : Byt (w.alloc (.cells #[.int .u8 0, .int .u8 0] 5)) (.slice (some ⟨w.heap.size, 0, none⟩) 2 2) [0, 0] := (Own.lit w #[.int .u8 0, .int .u8 0] [0, 0] rfl (by unfold maxLen; simp)).byt

end Go.Proofs.Ytbhdpobmooncpaa
