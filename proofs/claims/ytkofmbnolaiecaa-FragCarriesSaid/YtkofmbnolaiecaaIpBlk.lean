/- A packet laid into its block, and read there. -/
import Derived.Test.YtkofmbnolaiecaaIpPut
import Derived.Laws.Tables
namespace Go.Proofs.Ytkofmbnolaiecaa
set_option linter.unusedVariables false
set_option linter.unusedSimpArgs false
open Go.ChangeShapes Go.WideShapes Go.ChangeAt Go.RowKit

/-- The block g holds the packet. -/
def Blk (w : World) (g : Nat) (k : Pkt) (vo vd : Value) : Prop := w.heap[g]? = some (.cells #[.int .u8 (k.tos : Int), .int .u16 (k.ident : Int), .bool k.whole, .bool k.more, .int .i64 k.off, .int .u8 (k.ttl : Int), .int .u8 (k.proto : Int), .int .u32 (k.src : Int), .int .u32 (k.dst : Int), vo, vd] 27 (0, 0))
theorem Blk.boxd {w : World} {g : Nat} {k : Pkt} {vo vd : Value} (h : Blk w g k vo vd) : Boxd w g k vo vd := by
  unfold Boxd World.cell?
  unfold Blk at h
  rw [h]
  exact ⟨rfl, rfl, rfl, rfl, rfl, rfl, rfl, rfl, rfl, rfl, rfl⟩
theorem Blk.lt {w : World} {g : Nat} {k : Pkt} {vo vd : Value} (h : Blk w g k vo vd) : g < w.heap.size := (Array.getElem?_eq_some_iff.1 h).1
theorem Blk.grow {w w' : World} {g : Nat} {k : Pkt} {vo vd : Value} (h : Blk w g k vo vd) (gr : Grow w w') : Blk w' g k vo vd := (Below.block gr g h.lt).trans h
theorem Blk.new (w : World) (k : Pkt) (vo vd : Value) : Blk (w.alloc (.cells #[.int .u8 (k.tos : Int), .int .u16 (k.ident : Int), .bool k.whole, .bool k.more, .int .i64 k.off, .int .u8 (k.ttl : Int), .int .u8 (k.proto : Int), .int .u32 (k.src : Int), .int .u32 (k.dst : Int), vo, vd] 27)) w.heap.size k vo vd := heap_alloc_new w _
theorem Blk.frozen {w : World} {g : Nat} {k : Pkt} {vo vd : Value} (h : Blk w g k vo vd) (i : Nat) : w.frozen? ⟨g, i, none⟩ = false := by
  unfold Blk at h
  unfold World.frozen?
  rw [h]
  simp
/-- All blocks but g are as they were. -/
def But (g : Nat) (w w' : World) : Prop := w'.heap.size = w.heap.size ∧ ∀ b, b ≠ g → w'.heap[b]? = w.heap[b]?
theorem Own.but {w w' : World} {g base : Nat} {v : Value} {l : List UInt8} (h : Own w base v l) (hb : But g w w') (hg : g < base) : Own w' base v l := by
  refine ⟨h.1, ?_⟩
  rcases h.2 with h2 | ⟨b, cap, cur, hv, hbb, hh, r⟩
  · exact .inl h2
  · exact .inr ⟨b, cap, cur, hv, hbb, (hb.2 b (by omega)).trans hh, r⟩
theorem Own.one {w : World} {base : Nat} {v : Value} {l : List UInt8} (h : Own w base v l) : v.oneCell' = true := by
  rcases h.2 with ⟨rfl, _⟩ | ⟨b, cap, cur, rfl, _⟩ <;> rfl
theorem Byt.one {w : World} {v : Value} {l : List UInt8} (h : Byt w v l) : v.oneCell' = true := by
  obtain ⟨A, c, rfl, _, _⟩ := h.form
  rfl

/-- *p = packet, as one step of a walk. -/
theorem wpList_store_ip (w₀ w : World) {ops : Array Oper} {rest : List Oper} {o : Oper} {a : Act} {Q : Exit → Act → World → Prop} (hgd : o.guard = none) (x y : Operand) (ho : o.op = .store 27 x y) (hdst : o.dst = none)
    (g : Nat) (hx : a.eval x = .pointer (some ⟨g, 0, none⟩)) (k k₀ : Pkt) (vo vd vo₀ vd₀ : Value) (hy : a.eval y = ipV k vo vd) (h1 : vo.oneCell' = true) (h2 : vd.oneCell' = true) (hb : Blk w g k₀ vo₀ vd₀)
    (hgr : Grow w₀ w) (hg : w₀.heap.size ≤ g) (h : ∀ w', Blk w' g k vo vd → But g w w' → Grow w₀ w' → wpList Try.prog ops Q rest a w') : wpList Try.prog ops Q (o :: rest) a w := by
  refine wpList_store_row hgd 27 x y ho g #[.int .u8 (k.tos : Int), .int .u16 (k.ident : Int), .bool k.whole, .bool k.more, .int .i64 k.off, .int .u8 (k.ttl : Int), .int .u8 (k.proto : Int), .int .u32 (k.src : Int), .int .u32 (k.dst : Int), vo, vd] hx hy 27 _ hb (by kernel_rfl) rfl ?_ ?_
  · rw [Array.all_eq_true_iff_forall_mem]
    intro z hz
    simp only [List.mem_toArray, List.mem_cons, List.not_mem_nil, or_false] at hz
    rcases hz with rfl | rfl | rfl | rfl | rfl | rfl | rfl | rfl | rfl | rfl | rfl <;> first | rfl | exact h1 | exact h2
  · have e : a.put o.dst undef = a := by rw [hdst]; rfl
    rw [e]
    refine h _ (setRow_heap w g _ _ _ _ hb) ⟨by simp [World.setRow], fun b hne => setRow_other w g b _ hne⟩ (below_setRow hgr hg _)

set_option maxHeartbeats 400000 in
/-- A packet and a number, handed back out of the packet's block. -/
theorem results_ip {fn : Func} (h : fn.results = #[.cell 2 27, .tmp 3]) (tmps : Array Value) (w : World) (g : Nat) (k : Pkt) (vo vd : Value) (ht : tmps.getD 2 undef = .pointer (some ⟨g, 0, none⟩)) (hb : Blk w g k vo vd) :
    (results fn tmps).run Try.prog w = .ok (.tuple #[ipV k vo vd, tmps.getD 3 undef]) w := by
  obtain ⟨b0, b1, b2, b3, b4, b5, b6, b7, b8, b9, b10⟩ := hb.boxd
  have ht' : tmps[2]?.getD undef = .pointer (some ⟨g, 0, none⟩) := by simpa using ht
  simp only [results, h, go_sem]
  simp [ht', b0, b1, b2, b3, b4, b5, b6, b7, b8, b9, b10, go_sem]

def isO (b : Nat) (l : List UInt8) (v : Value) (w : World) : Prop := Own w b v l
theorem isO_stays {b : Nat} (l : List UInt8) : stays (isO b l) := fun _ _ _ hg h => Own.grow h hg
end Go.Proofs.Ytkofmbnolaiecaa
