/- One field of a packet in its block, written over. -/
import Derived.Test.YtbhdpobmooncpaaIpBlk
import Derived.Test.YtbhdpobmooncpaaWeave
import Derived.Laws.CopyRow
namespace Go.Proofs.Ytbhdpobmooncpaa
set_option linter.unusedVariables false
set_option linter.unusedSimpArgs false
open Go.ChangeShapes Go.WideShapes Go.ChangeAt Go.RowKit

/-- A packet's cells. -/
def cellsP (k : Pkt) (vo vd : Value) : Array Value := #[.int .u8 (k.tos : Int), .int .u16 (k.ident : Int), .bool k.whole, .bool k.more, .int .i64 k.off, .int .u8 (k.ttl : Int), .int .u8 (k.proto : Int), .int .u32 (k.src : Int), .int .u32 (k.dst : Int), vo, vd]
end Go.Proofs.Ytbhdpobmooncpaa
