/- The type int: its zero value and its size. -/
import Derived.Test.YtgimobilcdkmpaaDoorBitsMeetsCardK7
namespace Go.Proofs.YtgimobilcdkmpaaDoor
open Go.RowKit
theorem info_int : (Tryd.prog.info? 3).map (fun i => (i.zero, i.size, i.bytes)) = some (some (.int .i64 0), 1, 8) := by kernel_rfl
end Go.Proofs.YtgimobilcdkmpaaDoor
