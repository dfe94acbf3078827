/- Short names of laws. Conditions: none. -/
import Derived.Deep.WholeRow
namespace Go.Proofs.YtbpodmallknhfaaGreat
abbrev GM:=@Go.heap_alloc_last
end Go.Proofs.YtbpodmallknhfaaGreat
