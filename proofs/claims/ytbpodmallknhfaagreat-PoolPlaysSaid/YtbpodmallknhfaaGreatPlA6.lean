/- Short names of laws. Conditions: none. -/
import Derived.OneCell
namespace Go.Proofs.YtbpodmallknhfaaGreat
abbrev GN:=@Go.lt_of_block
end Go.Proofs.YtbpodmallknhfaaGreat
