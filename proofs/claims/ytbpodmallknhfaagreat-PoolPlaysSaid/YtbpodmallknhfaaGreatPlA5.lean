/- Short names of laws. Conditions: none. -/
import Derived.Lib.Hide
namespace Go.Proofs.YtbpodmallknhfaaGreat
abbrev GD:=@Go.Lib.hid
end Go.Proofs.YtbpodmallknhfaaGreat
