/- Short names of laws. Conditions: none. -/
import Derived.Below
namespace Go.Proofs.YtbpodmallknhfaaGreat
abbrev GF:=@Go.RowKit.Below.refl
end Go.Proofs.YtbpodmallknhfaaGreat
