/- Short names of laws. Conditions: none. -/
import Derived.IntWalk
namespace Go.Proofs.YtbpodmallknhfaaGreat
abbrev GW:=@Go.IntWalk.i64_in
abbrev Hv:=@Go.IntWalk.u64_in
abbrev IA:=@Go.IntWalk.wrap64_in
abbrev Jn:=@Go.IntWalk.u32_in
end Go.Proofs.YtbpodmallknhfaaGreat
