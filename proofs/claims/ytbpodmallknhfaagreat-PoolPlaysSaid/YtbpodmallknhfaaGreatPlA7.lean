/- Short names of laws. Conditions: none. -/
import GoSem.Core.Value
namespace Go.Proofs.YtbpodmallknhfaaGreat
abbrev Hc:=@Go.Value.slice.injEq
abbrev Im:=@Go.Addr.mk.injEq
end Go.Proofs.YtbpodmallknhfaaGreat
