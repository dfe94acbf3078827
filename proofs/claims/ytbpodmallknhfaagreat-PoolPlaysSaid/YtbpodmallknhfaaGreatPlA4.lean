/- Short names of laws. Conditions: none. -/
import Derived.Laws.Rows
namespace Go.Proofs.YtbpodmallknhfaaGreat
abbrev Ib:=@Go.block_lt_of_cell
abbrev Iq:=@Go.cell_of_row
abbrev IG:=@Go.results_cell_row
end Go.Proofs.YtbpodmallknhfaaGreat
