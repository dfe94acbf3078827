/-
  No cell of these rows narrows 'for every input' (looked for: loops, veiled, ifaces, maps, wideKeys, modest, calm, conditions, laid).
  DERIVED. THE GIVEN ROWS OF THIS SEAT. 4 by the template 'for every input the law returns true; each argument reads behind the call as it read before'; 0 by the template 'total and deterministic' (their statements: YtbpodmallknhfaaGreatTotals.lean).
  GIVEN WITH THE SEED: the statements are not yours to turn. If you find one false, say at which input.
  Laid BY PROGRAM, IN A SANDBOX (cutbox-rows.mjs): the forced cells as the released guide's own fill.sh prints them over the translation 4d66528213ef694e… (all of the seat's roots in one cut). By AI agents, Wed Nov 11 2026. No macro, syntax, notation, axiom, sorry.
-/
import Derived.Test.YtbpodmallknhfaaGreatChecked
import GoSem.Claim
import GoSem.ClaimJoined
import GoSem.ClaimMapViews
import Derived.JoinedTies
import Derived.KernelRfl
namespace Go.Proofs.YtbpodmallknhfaaGreat
/- THE CELL 'sum', in the pinned program and in every row, IS THE sha256 OF THE DUMP (.gsa) THAT YtbpodmallknhfaaGreatProg.lean LOADS. Nothing in Lean hashes anything: it is a label: what it is worth is what the hold of that sum in a sandbox is worth. -/
noncomputable def Tryz.pinned : Pinned := { name := "ytbpodmallknhfaagreat", sum := "4d66528213ef694e5929d4e278d9416be2a29cb143d8a2993dd0313c683df958", checked := Tryz.checked }
namespace Rows
def none {H : Type} : Left H := { results := [], args := [] }

/-- 'vicinagelaw11.PoolPlays': WHATEVER THE INPUT: true; the input reads as it did. -/
def poolPlaysSpec : ChangeSpec := { name := "poolPlays", fn := fun _ => fun
  | [d1, d2] => { results := [.lit (.bool true)], args := [d1, d2] }
  | _ => none }
def poolPlaysRow : OpenClaim := { program := "ytbpodmallknhfaagreat", sum := "4d66528213ef694e5929d4e278d9416be2a29cb143d8a2993dd0313c683df958", func := "vicinage/vicinagelaw11.PoolPlays", spec := "poolPlays", unfollowed := true, recurses := true, apart := false }
def PoolPlaysSaid : Prop := poolPlaysRow.holds Tryz.pinned (OpenSpec.ofChange poolPlaysSpec)

/-- ITS FALSE NEIGHBOUR: 'it returns false'. Refute it at one input. -/
def poolPlaysWrong : ChangeSpec := { name := "poolPlays", fn := fun _ => fun
  | [d1, d2] => { results := [.lit (.bool false)], args := [d1, d2] }
  | _ => none }
def PoolPlaysWrongFalsely : Prop := poolPlaysRow.holds Tryz.pinned (OpenSpec.ofChange poolPlaysWrong)

/-- 'vicinagelaw11.PoolAreas': WHATEVER THE INPUT: true; the input reads as it did. -/
def poolAreasSpec : ChangeSpec := { name := "poolAreas", fn := fun _ => fun
  | [d1, d2, d3] => { results := [.lit (.bool true)], args := [d1, d2, d3] }
  | _ => none }
def poolAreasRow : OpenClaim := { program := "ytbpodmallknhfaagreat", sum := "4d66528213ef694e5929d4e278d9416be2a29cb143d8a2993dd0313c683df958", func := "vicinage/vicinagelaw11.PoolAreas", spec := "poolAreas", unfollowed := true, recurses := true, apart := false }
def PoolAreasSaid : Prop := poolAreasRow.holds Tryz.pinned (OpenSpec.ofChange poolAreasSpec)

/-- ITS FALSE NEIGHBOUR: 'it returns false'. Refute it at one input. -/
def poolAreasWrong : ChangeSpec := { name := "poolAreas", fn := fun _ => fun
  | [d1, d2, d3] => { results := [.lit (.bool false)], args := [d1, d2, d3] }
  | _ => none }
def PoolAreasWrongFalsely : Prop := poolAreasRow.holds Tryz.pinned (OpenSpec.ofChange poolAreasWrong)

/-- 'vicinagelaw11.PoolCrash': WHATEVER THE INPUT: true; the input reads as it did. -/
def poolCrashSpec : ChangeSpec := { name := "poolCrash", fn := fun _ => fun
  | [d1, d2, d3, d4, d5] => { results := [.lit (.bool true)], args := [d1, d2, d3, d4, d5] }
  | _ => none }
def poolCrashRow : OpenClaim := { program := "ytbpodmallknhfaagreat", sum := "4d66528213ef694e5929d4e278d9416be2a29cb143d8a2993dd0313c683df958", func := "vicinage/vicinagelaw11.PoolCrash", spec := "poolCrash", unfollowed := true, recurses := true, apart := false }
def PoolCrashSaid : Prop := poolCrashRow.holds Tryz.pinned (OpenSpec.ofChange poolCrashSpec)

/-- ITS FALSE NEIGHBOUR: 'it returns false'. Refute it at one input. -/
def poolCrashWrong : ChangeSpec := { name := "poolCrash", fn := fun _ => fun
  | [d1, d2, d3, d4, d5] => { results := [.lit (.bool false)], args := [d1, d2, d3, d4, d5] }
  | _ => none }
def PoolCrashWrongFalsely : Prop := poolCrashRow.holds Tryz.pinned (OpenSpec.ofChange poolCrashWrong)

/-- 'vicinagelaw11.PoolBack': WHATEVER THE INPUT: true; the input reads as it did. -/
def poolBackSpec : ChangeSpec := { name := "poolBack", fn := fun _ => fun
  | [d1, d2, d3] => { results := [.lit (.bool true)], args := [d1, d2, d3] }
  | _ => none }
def poolBackRow : OpenClaim := { program := "ytbpodmallknhfaagreat", sum := "4d66528213ef694e5929d4e278d9416be2a29cb143d8a2993dd0313c683df958", func := "vicinage/vicinagelaw11.PoolBack", spec := "poolBack", unfollowed := true, recurses := true, apart := false }
def PoolBackSaid : Prop := poolBackRow.holds Tryz.pinned (OpenSpec.ofChange poolBackSpec)

/-- ITS FALSE NEIGHBOUR: 'it returns false'. Refute it at one input. -/
def poolBackWrong : ChangeSpec := { name := "poolBack", fn := fun _ => fun
  | [d1, d2, d3] => { results := [.lit (.bool false)], args := [d1, d2, d3] }
  | _ => none }
def PoolBackWrongFalsely : Prop := poolBackRow.holds Tryz.pinned (OpenSpec.ofChange poolBackWrong)

/- THE SECOND FORM. 'bulk': how many values and letters a reading holds, each counted each time it is reached (what is shared counts as often as it is met; a slice's spare places count too). A statement '..UptoSaid' is the law's where the arguments, and the package variables that the reading takes, are together of bulk at most 1048576: NARROWER than '..Said'. Prove '..Said' where nothing that the law and all that it calls make is longer than what came in: it says more and counts as full. Else prove '..UptoSaid'. A law counts once. -/
mutual
def uptoBulk {H : Type} : DataW H → Nat
  | .lit (.string bytes) => bytes.length + 1
  | .lit _ => 1
  | .nil => 1
  | .ptr d => uptoBulk d + 1
  | .slice elems spare => uptoBulkAll elems + uptoBulkAll spare + 1
  | .agg parts => uptoBulkAll parts + 1
  | .iface _ d => uptoBulk d + 1
  | .map entries => uptoBulkEntries entries + 1
  | .held _ => 1
def uptoBulkAll {H : Type} : List (DataW H) → Nat
  | [] => 0
  | d :: r => uptoBulk d + uptoBulkAll r
def uptoBulkEntries {H : Type} : List (Lit × DataW H) → Nat
  | [] => 0
  | x :: r => uptoBulkEntry x + uptoBulkEntries r
def uptoBulkEntry {H : Type} : Lit × DataW H → Nat
  | (.string bytes, d) => bytes.length + uptoBulk d + 1
  | (_, d) => uptoBulk d + 1
 end
def uptoSmall : (H : Type) → List (DataW H) → Bool := fun _ ds => decide (uptoBulkAll ds ≤ 1048576)
def OpenSpec.upto (s : _root_.Go.ChangeSpec) : _root_.Go.OpenSpec := { _root_.Go.OpenSpec.ofChange s with cond := some uptoSmall }

/-- 'vicinagelaw11.PoolPlays', WHERE WHAT IT READS IS OF BULK AT MOST 1048576: true; the input reads as it did. -/
def poolPlaysUptoRow : OpenClaim := { program := "ytbpodmallknhfaagreat", sum := "4d66528213ef694e5929d4e278d9416be2a29cb143d8a2993dd0313c683df958", func := "vicinage/vicinagelaw11.PoolPlays", spec := "poolPlays", unfollowed := true, recurses := true, apart := false, narrowed := true }
def PoolPlaysUptoSaid : Prop := poolPlaysUptoRow.holds Tryz.pinned (OpenSpec.upto poolPlaysSpec)

/-- 'vicinagelaw11.PoolAreas', WHERE WHAT IT READS IS OF BULK AT MOST 1048576: true; the input reads as it did. -/
def poolAreasUptoRow : OpenClaim := { program := "ytbpodmallknhfaagreat", sum := "4d66528213ef694e5929d4e278d9416be2a29cb143d8a2993dd0313c683df958", func := "vicinage/vicinagelaw11.PoolAreas", spec := "poolAreas", unfollowed := true, recurses := true, apart := false, narrowed := true }
def PoolAreasUptoSaid : Prop := poolAreasUptoRow.holds Tryz.pinned (OpenSpec.upto poolAreasSpec)

/-- 'vicinagelaw11.PoolCrash', WHERE WHAT IT READS IS OF BULK AT MOST 1048576: true; the input reads as it did. -/
def poolCrashUptoRow : OpenClaim := { program := "ytbpodmallknhfaagreat", sum := "4d66528213ef694e5929d4e278d9416be2a29cb143d8a2993dd0313c683df958", func := "vicinage/vicinagelaw11.PoolCrash", spec := "poolCrash", unfollowed := true, recurses := true, apart := false, narrowed := true }
def PoolCrashUptoSaid : Prop := poolCrashUptoRow.holds Tryz.pinned (OpenSpec.upto poolCrashSpec)

/-- 'vicinagelaw11.PoolBack', WHERE WHAT IT READS IS OF BULK AT MOST 1048576: true; the input reads as it did. -/
def poolBackUptoRow : OpenClaim := { program := "ytbpodmallknhfaagreat", sum := "4d66528213ef694e5929d4e278d9416be2a29cb143d8a2993dd0313c683df958", func := "vicinage/vicinagelaw11.PoolBack", spec := "poolBack", unfollowed := true, recurses := true, apart := false, narrowed := true }
def PoolBackUptoSaid : Prop := poolBackUptoRow.holds Tryz.pinned (OpenSpec.upto poolBackSpec)

end Rows
end Go.Proofs.YtbpodmallknhfaaGreat
