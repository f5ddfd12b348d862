/-
  No cell of these rows narrows 'for every input' (looked for: loops, veiled, ifaces, maps, wideKeys, modest, calm, conditions, laid).
  DERIVED. THE GIVEN ROWS OF THIS SEAT. 6 by the template 'for every input the law returns true; each argument reads behind the call as it read before'; 0 by the template 'total and deterministic' (their statements: YtkbhkgfchiacbaaTotals.lean).
  GIVEN WITH THE SEED: the statements are not yours to turn. If you find one false, say at which input.
  Laid BY PROGRAM, IN A SANDBOX (cutbox-rows.mjs): the forced cells as the released guide's own fill.sh prints them over the translation 9fbaffdce0014539… (all of the seat's roots in one cut). By AI agents, Wed Nov 11 2026. No macro, syntax, notation, axiom, sorry.
-/
import Derived.Test.YtkbhkgfchiacbaaChecked
import GoSem.Claim
import GoSem.ClaimJoined
import GoSem.ClaimMapViews
import Derived.JoinedTies
import Derived.KernelRfl
namespace Go.Proofs.Ytkbhkgfchiacbaa
/- THE CELL 'sum', in the pinned program and in every row, IS THE sha256 OF THE DUMP (.gsa) THAT YtkbhkgfchiacbaaProg.lean LOADS. Nothing in Lean hashes anything: it is a label: what it is worth is what the hold of that sum in a sandbox is worth. -/
noncomputable def Try.pinned : Pinned := { name := "ytkbhkgfchiacbaa", sum := "9fbaffdce001453937af5c6439a45fa12270a668c419bc49fb63c4c4e0405207", checked := Try.checked }
namespace Rows
def none {H : Type} : Left H := { results := [], args := [] }

/-- 'lockboxlaw18.TreeBuilds': WHATEVER THE INPUT: true; the input reads as it did. -/
def treeBuildsSpec : ChangeSpec := { name := "treeBuilds", fn := fun _ => fun
  | [d1, d2] => { results := [.lit (.bool true)], args := [d1, d2] }
  | _ => none }
def treeBuildsRow : OpenClaim := { program := "ytkbhkgfchiacbaa", sum := "9fbaffdce001453937af5c6439a45fa12270a668c419bc49fb63c4c4e0405207", func := "lockbox/lockboxlaw18.TreeBuilds", spec := "treeBuilds", unfollowed := true, recurses := true, plainKeys := false, apart := false }
def TreeBuildsSaid : Prop := treeBuildsRow.holds Try.pinned (OpenSpec.ofChange treeBuildsSpec)

/-- ITS FALSE NEIGHBOUR: 'it returns false'. Refute it at one input. -/
def treeBuildsWrong : ChangeSpec := { name := "treeBuilds", fn := fun _ => fun
  | [d1, d2] => { results := [.lit (.bool false)], args := [d1, d2] }
  | _ => none }
def TreeBuildsWrongFalsely : Prop := treeBuildsRow.holds Try.pinned (OpenSpec.ofChange treeBuildsWrong)

/-- 'lockboxlaw18.TreeTurns': WHATEVER THE INPUT: true; the input reads as it did. -/
def treeTurnsSpec : ChangeSpec := { name := "treeTurns", fn := fun _ => fun
  | [d1, d2, d3, d4] => { results := [.lit (.bool true)], args := [d1, d2, d3, d4] }
  | _ => none }
def treeTurnsRow : OpenClaim := { program := "ytkbhkgfchiacbaa", sum := "9fbaffdce001453937af5c6439a45fa12270a668c419bc49fb63c4c4e0405207", func := "lockbox/lockboxlaw18.TreeTurns", spec := "treeTurns", unfollowed := true, recurses := true, plainKeys := false, apart := false }
def TreeTurnsSaid : Prop := treeTurnsRow.holds Try.pinned (OpenSpec.ofChange treeTurnsSpec)

/-- ITS FALSE NEIGHBOUR: 'it returns false'. Refute it at one input. -/
def treeTurnsWrong : ChangeSpec := { name := "treeTurns", fn := fun _ => fun
  | [d1, d2, d3, d4] => { results := [.lit (.bool false)], args := [d1, d2, d3, d4] }
  | _ => none }
def TreeTurnsWrongFalsely : Prop := treeTurnsRow.holds Try.pinned (OpenSpec.ofChange treeTurnsWrong)

/-- 'lockboxlaw18.TreeAgain': WHATEVER THE INPUT: true; the input reads as it did. -/
def treeAgainSpec : ChangeSpec := { name := "treeAgain", fn := fun _ => fun
  | [d1, d2, d3] => { results := [.lit (.bool true)], args := [d1, d2, d3] }
  | _ => none }
def treeAgainRow : OpenClaim := { program := "ytkbhkgfchiacbaa", sum := "9fbaffdce001453937af5c6439a45fa12270a668c419bc49fb63c4c4e0405207", func := "lockbox/lockboxlaw18.TreeAgain", spec := "treeAgain", unfollowed := true, recurses := true, plainKeys := false, apart := false }
def TreeAgainSaid : Prop := treeAgainRow.holds Try.pinned (OpenSpec.ofChange treeAgainSpec)

/-- ITS FALSE NEIGHBOUR: 'it returns false'. Refute it at one input. -/
def treeAgainWrong : ChangeSpec := { name := "treeAgain", fn := fun _ => fun
  | [d1, d2, d3] => { results := [.lit (.bool false)], args := [d1, d2, d3] }
  | _ => none }
def TreeAgainWrongFalsely : Prop := treeAgainRow.holds Try.pinned (OpenSpec.ofChange treeAgainWrong)

/-- 'lockboxlaw18.TreeTops': WHATEVER THE INPUT: true; the input reads as it did. -/
def treeTopsSpec : ChangeSpec := { name := "treeTops", fn := fun _ => fun
  | [d1, d2] => { results := [.lit (.bool true)], args := [d1, d2] }
  | _ => none }
def treeTopsRow : OpenClaim := { program := "ytkbhkgfchiacbaa", sum := "9fbaffdce001453937af5c6439a45fa12270a668c419bc49fb63c4c4e0405207", func := "lockbox/lockboxlaw18.TreeTops", spec := "treeTops", unfollowed := true, recurses := true, plainKeys := false, apart := false }
def TreeTopsSaid : Prop := treeTopsRow.holds Try.pinned (OpenSpec.ofChange treeTopsSpec)

/-- ITS FALSE NEIGHBOUR: 'it returns false'. Refute it at one input. -/
def treeTopsWrong : ChangeSpec := { name := "treeTops", fn := fun _ => fun
  | [d1, d2] => { results := [.lit (.bool false)], args := [d1, d2] }
  | _ => none }
def TreeTopsWrongFalsely : Prop := treeTopsRow.holds Try.pinned (OpenSpec.ofChange treeTopsWrong)

/-- 'lockboxlaw18.TreeHalves': WHATEVER THE INPUT: true; the input reads as it did. -/
def treeHalvesSpec : ChangeSpec := { name := "treeHalves", fn := fun _ => fun
  | [d1, d2] => { results := [.lit (.bool true)], args := [d1, d2] }
  | _ => none }
def treeHalvesRow : OpenClaim := { program := "ytkbhkgfchiacbaa", sum := "9fbaffdce001453937af5c6439a45fa12270a668c419bc49fb63c4c4e0405207", func := "lockbox/lockboxlaw18.TreeHalves", spec := "treeHalves", unfollowed := true, recurses := true, plainKeys := false, apart := false }
def TreeHalvesSaid : Prop := treeHalvesRow.holds Try.pinned (OpenSpec.ofChange treeHalvesSpec)

/-- ITS FALSE NEIGHBOUR: 'it returns false'. Refute it at one input. -/
def treeHalvesWrong : ChangeSpec := { name := "treeHalves", fn := fun _ => fun
  | [d1, d2] => { results := [.lit (.bool false)], args := [d1, d2] }
  | _ => none }
def TreeHalvesWrongFalsely : Prop := treeHalvesRow.holds Try.pinned (OpenSpec.ofChange treeHalvesWrong)

/-- 'lockboxlaw18.TreeOdd': WHATEVER THE INPUT: true; the input reads as it did. -/
def treeOddSpec : ChangeSpec := { name := "treeOdd", fn := fun _ => fun
  | [d1, d2] => { results := [.lit (.bool true)], args := [d1, d2] }
  | _ => none }
def treeOddRow : OpenClaim := { program := "ytkbhkgfchiacbaa", sum := "9fbaffdce001453937af5c6439a45fa12270a668c419bc49fb63c4c4e0405207", func := "lockbox/lockboxlaw18.TreeOdd", spec := "treeOdd", unfollowed := true, recurses := true, plainKeys := false, apart := false }
def TreeOddSaid : Prop := treeOddRow.holds Try.pinned (OpenSpec.ofChange treeOddSpec)

/-- ITS FALSE NEIGHBOUR: 'it returns false'. Refute it at one input. -/
def treeOddWrong : ChangeSpec := { name := "treeOdd", fn := fun _ => fun
  | [d1, d2] => { results := [.lit (.bool false)], args := [d1, d2] }
  | _ => none }
def TreeOddWrongFalsely : Prop := treeOddRow.holds Try.pinned (OpenSpec.ofChange treeOddWrong)

/- THE SECOND FORM. 'bulk': how many values and letters a reading holds, each counted each time it is reached (what is shared counts as often as it is met; a slice's spare places count too). A statement '..UptoSaid' is the law's where the arguments, and the package variables that the reading takes, are together of bulk at most 1048576: NARROWER than '..Said'. Prove '..Said' where nothing that the law and all that it calls make is longer than what came in: it says more and counts as full. Else prove '..UptoSaid'. A law counts once. -/
mutual
def uptoBulk {H : Type} : DataW H → Nat
  | .lit (.string bytes) => bytes.length + 1
  | .lit _ => 1
  | .nil => 1
  | .ptr d => uptoBulk d + 1
  | .slice elems spare => uptoBulkAll elems + uptoBulkAll spare + 1
  | .agg parts => uptoBulkAll parts + 1
  | .iface _ d => uptoBulk d + 1
  | .map entries => uptoBulkEntries entries + 1
  | .held _ => 1
def uptoBulkAll {H : Type} : List (DataW H) → Nat
  | [] => 0
  | d :: r => uptoBulk d + uptoBulkAll r
def uptoBulkEntries {H : Type} : List (Lit × DataW H) → Nat
  | [] => 0
  | x :: r => uptoBulkEntry x + uptoBulkEntries r
def uptoBulkEntry {H : Type} : Lit × DataW H → Nat
  | (.string bytes, d) => bytes.length + uptoBulk d + 1
  | (_, d) => uptoBulk d + 1
 end
def uptoSmall : (H : Type) → List (DataW H) → Bool := fun _ ds => decide (uptoBulkAll ds ≤ 1048576)
def OpenSpec.upto (s : _root_.Go.ChangeSpec) : _root_.Go.OpenSpec := { _root_.Go.OpenSpec.ofChange s with cond := some uptoSmall }

/-- 'lockboxlaw18.TreeBuilds', WHERE WHAT IT READS IS OF BULK AT MOST 1048576: true; the input reads as it did. -/
def treeBuildsUptoRow : OpenClaim := { program := "ytkbhkgfchiacbaa", sum := "9fbaffdce001453937af5c6439a45fa12270a668c419bc49fb63c4c4e0405207", func := "lockbox/lockboxlaw18.TreeBuilds", spec := "treeBuilds", unfollowed := true, recurses := true, plainKeys := false, apart := false, narrowed := true }
def TreeBuildsUptoSaid : Prop := treeBuildsUptoRow.holds Try.pinned (OpenSpec.upto treeBuildsSpec)

/-- 'lockboxlaw18.TreeTurns', WHERE WHAT IT READS IS OF BULK AT MOST 1048576: true; the input reads as it did. -/
def treeTurnsUptoRow : OpenClaim := { program := "ytkbhkgfchiacbaa", sum := "9fbaffdce001453937af5c6439a45fa12270a668c419bc49fb63c4c4e0405207", func := "lockbox/lockboxlaw18.TreeTurns", spec := "treeTurns", unfollowed := true, recurses := true, plainKeys := false, apart := false, narrowed := true }
def TreeTurnsUptoSaid : Prop := treeTurnsUptoRow.holds Try.pinned (OpenSpec.upto treeTurnsSpec)

/-- 'lockboxlaw18.TreeAgain', WHERE WHAT IT READS IS OF BULK AT MOST 1048576: true; the input reads as it did. -/
def treeAgainUptoRow : OpenClaim := { program := "ytkbhkgfchiacbaa", sum := "9fbaffdce001453937af5c6439a45fa12270a668c419bc49fb63c4c4e0405207", func := "lockbox/lockboxlaw18.TreeAgain", spec := "treeAgain", unfollowed := true, recurses := true, plainKeys := false, apart := false, narrowed := true }
def TreeAgainUptoSaid : Prop := treeAgainUptoRow.holds Try.pinned (OpenSpec.upto treeAgainSpec)

/-- 'lockboxlaw18.TreeTops', WHERE WHAT IT READS IS OF BULK AT MOST 1048576: true; the input reads as it did. -/
def treeTopsUptoRow : OpenClaim := { program := "ytkbhkgfchiacbaa", sum := "9fbaffdce001453937af5c6439a45fa12270a668c419bc49fb63c4c4e0405207", func := "lockbox/lockboxlaw18.TreeTops", spec := "treeTops", unfollowed := true, recurses := true, plainKeys := false, apart := false, narrowed := true }
def TreeTopsUptoSaid : Prop := treeTopsUptoRow.holds Try.pinned (OpenSpec.upto treeTopsSpec)

/-- 'lockboxlaw18.TreeHalves', WHERE WHAT IT READS IS OF BULK AT MOST 1048576: true; the input reads as it did. -/
def treeHalvesUptoRow : OpenClaim := { program := "ytkbhkgfchiacbaa", sum := "9fbaffdce001453937af5c6439a45fa12270a668c419bc49fb63c4c4e0405207", func := "lockbox/lockboxlaw18.TreeHalves", spec := "treeHalves", unfollowed := true, recurses := true, plainKeys := false, apart := false, narrowed := true }
def TreeHalvesUptoSaid : Prop := treeHalvesUptoRow.holds Try.pinned (OpenSpec.upto treeHalvesSpec)

/-- 'lockboxlaw18.TreeOdd', WHERE WHAT IT READS IS OF BULK AT MOST 1048576: true; the input reads as it did. -/
def treeOddUptoRow : OpenClaim := { program := "ytkbhkgfchiacbaa", sum := "9fbaffdce001453937af5c6439a45fa12270a668c419bc49fb63c4c4e0405207", func := "lockbox/lockboxlaw18.TreeOdd", spec := "treeOdd", unfollowed := true, recurses := true, plainKeys := false, apart := false, narrowed := true }
def TreeOddUptoSaid : Prop := treeOddUptoRow.holds Try.pinned (OpenSpec.upto treeOddSpec)

end Rows
end Go.Proofs.Ytkbhkgfchiacbaa
