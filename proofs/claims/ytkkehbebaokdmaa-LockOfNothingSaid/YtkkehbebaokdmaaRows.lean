/-
  No cell of these rows narrows 'for every input' (looked for: loops, veiled, ifaces, maps, wideKeys, modest, calm, conditions, laid).
  DERIVED. THE GIVEN ROWS OF THIS SEAT. 5 by the template 'for every input the law returns true; each argument reads behind the call as it read before'; 0 by the template 'total and deterministic' (their statements: YtkkehbebaokdmaaTotals.lean).
  GIVEN WITH THE SEED: the statements are not yours to turn. If you find one false, say at which input.
  Laid BY PROGRAM, IN A SANDBOX (cutbox-rows.mjs): the forced cells as the released guide's own fill.sh prints them over the translation 1bf9b9b9b570093b… (all of the seat's roots in one cut). By AI agents, Wed Nov 11 2026. No macro, syntax, notation, axiom, sorry.
-/
import Derived.Test.YtkkehbebaokdmaaChecked
import GoSem.Claim
import GoSem.ClaimJoined
import GoSem.ClaimMapViews
import Derived.JoinedTies
import Derived.KernelRfl
namespace Go.Proofs.Ytkkehbebaokdmaa
/- THE CELL 'sum', in the pinned program and in every row, IS THE sha256 OF THE DUMP (.gsa) THAT YtkkehbebaokdmaaProg.lean LOADS. Nothing in Lean hashes anything: it is a label: what it is worth is what the hold of that sum in a sandbox is worth. -/
noncomputable def Try.pinned : Pinned := { name := "ytkkehbebaokdmaa", sum := "1bf9b9b9b570093b5922cb2c95a80f8ea652da75f58b0547f5bc4d7eac4aeea0", checked := Try.checked }
namespace Rows
def none {H : Type} : Left H := { results := [], args := [] }

/-- 'lockboxlaw8.LockPlays': WHATEVER THE INPUT: true; the input reads as it did. -/
def lockPlaysSpec : ChangeSpec := { name := "lockPlays", fn := fun _ => fun
  | [d1, d2] => { results := [.lit (.bool true)], args := [d1, d2] }
  | _ => none }
def lockPlaysRow : OpenClaim := { program := "ytkkehbebaokdmaa", sum := "1bf9b9b9b570093b5922cb2c95a80f8ea652da75f58b0547f5bc4d7eac4aeea0", func := "lockbox/lockboxlaw8.LockPlays", spec := "lockPlays", unfollowed := true, recurses := true, plainKeys := false, apart := false }
def LockPlaysSaid : Prop := lockPlaysRow.holds Try.pinned (OpenSpec.ofChange lockPlaysSpec)

/-- ITS FALSE NEIGHBOUR: 'it returns false'. Refute it at one input. -/
def lockPlaysWrong : ChangeSpec := { name := "lockPlays", fn := fun _ => fun
  | [d1, d2] => { results := [.lit (.bool false)], args := [d1, d2] }
  | _ => none }
def LockPlaysWrongFalsely : Prop := lockPlaysRow.holds Try.pinned (OpenSpec.ofChange lockPlaysWrong)

/-- 'lockboxlaw8.LockBack': WHATEVER THE INPUT: true; the input reads as it did. -/
def lockBackSpec : ChangeSpec := { name := "lockBack", fn := fun _ => fun
  | [d1, d2, d3, d4, d5] => { results := [.lit (.bool true)], args := [d1, d2, d3, d4, d5] }
  | _ => none }
def lockBackRow : OpenClaim := { program := "ytkkehbebaokdmaa", sum := "1bf9b9b9b570093b5922cb2c95a80f8ea652da75f58b0547f5bc4d7eac4aeea0", func := "lockbox/lockboxlaw8.LockBack", spec := "lockBack", unfollowed := true, recurses := true, plainKeys := false, apart := false }
def LockBackSaid : Prop := lockBackRow.holds Try.pinned (OpenSpec.ofChange lockBackSpec)

/-- ITS FALSE NEIGHBOUR: 'it returns false'. Refute it at one input. -/
def lockBackWrong : ChangeSpec := { name := "lockBack", fn := fun _ => fun
  | [d1, d2, d3, d4, d5] => { results := [.lit (.bool false)], args := [d1, d2, d3, d4, d5] }
  | _ => none }
def LockBackWrongFalsely : Prop := lockBackRow.holds Try.pinned (OpenSpec.ofChange lockBackWrong)

/-- 'lockboxlaw8.LockTwice': WHATEVER THE INPUT: true; the input reads as it did. -/
def lockTwiceSpec : ChangeSpec := { name := "lockTwice", fn := fun _ => fun
  | [d1, d2, d3, d4] => { results := [.lit (.bool true)], args := [d1, d2, d3, d4] }
  | _ => none }
def lockTwiceRow : OpenClaim := { program := "ytkkehbebaokdmaa", sum := "1bf9b9b9b570093b5922cb2c95a80f8ea652da75f58b0547f5bc4d7eac4aeea0", func := "lockbox/lockboxlaw8.LockTwice", spec := "lockTwice", unfollowed := true, recurses := true, plainKeys := false, apart := false }
def LockTwiceSaid : Prop := lockTwiceRow.holds Try.pinned (OpenSpec.ofChange lockTwiceSpec)

/-- ITS FALSE NEIGHBOUR: 'it returns false'. Refute it at one input. -/
def lockTwiceWrong : ChangeSpec := { name := "lockTwice", fn := fun _ => fun
  | [d1, d2, d3, d4] => { results := [.lit (.bool false)], args := [d1, d2, d3, d4] }
  | _ => none }
def LockTwiceWrongFalsely : Prop := lockTwiceRow.holds Try.pinned (OpenSpec.ofChange lockTwiceWrong)

/-- 'lockboxlaw8.LockOfNothing': WHATEVER THE INPUT: true; the input reads as it did. -/
def lockOfNothingSpec : ChangeSpec := { name := "lockOfNothing", fn := fun _ => fun
  | [d] => { results := [.lit (.bool true)], args := [d] }
  | _ => none }
def lockOfNothingRow : OpenClaim := { program := "ytkkehbebaokdmaa", sum := "1bf9b9b9b570093b5922cb2c95a80f8ea652da75f58b0547f5bc4d7eac4aeea0", func := "lockbox/lockboxlaw8.LockOfNothing", spec := "lockOfNothing", unfollowed := true, recurses := true, plainKeys := false, apart := false }
def LockOfNothingSaid : Prop := lockOfNothingRow.holds Try.pinned (OpenSpec.ofChange lockOfNothingSpec)

/-- ITS FALSE NEIGHBOUR: 'it returns false'. Refute it at one input. -/
def lockOfNothingWrong : ChangeSpec := { name := "lockOfNothing", fn := fun _ => fun
  | [d] => { results := [.lit (.bool false)], args := [d] }
  | _ => none }
def LockOfNothingWrongFalsely : Prop := lockOfNothingRow.holds Try.pinned (OpenSpec.ofChange lockOfNothingWrong)

/-- 'lockboxlaw8.LockReal': WHATEVER THE INPUT: true; the input reads as it did. -/
def lockRealSpec : ChangeSpec := { name := "lockReal", fn := fun _ => fun
  | [d1, d2, d3, d4, d5] => { results := [.lit (.bool true)], args := [d1, d2, d3, d4, d5] }
  | _ => none }
def lockRealRow : OpenClaim := { program := "ytkkehbebaokdmaa", sum := "1bf9b9b9b570093b5922cb2c95a80f8ea652da75f58b0547f5bc4d7eac4aeea0", func := "lockbox/lockboxlaw8.LockReal", spec := "lockReal", unfollowed := true, recurses := true, plainKeys := false, apart := false }
def LockRealSaid : Prop := lockRealRow.holds Try.pinned (OpenSpec.ofChange lockRealSpec)

/-- ITS FALSE NEIGHBOUR: 'it returns false'. Refute it at one input. -/
def lockRealWrong : ChangeSpec := { name := "lockReal", fn := fun _ => fun
  | [d1, d2, d3, d4, d5] => { results := [.lit (.bool false)], args := [d1, d2, d3, d4, d5] }
  | _ => none }
def LockRealWrongFalsely : Prop := lockRealRow.holds Try.pinned (OpenSpec.ofChange lockRealWrong)

/- THE SECOND FORM. 'bulk': how many values and letters a reading holds, each counted each time it is reached (what is shared counts as often as it is met; a slice's spare places count too). A statement '..UptoSaid' is the law's where the arguments, and the package variables that the reading takes, are together of bulk at most 1048576: NARROWER than '..Said'. Prove '..Said' where nothing that the law and all that it calls make is longer than what came in: it says more and counts as full. Else prove '..UptoSaid'. A law counts once. -/
mutual
def uptoBulk {H : Type} : DataW H → Nat
  | .lit (.string bytes) => bytes.length + 1
  | .lit _ => 1
  | .nil => 1
  | .ptr d => uptoBulk d + 1
  | .slice elems spare => uptoBulkAll elems + uptoBulkAll spare + 1
  | .agg parts => uptoBulkAll parts + 1
  | .iface _ d => uptoBulk d + 1
  | .map entries => uptoBulkEntries entries + 1
  | .held _ => 1
def uptoBulkAll {H : Type} : List (DataW H) → Nat
  | [] => 0
  | d :: r => uptoBulk d + uptoBulkAll r
def uptoBulkEntries {H : Type} : List (Lit × DataW H) → Nat
  | [] => 0
  | x :: r => uptoBulkEntry x + uptoBulkEntries r
def uptoBulkEntry {H : Type} : Lit × DataW H → Nat
  | (.string bytes, d) => bytes.length + uptoBulk d + 1
  | (_, d) => uptoBulk d + 1
 end
def uptoSmall : (H : Type) → List (DataW H) → Bool := fun _ ds => decide (uptoBulkAll ds ≤ 1048576)
def OpenSpec.upto (s : _root_.Go.ChangeSpec) : _root_.Go.OpenSpec := { _root_.Go.OpenSpec.ofChange s with cond := some uptoSmall }

/-- 'lockboxlaw8.LockPlays', WHERE WHAT IT READS IS OF BULK AT MOST 1048576: true; the input reads as it did. -/
def lockPlaysUptoRow : OpenClaim := { program := "ytkkehbebaokdmaa", sum := "1bf9b9b9b570093b5922cb2c95a80f8ea652da75f58b0547f5bc4d7eac4aeea0", func := "lockbox/lockboxlaw8.LockPlays", spec := "lockPlays", unfollowed := true, recurses := true, plainKeys := false, apart := false, narrowed := true }
def LockPlaysUptoSaid : Prop := lockPlaysUptoRow.holds Try.pinned (OpenSpec.upto lockPlaysSpec)

/-- 'lockboxlaw8.LockBack', WHERE WHAT IT READS IS OF BULK AT MOST 1048576: true; the input reads as it did. -/
def lockBackUptoRow : OpenClaim := { program := "ytkkehbebaokdmaa", sum := "1bf9b9b9b570093b5922cb2c95a80f8ea652da75f58b0547f5bc4d7eac4aeea0", func := "lockbox/lockboxlaw8.LockBack", spec := "lockBack", unfollowed := true, recurses := true, plainKeys := false, apart := false, narrowed := true }
def LockBackUptoSaid : Prop := lockBackUptoRow.holds Try.pinned (OpenSpec.upto lockBackSpec)

/-- 'lockboxlaw8.LockTwice', WHERE WHAT IT READS IS OF BULK AT MOST 1048576: true; the input reads as it did. -/
def lockTwiceUptoRow : OpenClaim := { program := "ytkkehbebaokdmaa", sum := "1bf9b9b9b570093b5922cb2c95a80f8ea652da75f58b0547f5bc4d7eac4aeea0", func := "lockbox/lockboxlaw8.LockTwice", spec := "lockTwice", unfollowed := true, recurses := true, plainKeys := false, apart := false, narrowed := true }
def LockTwiceUptoSaid : Prop := lockTwiceUptoRow.holds Try.pinned (OpenSpec.upto lockTwiceSpec)

/-- 'lockboxlaw8.LockOfNothing', WHERE WHAT IT READS IS OF BULK AT MOST 1048576: true; the input reads as it did. -/
def lockOfNothingUptoRow : OpenClaim := { program := "ytkkehbebaokdmaa", sum := "1bf9b9b9b570093b5922cb2c95a80f8ea652da75f58b0547f5bc4d7eac4aeea0", func := "lockbox/lockboxlaw8.LockOfNothing", spec := "lockOfNothing", unfollowed := true, recurses := true, plainKeys := false, apart := false, narrowed := true }
def LockOfNothingUptoSaid : Prop := lockOfNothingUptoRow.holds Try.pinned (OpenSpec.upto lockOfNothingSpec)

/-- 'lockboxlaw8.LockReal', WHERE WHAT IT READS IS OF BULK AT MOST 1048576: true; the input reads as it did. -/
def lockRealUptoRow : OpenClaim := { program := "ytkkehbebaokdmaa", sum := "1bf9b9b9b570093b5922cb2c95a80f8ea652da75f58b0547f5bc4d7eac4aeea0", func := "lockbox/lockboxlaw8.LockReal", spec := "lockReal", unfollowed := true, recurses := true, plainKeys := false, apart := false, narrowed := true }
def LockRealUptoSaid : Prop := lockRealUptoRow.holds Try.pinned (OpenSpec.upto lockRealSpec)

end Rows
end Go.Proofs.Ytkkehbebaokdmaa
