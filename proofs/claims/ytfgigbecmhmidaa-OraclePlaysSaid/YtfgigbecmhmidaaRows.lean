/-
  No cell of these rows narrows 'for every input' (looked for: loops, veiled, ifaces, maps, wideKeys, modest, calm, conditions, laid).
  DERIVED. THE GIVEN ROWS OF THIS SEAT. 6 by the template 'for every input the law returns true; each argument reads behind the call as it read before'; 0 by the template 'total and deterministic' (their statements: YtfgigbecmhmidaaTotals.lean).
  GIVEN WITH THE SEED: the statements are not yours to turn. If you find one false, say at which input.
  Laid BY PROGRAM, IN A SANDBOX (cutbox-rows.mjs): the forced cells as the released guide's own fill.sh prints them over the translation 1cd14d6d1c10e87c… (all of the seat's roots in one cut). By AI agents, Wed Nov 11 2026. No macro, syntax, notation, axiom, sorry.
-/
import Derived.Test.YtfgigbecmhmidaaChecked
import GoSem.Claim
import GoSem.ClaimJoined
import GoSem.ClaimMapViews
import Derived.JoinedTies
import Derived.KernelRfl
namespace Go.Proofs.Ytfgigbecmhmidaa
/- THE CELL 'sum', in the pinned program and in every row, IS THE sha256 OF THE DUMP (.gsa) THAT YtfgigbecmhmidaaProg.lean LOADS. Nothing in Lean hashes anything: it is a label: what it is worth is what the hold of that sum in a sandbox is worth. -/
noncomputable def Try.pinned : Pinned := { name := "ytfgigbecmhmidaa", sum := "1cd14d6d1c10e87ca28e826144655e7c7ec177861252323c387b3f85cc354c06", checked := Try.checked }
namespace Rows
def none {H : Type} : Left H := { results := [], args := [] }

/-- 'lockboxlaw7.OraclePlays': WHATEVER THE INPUT: true; the input reads as it did. -/
def oraclePlaysSpec : ChangeSpec := { name := "oraclePlays", fn := fun _ => fun
  | [d] => { results := [.lit (.bool true)], args := [d] }
  | _ => none }
def oraclePlaysRow : OpenClaim := { program := "ytfgigbecmhmidaa", sum := "1cd14d6d1c10e87ca28e826144655e7c7ec177861252323c387b3f85cc354c06", func := "lockbox/lockboxlaw7.OraclePlays", spec := "oraclePlays", plainKeys := false, apart := false }
def OraclePlaysSaid : Prop := oraclePlaysRow.holds Try.pinned (OpenSpec.ofChange oraclePlaysSpec)

/-- ITS FALSE NEIGHBOUR: 'it returns false'. Refute it at one input. -/
def oraclePlaysWrong : ChangeSpec := { name := "oraclePlays", fn := fun _ => fun
  | [d] => { results := [.lit (.bool false)], args := [d] }
  | _ => none }
def OraclePlaysWrongFalsely : Prop := oraclePlaysRow.holds Try.pinned (OpenSpec.ofChange oraclePlaysWrong)

/-- 'lockboxlaw7.OracleOnly': WHATEVER THE INPUT: true; the input reads as it did. -/
def oracleOnlySpec : ChangeSpec := { name := "oracleOnly", fn := fun _ => fun
  | [d1, d2, d3, d4, d5, d6] => { results := [.lit (.bool true)], args := [d1, d2, d3, d4, d5, d6] }
  | _ => none }
def oracleOnlyRow : OpenClaim := { program := "ytfgigbecmhmidaa", sum := "1cd14d6d1c10e87ca28e826144655e7c7ec177861252323c387b3f85cc354c06", func := "lockbox/lockboxlaw7.OracleOnly", spec := "oracleOnly", plainKeys := false, apart := false }
def OracleOnlySaid : Prop := oracleOnlyRow.holds Try.pinned (OpenSpec.ofChange oracleOnlySpec)

/-- ITS FALSE NEIGHBOUR: 'it returns false'. Refute it at one input. -/
def oracleOnlyWrong : ChangeSpec := { name := "oracleOnly", fn := fun _ => fun
  | [d1, d2, d3, d4, d5, d6] => { results := [.lit (.bool false)], args := [d1, d2, d3, d4, d5, d6] }
  | _ => none }
def OracleOnlyWrongFalsely : Prop := oracleOnlyRow.holds Try.pinned (OpenSpec.ofChange oracleOnlyWrong)

/-- 'lockboxlaw7.OracleBlind': WHATEVER THE INPUT: true; the input reads as it did. -/
def oracleBlindSpec : ChangeSpec := { name := "oracleBlind", fn := fun _ => fun
  | [d1, d2, d3, d4] => { results := [.lit (.bool true)], args := [d1, d2, d3, d4] }
  | _ => none }
def oracleBlindRow : OpenClaim := { program := "ytfgigbecmhmidaa", sum := "1cd14d6d1c10e87ca28e826144655e7c7ec177861252323c387b3f85cc354c06", func := "lockbox/lockboxlaw7.OracleBlind", spec := "oracleBlind", plainKeys := false, apart := false }
def OracleBlindSaid : Prop := oracleBlindRow.holds Try.pinned (OpenSpec.ofChange oracleBlindSpec)

/-- ITS FALSE NEIGHBOUR: 'it returns false'. Refute it at one input. -/
def oracleBlindWrong : ChangeSpec := { name := "oracleBlind", fn := fun _ => fun
  | [d1, d2, d3, d4] => { results := [.lit (.bool false)], args := [d1, d2, d3, d4] }
  | _ => none }
def OracleBlindWrongFalsely : Prop := oracleBlindRow.holds Try.pinned (OpenSpec.ofChange oracleBlindWrong)

/-- 'lockboxlaw7.OracleSums': WHATEVER THE INPUT: true; the input reads as it did. -/
def oracleSumsSpec : ChangeSpec := { name := "oracleSums", fn := fun _ => fun
  | [d1, d2, d3] => { results := [.lit (.bool true)], args := [d1, d2, d3] }
  | _ => none }
def oracleSumsRow : OpenClaim := { program := "ytfgigbecmhmidaa", sum := "1cd14d6d1c10e87ca28e826144655e7c7ec177861252323c387b3f85cc354c06", func := "lockbox/lockboxlaw7.OracleSums", spec := "oracleSums", plainKeys := false, apart := false }
def OracleSumsSaid : Prop := oracleSumsRow.holds Try.pinned (OpenSpec.ofChange oracleSumsSpec)

/-- ITS FALSE NEIGHBOUR: 'it returns false'. Refute it at one input. -/
def oracleSumsWrong : ChangeSpec := { name := "oracleSums", fn := fun _ => fun
  | [d1, d2, d3] => { results := [.lit (.bool false)], args := [d1, d2, d3] }
  | _ => none }
def OracleSumsWrongFalsely : Prop := oracleSumsRow.holds Try.pinned (OpenSpec.ofChange oracleSumsWrong)

/-- 'lockboxlaw7.OracleOwn': WHATEVER THE INPUT: true; the input reads as it did. -/
def oracleOwnSpec : ChangeSpec := { name := "oracleOwn", fn := fun _ => fun
  | [d] => { results := [.lit (.bool true)], args := [d] }
  | _ => none }
def oracleOwnRow : OpenClaim := { program := "ytfgigbecmhmidaa", sum := "1cd14d6d1c10e87ca28e826144655e7c7ec177861252323c387b3f85cc354c06", func := "lockbox/lockboxlaw7.OracleOwn", spec := "oracleOwn", plainKeys := false, apart := false }
def OracleOwnSaid : Prop := oracleOwnRow.holds Try.pinned (OpenSpec.ofChange oracleOwnSpec)

/-- ITS FALSE NEIGHBOUR: 'it returns false'. Refute it at one input. -/
def oracleOwnWrong : ChangeSpec := { name := "oracleOwn", fn := fun _ => fun
  | [d] => { results := [.lit (.bool false)], args := [d] }
  | _ => none }
def OracleOwnWrongFalsely : Prop := oracleOwnRow.holds Try.pinned (OpenSpec.ofChange oracleOwnWrong)

/-- 'lockboxlaw7.OracleMany': WHATEVER THE INPUT: true; the input reads as it did. -/
def oracleManySpec : ChangeSpec := { name := "oracleMany", fn := fun _ => fun
  | [d1, d2] => { results := [.lit (.bool true)], args := [d1, d2] }
  | _ => none }
def oracleManyRow : OpenClaim := { program := "ytfgigbecmhmidaa", sum := "1cd14d6d1c10e87ca28e826144655e7c7ec177861252323c387b3f85cc354c06", func := "lockbox/lockboxlaw7.OracleMany", spec := "oracleMany", plainKeys := false, apart := false }
def OracleManySaid : Prop := oracleManyRow.holds Try.pinned (OpenSpec.ofChange oracleManySpec)

/-- ITS FALSE NEIGHBOUR: 'it returns false'. Refute it at one input. -/
def oracleManyWrong : ChangeSpec := { name := "oracleMany", fn := fun _ => fun
  | [d1, d2] => { results := [.lit (.bool false)], args := [d1, d2] }
  | _ => none }
def OracleManyWrongFalsely : Prop := oracleManyRow.holds Try.pinned (OpenSpec.ofChange oracleManyWrong)

/- THE SECOND FORM. 'bulk': how many values and letters a reading holds, each counted each time it is reached (what is shared counts as often as it is met; a slice's spare places count too). A statement '..UptoSaid' is the law's where the arguments, and the package variables that the reading takes, are together of bulk at most 1048576: NARROWER than '..Said'. Prove '..Said' where nothing that the law and all that it calls make is longer than what came in: it says more and counts as full. Else prove '..UptoSaid'. A law counts once. -/
mutual
def uptoBulk {H : Type} : DataW H → Nat
  | .lit (.string bytes) => bytes.length + 1
  | .lit _ => 1
  | .nil => 1
  | .ptr d => uptoBulk d + 1
  | .slice elems spare => uptoBulkAll elems + uptoBulkAll spare + 1
  | .agg parts => uptoBulkAll parts + 1
  | .iface _ d => uptoBulk d + 1
  | .map entries => uptoBulkEntries entries + 1
  | .held _ => 1
def uptoBulkAll {H : Type} : List (DataW H) → Nat
  | [] => 0
  | d :: r => uptoBulk d + uptoBulkAll r
def uptoBulkEntries {H : Type} : List (Lit × DataW H) → Nat
  | [] => 0
  | x :: r => uptoBulkEntry x + uptoBulkEntries r
def uptoBulkEntry {H : Type} : Lit × DataW H → Nat
  | (.string bytes, d) => bytes.length + uptoBulk d + 1
  | (_, d) => uptoBulk d + 1
 end
def uptoSmall : (H : Type) → List (DataW H) → Bool := fun _ ds => decide (uptoBulkAll ds ≤ 1048576)
def OpenSpec.upto (s : _root_.Go.ChangeSpec) : _root_.Go.OpenSpec := { _root_.Go.OpenSpec.ofChange s with cond := some uptoSmall }

/-- 'lockboxlaw7.OraclePlays', WHERE WHAT IT READS IS OF BULK AT MOST 1048576: true; the input reads as it did. -/
def oraclePlaysUptoRow : OpenClaim := { program := "ytfgigbecmhmidaa", sum := "1cd14d6d1c10e87ca28e826144655e7c7ec177861252323c387b3f85cc354c06", func := "lockbox/lockboxlaw7.OraclePlays", spec := "oraclePlays", plainKeys := false, apart := false, narrowed := true }
def OraclePlaysUptoSaid : Prop := oraclePlaysUptoRow.holds Try.pinned (OpenSpec.upto oraclePlaysSpec)

/-- 'lockboxlaw7.OracleOnly', WHERE WHAT IT READS IS OF BULK AT MOST 1048576: true; the input reads as it did. -/
def oracleOnlyUptoRow : OpenClaim := { program := "ytfgigbecmhmidaa", sum := "1cd14d6d1c10e87ca28e826144655e7c7ec177861252323c387b3f85cc354c06", func := "lockbox/lockboxlaw7.OracleOnly", spec := "oracleOnly", plainKeys := false, apart := false, narrowed := true }
def OracleOnlyUptoSaid : Prop := oracleOnlyUptoRow.holds Try.pinned (OpenSpec.upto oracleOnlySpec)

/-- 'lockboxlaw7.OracleBlind', WHERE WHAT IT READS IS OF BULK AT MOST 1048576: true; the input reads as it did. -/
def oracleBlindUptoRow : OpenClaim := { program := "ytfgigbecmhmidaa", sum := "1cd14d6d1c10e87ca28e826144655e7c7ec177861252323c387b3f85cc354c06", func := "lockbox/lockboxlaw7.OracleBlind", spec := "oracleBlind", plainKeys := false, apart := false, narrowed := true }
def OracleBlindUptoSaid : Prop := oracleBlindUptoRow.holds Try.pinned (OpenSpec.upto oracleBlindSpec)

/-- 'lockboxlaw7.OracleSums', WHERE WHAT IT READS IS OF BULK AT MOST 1048576: true; the input reads as it did. -/
def oracleSumsUptoRow : OpenClaim := { program := "ytfgigbecmhmidaa", sum := "1cd14d6d1c10e87ca28e826144655e7c7ec177861252323c387b3f85cc354c06", func := "lockbox/lockboxlaw7.OracleSums", spec := "oracleSums", plainKeys := false, apart := false, narrowed := true }
def OracleSumsUptoSaid : Prop := oracleSumsUptoRow.holds Try.pinned (OpenSpec.upto oracleSumsSpec)

/-- 'lockboxlaw7.OracleOwn', WHERE WHAT IT READS IS OF BULK AT MOST 1048576: true; the input reads as it did. -/
def oracleOwnUptoRow : OpenClaim := { program := "ytfgigbecmhmidaa", sum := "1cd14d6d1c10e87ca28e826144655e7c7ec177861252323c387b3f85cc354c06", func := "lockbox/lockboxlaw7.OracleOwn", spec := "oracleOwn", plainKeys := false, apart := false, narrowed := true }
def OracleOwnUptoSaid : Prop := oracleOwnUptoRow.holds Try.pinned (OpenSpec.upto oracleOwnSpec)

/-- 'lockboxlaw7.OracleMany', WHERE WHAT IT READS IS OF BULK AT MOST 1048576: true; the input reads as it did. -/
def oracleManyUptoRow : OpenClaim := { program := "ytfgigbecmhmidaa", sum := "1cd14d6d1c10e87ca28e826144655e7c7ec177861252323c387b3f85cc354c06", func := "lockbox/lockboxlaw7.OracleMany", spec := "oracleMany", plainKeys := false, apart := false, narrowed := true }
def OracleManyUptoSaid : Prop := oracleManyUptoRow.holds Try.pinned (OpenSpec.upto oracleManySpec)

end Rows
end Go.Proofs.Ytfgigbecmhmidaa
