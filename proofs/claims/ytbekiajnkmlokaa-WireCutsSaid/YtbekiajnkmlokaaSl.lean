/- Two cuts of a slice of bytes whose address is anything. -/
import Derived.Test.YtbekiajnkmlokaaCut
namespace Go.Proofs.Ytbekiajnkmlokaa
open Go.RowKit

/-- Where a slice begins behind its first s elements. -/
def nextA (a : Option Addr) (cap s : Nat) : Option Addr := if cap = s then a else a.map (·.add s)

theorem Try.size5 : (Try.prog.info? 5).map (·.size) = some 1 := by kernel_rfl
theorem size5 (w : World) : (sizeOf 5).run Try.prog w = .ok 1 w := by
  have := Try.size5
  cases h : Try.prog.info? 5 with
  | none => rw [h] at this; simp at this
  | some i => rw [h] at this; simp at this; simp [sizeOf, typeInfo, h, this]

theorem sl_head (a : Option Addr) (len cap s : Nat) (h : s ≤ cap) (w : World) : (Instr.slice 23 (.slice a len cap) none (some (.int .i64 s)) none).run Try.prog w = .ok (.slice a s cap) w := by
  have e : (if cap = 0 then a else a.map (·.add 0)) = a := by
    split
    · rfl
    · cases a <;> simp [Addr.add]
  have hi : (asIntOf (.int .i64 s)).run Try.prog w = .ok (.i64, (s : Int)) w := rfl
  simp only [Instr.slice, Sem.run_bind, run_underlying Try.underlying23, Result.andThen_ok, size5]
  simp [Instr.sliceBounds, Instr.sliceBound, Sem.run_bind, Sem.run_pure, hi, h, e]
theorem sl_tail (a : Option Addr) (len cap s : Nat) (h : s ≤ len) (w : World) : (Instr.slice 23 (.slice a len cap) (some (.int .i64 s)) none none).run Try.prog w = .ok (.slice (nextA a cap s) (len - s) (cap - s)) w := by
  have hi : (asIntOf (.int .i64 s)).run Try.prog w = .ok (.i64, (s : Int)) w := rfl
  simp only [Instr.slice, Sem.run_bind, run_underlying Try.underlying23, Result.andThen_ok, size5]
  simp [Instr.sliceBounds, Instr.sliceBound, Sem.run_bind, Sem.run_pure, hi, h, nextA]
end Go.Proofs.Ytbekiajnkmlokaa
