/- == on two Pairs. -/
import Derived.Test.YtnimhlkoikjomaaBox
namespace Go.Proofs.Ytnimhlkoikjomaa
open Go.RowKit
set_option maxRecDepth 20000
theorem Try.size22 : (Try.prog.info? 22).map (·.size) = some 1 := by kernel_rfl
theorem size22 (w : World) : (sizeOf 22).run Try.prog w = .ok 1 w := by
  have := Try.size22
  cases h : Try.prog.info? 22 with
  | none => rw [h] at this; simp at this
  | some i => rw [h] at this; simp at this; simp [sizeOf, typeInfo, h, this]
theorem eq32' (d : Nat) (x y x' y' : Int) (w : World) : (Op.equalIn (d + 1 + 1) 25 (.agg #[.int .u64 x, .int .u64 y]) (.agg #[.int .u64 x', .int .u64 y'])).run Try.prog w = .ok (x == x' && y == y') w := by
  have h1 : ∀ a b : Int, (Op.equalIn (d + 1) 22 (.int .u64 a) (.int .u64 b)).run Try.prog w = .ok (a == b) w := fun a b => run_equalIn_int w d 22 .u64 .u64 a b Try.underlying22
  rw [Op.equalIn]
  have hp : ∀ (cs : Array Value) (o : Nat) (v : Value), cs[o]? = some v → (part 22 cs o).run Try.prog w = .ok v w := by
    intro cs o v h
    simp [part, isAgg, run_underlying Try.underlying22, h, Sem.run_bind, Sem.run_pure]
  have p0 := hp #[.int .u64 x, .int .u64 y] 0 (.int .u64 x) rfl
  have p1 := hp #[.int .u64 x, .int .u64 y] 1 (.int .u64 y) rfl
  have p0' := hp #[.int .u64 x', .int .u64 y'] 0 (.int .u64 x') rfl
  have p1' := hp #[.int .u64 x', .int .u64 y'] 1 (.int .u64 y') rfl
  clear hp
  simp only [Sem.run_bind, run_underlying Try.underlying25, Result.andThen_ok, size22, Nat.mul_one]
  rw [Std.Legacy.Range.forIn_eq_forIn_range']
  simp only [Std.Legacy.Range.size, List.range', List.forIn_cons, Sem.run_bind, p0, p0', h1, Result.andThen_ok]
  cases hx : (x == x')
  · simp
  · simp [p1, p1', h1]
    cases hy : (y == y') <;> simp_all
theorem eq32 (x y x' y' : Int) (w : World) : (Op.equalIn 10000 25 (.agg #[.int .u64 x, .int .u64 y]) (.agg #[.int .u64 x', .int .u64 y'])).run Try.prog w = .ok (x == x' && y == y') w := eq32' 9998 x y x' y' w
end Go.Proofs.Ytnimhlkoikjomaa
