/- LockOfNothing's walk. -/
import Derived.Test.YtkkehbebaokdmaaLkLaws
namespace Go.Proofs.Ytkkehbebaokdmaa
open Go.RowKit
set_option maxRecDepth 20000
variable {Inv : (Nat → Prop) → World → Value → LSt → Prop}

theorem lseal_nil (hO : LockIs Inv) (x y : Option Addr) (nx ny c d : Nat) (w : World) : Calls Try.prog 10 #[.pointer none, .agg #[.int .u64 0, .int .u64 0], .agg #[.int .u32 0, .int .u32 0, .int .u64 0], .slice x nx c, .slice y ny d] w fun e w' => (∃ z cz t1 t2, e = .returned (.tuple #[.agg #[.slice z 0 cz, .int .u64 t1, .int .u64 t2], .bool false])) ∧ Below w.heap.size w w' := hO.sealNil (0#64, 0#64) (0#32, 0#32, 0#64) x y nx ny c d w
theorem lopen_nil (hO : LockIs Inv) (x y : Option Addr) (nx ny c d : Nat) (t1 t2 : Int) (w : World) : Calls Try.prog 13 #[.pointer none, .agg #[.int .u64 0, .int .u64 0], .agg #[.int .u32 0, .int .u32 0, .int .u64 0], .slice x nx c, .agg #[.slice y ny d, .int .u64 t1, .int .u64 t2]] w fun e w' => (∃ z cz, e = .returned (.tuple #[.slice z 0 cz, .bool false])) ∧ Below w.heap.size w w' := hO.openNil (0#64, 0#64) (0#32, 0#32, 0#64) x y nx ny c d t1 t2 w
set_option maxRecDepth 20000 in
set_option maxHeartbeats 2000000 in
theorem lnone (hO : LockIs Inv) (x : Option Addr) (n c : Nat) (w : World) : Calls Try.prog 6 #[.slice x n c] w fun e w' => e = .returned (.bool true) ∧ Below w.heap.size w w' := by
  have heq := eq32
  by_cases hn : n ≤ 100
  · go_enter Try.func6, Try.ntmps6
    go_wp2_with fail
    refine (lseal_nil hO none x 0 n 0 c _).mono ?_
    rintro e w1 ⟨⟨z, cz, t1, t2, rfl⟩, hB⟩
    have hb : Below w1.heap.size w1 (w1.alloc (.cells #[.slice z 0 cz, .int .u64 t1, .int .u64 t2] 32)) := (Below.refl _ _).alloc (Nat.le_refl _) _
    replace hB := hB.trans (hb.mono hB.size)
    clear hb
    go_wp2_with fail
    refine (lopen_nil hO none none 0 0 0 0 0 0 _).mono ?_
    rintro e w2 ⟨⟨z2, cz2, rfl⟩, hb⟩
    replace hB := hB.trans (hb.mono hB.size)
    have hb : Below w2.heap.size w2 (w2.alloc (.cells #[.slice x n c] 27)) := (Below.refl _ _).alloc (Nat.le_refl _) _
    replace hB := hB.trans (hb.mono hB.size)
    clear hb
    go_wp2_with fail
    refine (hO.sumNil _ 1 1 _).mono ?_
    rintro e w3 ⟨rfl, hb⟩
    replace hB := hB.trans (hb.mono hB.size)
    clear hb
    go_wp2_with fail
    refine (hO.issuedNil _).mono ?_
    rintro e w4 ⟨⟨z4, cz4, rfl⟩, hb⟩
    replace hB := hB.trans (hb.mono hB.size)
    clear hb
    go_wp2_with fail
    refine (hO.twiceNil _).mono ?_
    rintro e w5 ⟨rfl, hb⟩
    replace hB := hB.trans (hb.mono hB.size)
    clear hb
    go_wp2_with fail
    refine (lknown hO _).mono ?_
    rintro e w6 ⟨rfl, hb⟩
    replace hB := hB.trans (hb.mono hB.size)
    clear hb
    go_wp2
    go_ret
    exact ⟨rfl, hB⟩
  · have hn' : (100 : Int) < n := by omega
    go_enter Try.func6, Try.ntmps6
    go_wp2
    go_ret
    exact ⟨rfl, Below.refl _ _⟩
theorem lof (hO : LockIs Inv) (i : Bool) (w : World) : Calls Try.prog 8 #[.bool i] w fun e w' => ∃ v F, e = .returned v ∧ Inv F w' v ⟨i, [], []⟩ ∧ (∀ k, F k → w.heap.size ≤ k) ∧ Below w.heap.size w w' := by
  cases i
  · go_enter Try.func8, Try.ntmps8
    go_wp2_with fail
    refine (hO.real _).mono ?_
    rintro e w1 ⟨v, F, rfl, h⟩
    go_wp2
    go_ret
    exact ⟨v, F, rfl, h⟩
  · go_enter Try.func8, Try.ntmps8
    go_wp2_with fail
    refine (hO.ideal _).mono ?_
    rintro e w1 ⟨v, F, rfl, h⟩
    go_wp2
    go_ret
    exact ⟨v, F, rfl, h⟩
end Go.Proofs.Ytkkehbebaokdmaa
