/- Any place of any number of slots. -/
import Derived.Test.YtfneckhjhjmopaaRefGm
import Derived.Test.YtfneckhjhjmopaaObjA
namespace Go.Proofs.Ytfneckhjhjmopaa
open Go.RowKit
set_option maxRecDepth 20000

set_option maxHeartbeats 1000000 in
theorem gmknown (hO : GmAll) (w : World) : Calls Try.prog 17 #[] w fun e w' => e = .returned (.bool true) ∧ Below w.heap.size w w' := by
  have s1 : ∀ n : Int, 0 ≤ n → n ≤ 10 → I64 n := fun n h0 h1 => I64.small (by omega) (by omega)
  have p1 := hO.size 4 (s1 4 (by decide) (by decide))
  have p2 := hO.data 4 1 (s1 4 (by decide) (by decide)) (s1 1 (by decide) (by decide))
  have p3 := hO.rec_ 4 2 (s1 4 (by decide) (by decide)) (s1 2 (by decide) (by decide))
  have p4 := hO.is_ 4 (s1 4 (by decide) (by decide))
  have p5 := hO.is_ 6 (s1 6 (by decide) (by decide))
  rw [show gmSize 4 = 760 from by decide] at p1
  rw [show gmData 4 1 = 32 from by decide] at p2
  rw [show gmRec 4 2 = -1 from by decide] at p3
  rw [show gmIs 4 = true from by decide] at p4
  rw [show gmIs 6 = false from by decide] at p5
  have hB : Below w.heap.size w (w.alloc (.cells #[.int .i64 4] 23)) := (Below.refl _ _).alloc (Nat.le_refl _) _
  have bx : CBox 23 (w.alloc (.cells #[.int .i64 4] 23)) w.heap.size #[.int .i64 4] := CBox.new _ _ _
  have c0 : (w.alloc (.cells #[.int .i64 4] 23)).cell? ⟨w.heap.size, 0, none⟩ = some (.int .i64 4) := CBox.cell bx 0
  go_enter Try.func17, Try.ntmps17
  go_wp2_with fail
  refine (p1 _).mono ?_
  rintro e u0 ⟨rfl, hb⟩
  replace hB := hB.trans (hb.mono hB.size)
  replace bx := bx.grown hb
  replace c0 := CBox.cell bx 0
  replace c0 : u0.cell? ⟨w.heap.size, 0, none⟩ = some (.int .i64 4) := c0
  clear hb
  go_wp2_with fail
  refine (p2 _).mono ?_
  rintro e u1 ⟨rfl, hb⟩
  replace hB := hB.trans (hb.mono hB.size)
  replace bx := bx.grown hb
  replace c0 := CBox.cell bx 0
  replace c0 : u1.cell? ⟨w.heap.size, 0, none⟩ = some (.int .i64 4) := c0
  clear hb
  go_wp2_with fail
  refine (p3 _).mono ?_
  rintro e u2 ⟨rfl, hb⟩
  replace hB := hB.trans (hb.mono hB.size)
  replace bx := bx.grown hb
  replace c0 := CBox.cell bx 0
  replace c0 : u2.cell? ⟨w.heap.size, 0, none⟩ = some (.int .i64 4) := c0
  clear hb
  go_wp2_with fail
  refine (p4 _).mono ?_
  rintro e u3 ⟨rfl, hb⟩
  replace hB := hB.trans (hb.mono hB.size)
  replace bx := bx.grown hb
  replace c0 := CBox.cell bx 0
  replace c0 : u3.cell? ⟨w.heap.size, 0, none⟩ = some (.int .i64 4) := c0
  clear hb
  go_wp2_with fail
  refine (p5 _).mono ?_
  rintro e u4 ⟨rfl, hb⟩
  replace hB := hB.trans (hb.mono hB.size)
  replace bx := bx.grown hb
  replace c0 := CBox.cell bx 0
  replace c0 : u4.cell? ⟨w.heap.size, 0, none⟩ = some (.int .i64 4) := c0
  clear hb
  go_wp2
  go_ret
  exact ⟨rfl, hB⟩
set_option maxHeartbeats 2000000 in
theorem gmplaces (hO : GmAll) (n a i : Int) (hn : I64 n) (ha : I64 a) (hi : I64 i) (w : World) : Calls Try.prog 3 #[.int .i64 n, .int .i64 a, .int .i64 i] w fun e w' => e = .returned (.bool true) ∧ Below w.heap.size w w' := by
  have hkn := gmknown hO
  have p0 := hO.is_ n hn
  have q0 := rgIs n
  have p1 := hO.data n i hn hi
  have q1 := rgData n i
  have p2 := hO.leaf n a i hn ha hi
  have q2 := rgLeaf n a i
  have p3 := hO.node n a i hn ha hi
  have q3 := rgNode n a i
  have p4 := hO.rec_ n i hn hi
  have q4 := rgRec n i
  have p5 := hO.size n hn
  have q5 := rgSize n
  generalize gmIs n = r0 at p0 q0
  generalize gmData n i = r1 at p1 q1
  generalize gmLeaf n a i = r2 at p2 q2
  generalize gmNode n a i = r3 at p3 q3
  generalize gmRec n i = r4 at p4 q4
  generalize gmSize n = r5 at p5 q5
  clear hn ha hi
  have hB : Below w.heap.size w (w.alloc (.cells #[.int .i64 n] 23)) := (Below.refl _ _).alloc (Nat.le_refl _) _
  have bx : CBox 23 (w.alloc (.cells #[.int .i64 n] 23)) w.heap.size #[.int .i64 n] := CBox.new _ _ _
  have c0 : (w.alloc (.cells #[.int .i64 n] 23)).cell? ⟨w.heap.size, 0, none⟩ = some (.int .i64 n) := CBox.cell bx 0
  go_enter Try.func3, Try.ntmps3
  go_wp2_with fail
  refine (p0 _).mono ?_
  rintro e u0 ⟨rfl, hb⟩
  replace hB := hB.trans (hb.mono hB.size)
  replace bx := bx.grown hb
  replace c0 := CBox.cell bx 0
  replace c0 : u0.cell? ⟨w.heap.size, 0, none⟩ = some (.int .i64 n) := c0
  clear hb
  go_wp2_with fail
  refine (q0 _).mono ?_
  rintro e u1 ⟨rfl, hb⟩
  replace hB := hB.trans (hb.mono hB.size)
  replace bx := bx.grown hb
  replace c0 := CBox.cell bx 0
  replace c0 : u1.cell? ⟨w.heap.size, 0, none⟩ = some (.int .i64 n) := c0
  clear hb
  go_wp2_with fail
  refine (p1 _).mono ?_
  rintro e u2 ⟨rfl, hb⟩
  replace hB := hB.trans (hb.mono hB.size)
  replace bx := bx.grown hb
  replace c0 := CBox.cell bx 0
  replace c0 : u2.cell? ⟨w.heap.size, 0, none⟩ = some (.int .i64 n) := c0
  clear hb
  go_wp2_with fail
  refine (q1 _).mono ?_
  rintro e u3 ⟨rfl, hb⟩
  replace hB := hB.trans (hb.mono hB.size)
  replace bx := bx.grown hb
  replace c0 := CBox.cell bx 0
  replace c0 : u3.cell? ⟨w.heap.size, 0, none⟩ = some (.int .i64 n) := c0
  clear hb
  go_wp2_with fail
  refine (p2 _).mono ?_
  rintro e u4 ⟨rfl, hb⟩
  replace hB := hB.trans (hb.mono hB.size)
  replace bx := bx.grown hb
  replace c0 := CBox.cell bx 0
  replace c0 : u4.cell? ⟨w.heap.size, 0, none⟩ = some (.int .i64 n) := c0
  clear hb
  go_wp2_with fail
  refine (q2 _).mono ?_
  rintro e u5 ⟨rfl, hb⟩
  replace hB := hB.trans (hb.mono hB.size)
  replace bx := bx.grown hb
  replace c0 := CBox.cell bx 0
  replace c0 : u5.cell? ⟨w.heap.size, 0, none⟩ = some (.int .i64 n) := c0
  clear hb
  go_wp2_with fail
  refine (p3 _).mono ?_
  rintro e u6 ⟨rfl, hb⟩
  replace hB := hB.trans (hb.mono hB.size)
  replace bx := bx.grown hb
  replace c0 := CBox.cell bx 0
  replace c0 : u6.cell? ⟨w.heap.size, 0, none⟩ = some (.int .i64 n) := c0
  clear hb
  go_wp2_with fail
  refine (q3 _).mono ?_
  rintro e u7 ⟨rfl, hb⟩
  replace hB := hB.trans (hb.mono hB.size)
  replace bx := bx.grown hb
  replace c0 := CBox.cell bx 0
  replace c0 : u7.cell? ⟨w.heap.size, 0, none⟩ = some (.int .i64 n) := c0
  clear hb
  go_wp2_with fail
  refine (p4 _).mono ?_
  rintro e u8 ⟨rfl, hb⟩
  replace hB := hB.trans (hb.mono hB.size)
  replace bx := bx.grown hb
  replace c0 := CBox.cell bx 0
  replace c0 : u8.cell? ⟨w.heap.size, 0, none⟩ = some (.int .i64 n) := c0
  clear hb
  go_wp2_with fail
  refine (q4 _).mono ?_
  rintro e u9 ⟨rfl, hb⟩
  replace hB := hB.trans (hb.mono hB.size)
  replace bx := bx.grown hb
  replace c0 := CBox.cell bx 0
  replace c0 : u9.cell? ⟨w.heap.size, 0, none⟩ = some (.int .i64 n) := c0
  clear hb
  go_wp2_with fail
  refine (p5 _).mono ?_
  rintro e u10 ⟨rfl, hb⟩
  replace hB := hB.trans (hb.mono hB.size)
  replace bx := bx.grown hb
  replace c0 := CBox.cell bx 0
  replace c0 : u10.cell? ⟨w.heap.size, 0, none⟩ = some (.int .i64 n) := c0
  clear hb
  go_wp2_with fail
  refine (q5 _).mono ?_
  rintro e u11 ⟨rfl, hb⟩
  replace hB := hB.trans (hb.mono hB.size)
  replace bx := bx.grown hb
  replace c0 := CBox.cell bx 0
  replace c0 : u11.cell? ⟨w.heap.size, 0, none⟩ = some (.int .i64 n) := c0
  clear hb
  go_wp2_with fail
  refine (hkn _).mono ?_
  rintro e u12 ⟨rfl, hb⟩
  replace hB := hB.trans (hb.mono hB.size)
  replace bx := bx.grown hb
  replace c0 := CBox.cell bx 0
  replace c0 : u12.cell? ⟨w.heap.size, 0, none⟩ = some (.int .i64 n) := c0
  clear hb
  go_wp2
  go_ret
  exact ⟨rfl, hB⟩
end Go.Proofs.Ytfneckhjhjmopaa
