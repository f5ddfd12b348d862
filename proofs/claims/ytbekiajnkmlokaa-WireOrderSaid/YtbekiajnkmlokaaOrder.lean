/- WireOrder's walk. -/
import Derived.Test.YtbekiajnkmlokaaPut
import Derived.Deep.RegionHeld
namespace Go.Proofs.Ytbekiajnkmlokaa
open Go.RowKit

/-- Put of 8 bytes, with what the caller turns into a string. -/
theorem put8 (V : Nat) (w : World) : Calls Try.prog 9 #[.int .u64 V, .int .i64 8] w fun e w' => e = .returned (.slice (some ⟨w.heap.size, 0, none⟩) 8 8) ∧ At w' w.heap.size 0 (putL V 8) ∧ Below w.heap.size w w' ∧ w.heap.size < w'.heap.size :=
  put_some V 8 w (by decide) (by decide)

set_option maxHeartbeats 4000000 in
theorem order_any (A B : Nat) (w : World) (f1 : Op.bytesLess (strOfNums (putL A 8)).toList (strOfNums (putL B 8)).toList = decide (A < B)) (f2 : ((strOfNums (putL A 8)).toList == (strOfNums (putL B 8)).toList) = ((A : Int) == (B : Int))) :
    Calls Try.prog 8 #[.int .u64 A, .int .u64 B] w fun e w' => e = .returned (.bool true) ∧ Below w.heap.size w w' := by
  have tok : True := trivial
  have tok2 : True := trivial
  go_enter Try.func8, Try.ntmps8
  go_wp2
  go_region_held (fun _ => True) (exact trivial) (first
    | (go_at_call 12; refine (known_true _).mono ?_; rintro e w5 ⟨rfl, hb5⟩)
    | (go_at_call_of 9 (Value.int .u64 (A : Int)); have _t := tok; refine (put8 A _).mono ?_; rintro e w1 ⟨rfl, ha1, hb1, hz1⟩; clear tok; simp only [World.size_drew] at ha1 hz1 hb1; have k1 := ha1.conv (n := 8) (cap := 8) (putL_length _ _))
    | (go_at_call_of 9 (Value.int .u64 (B : Int)); have _t := tok2; refine (put8 B _).mono ?_; rintro e w2 ⟨rfl, ha2, hb2, hz2⟩; clear tok2; have k2 := ha2.conv (n := 8) (cap := 8) (putL_length _ _); have k1' := (ha1.below hb2 hz1).conv (n := 8) (cap := 8) (putL_length _ _))
    | (go_at_call_of 9 (Value.int .u64 (A : Int)); refine (put8 A _).mono ?_; rintro e w3 ⟨rfl, ha3, hb3, hz3⟩; have k3 := ha3.conv (n := 8) (cap := 8) (putL_length _ _))
    | (go_at_call_of 9 (Value.int .u64 (B : Int)); refine (put8 B _).mono ?_; rintro e w4 ⟨rfl, ha4, hb4, hz4⟩; have k4 := ha4.conv (n := 8) (cap := 8) (putL_length _ _); have k3' := (ha3.below hb4 hz3).conv (n := 8) (cap := 8) (putL_length _ _)))
  all_goals go_wp2
  all_goals go_ret
  all_goals exact ⟨rfl, ((((Below.refl _ w).drew.trans hb1).trans (hb2.mono (by have := hb1.size; simp at this; omega))).trans (hb3.mono (by have := hb1.size; have := hb2.size; simp at *; omega))).trans ((hb4.mono (by have := hb1.size; have := hb2.size; have := hb3.size; simp at *; omega)).trans (hb5.mono (by have := hb1.size; have := hb2.size; have := hb3.size; have := hb4.size; simp at *; omega)))⟩
end Go.Proofs.Ytbekiajnkmlokaa
