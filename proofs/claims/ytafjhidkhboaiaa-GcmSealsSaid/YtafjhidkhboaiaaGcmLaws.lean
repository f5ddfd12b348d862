/- What the statements on gcm come to, where gcm's functions are what the document has. -/
import Derived.Test.YtafjhidkhboaiaaRefOpen
namespace Go.Proofs.Ytafjhidkhboaiaa
open Go.RowKit

theorem seal_at {fn : Nat} (hS : SealIn fn) (key : BitVec 64 × BitVec 64) (n : Nn) {k1 k2 n1 n2 n3 : Int} (hk1 : nv key.1 = k1) (hk2 : nv key.2 = k2) (hn1 : nv32 n.1 = n1) (hn2 : nv32 n.2.1 = n2) (hn3 : nv n.2.2 = n3) (xs ys : List Int) (x y : Option Addr) (nx ny c d : Nat) (hnx : nx ≤ 4000) (hny : ny ≤ 4000) {sub t : BitVec 64 × BitVec 64} {ms : List Int} (hsub : subP key n = sub) (hms : mixL sub ys = ms) (ht : tagP sub xs ms = t)
    (bx : Bytes xs) (by_ : Bytes ys) (hc : nx ≤ c) (hd : ny ≤ d) (xnil : x = none → nx = 0 ∧ c = 0) (ynil : y = none → ny = 0 ∧ d = 0) (w : World) (sx : SAt w x nx xs) (sy : SAt w y ny ys) :
    Calls Try.prog fn #[.agg #[.int .u64 k1, .int .u64 k2], .agg #[.int .u32 n1, .int .u32 n2, .int .u64 n3], .slice x nx c, .slice y ny d] w fun e w' => (∃ z cz, e = .returned (.tuple #[.agg #[.slice z ny cz, .int .u64 (nv t.1), .int .u64 (nv t.2)], .bool true]) ∧ SAt w' z ny ms ∧ ny ≤ cz ∧ cz ≤ maxLen ∧ (z = none → ny = 0 ∧ cz = 0)) ∧ Below w.heap.size w w' := by
  subst hk1 hk2 hn1 hn2 hn3 hsub hms ht
  exact (hS key n xs ys x y nx ny c d hnx hny bx by_ hc hd xnil ynil w sx sy).mono fun e w' ⟨z, cz, h1, h2, h3, h4, h5, h6⟩ => ⟨⟨z, cz, h1, h2, h3, h4, h5⟩, h6⟩
theorem open_at {fn : Nat} (hO : OpenYes fn) (key : BitVec 64 × BitVec 64) (n : Nn) {k1 k2 n1 n2 n3 : Int} (hk1 : nv key.1 = k1) (hk2 : nv key.2 = k2) (hn1 : nv32 n.1 = n1) (hn2 : nv32 n.2.1 = n2) (hn3 : nv n.2.2 = n3) (xs ys : List Int) (x y : Option Addr) (nx ny c d : Nat) (t : BitVec 64 × BitVec 64) (hnx : nx ≤ 4000) (hny : ny ≤ 4000) {sub : BitVec 64 × BitVec 64} {ms : List Int} (hsub : subP key n = sub) (ht : tagP sub xs ys = t) (hms : mixL sub ys = ms)
    (bx : Bytes xs) (by_ : Bytes ys) (hc : nx ≤ c) (hd : ny ≤ d) (xnil : x = none → nx = 0 ∧ c = 0) (ynil : y = none → ny = 0 ∧ d = 0) (w : World) (sx : SAt w x nx xs) (sy : SAt w y ny ys) :
    Calls Try.prog fn #[.agg #[.int .u64 k1, .int .u64 k2], .agg #[.int .u32 n1, .int .u32 n2, .int .u64 n3], .slice x nx c, .agg #[.slice y ny d, .int .u64 (nv t.1), .int .u64 (nv t.2)]] w fun e w' => (∃ z cz, e = .returned (.tuple #[.slice z ny cz, .bool true]) ∧ SAt w' z ny ms) ∧ Below w.heap.size w w' := by
  subst hk1 hk2 hn1 hn2 hn3 hsub hms
  exact (hO key n xs ys x y nx ny c d t hnx hny ht bx by_ hc hd xnil ynil w sx sy).mono fun e w' ⟨z, cz, h1, h2, h3⟩ => ⟨⟨z, cz, h1, h2⟩, h3⟩
theorem bytes_nil : Bytes [] := fun x hx => by cases hx
theorem mixL_nil (sub : BitVec 64 × BitVec 64) : mixL sub [] = [] := by simp [mixL, xorL]

set_option maxRecDepth 10000 in
set_option maxHeartbeats 2000000 in
theorem known_true (hSi : SealIn 9) (hOy : OpenYes 15) (w : World) : Calls Try.prog 14 #[] w fun e w' => e = .returned (.bool true) ∧ Below w.heap.size w w' := by
  obtain ⟨sub, HS⟩ : ∃ sub, Hid (subP (1#64, 2#64) ((1#32, 0#32, 0#64) : Nn) = sub) := ⟨_, rfl⟩
  obtain ⟨t, HT⟩ : ∃ t, Hid (tagP sub [] [] = t) := ⟨_, rfl⟩
  have hB := Below.refl w.heap.size w
  go_enter Try.func14, Try.ntmps14
  go_wp2_with fail
  refine (seal_at hSi (1#64, 2#64) (1#32, 0#32, 0#64) (by decide) (by decide) (by decide) (by decide) (by decide) [] [] none none 0 0 0 0 (by decide) (by decide) HS.out (mixL_nil sub) HT.out bytes_nil bytes_nil (by decide) (by decide) (fun _ => ⟨rfl, rfl⟩) (fun _ => ⟨rfl, rfl⟩) _ (SAt.none _ _) (SAt.none _ _)).mono ?_
  rintro e w1 ⟨⟨z, cz, rfl, sz, hcz, -, znil⟩, hb⟩
  replace hB := hB.trans (hb.mono hB.size)
  clear hb
  go_wp2_with fail
  have hb : Below w1.heap.size w1 (w1.alloc (.cells #[.slice z 0 cz, .int .u64 (nv t.1), .int .u64 (nv t.2)] 30)) := (Below.refl _ _).alloc (Nat.le_refl _) _
  have bS := SBox.new w1 (.slice z 0 cz) (nv t.1) (nv t.2)
  replace sz := sz.below hb
  replace hB := hB.trans (hb.mono hB.size)
  clear hb
  generalize w1.alloc (.cells #[.slice z 0 cz, .int .u64 (nv t.1), .int .u64 (nv t.2)] 30) = w2 at *
  generalize w1.heap.size = A at *
  refine (open_at hOy (1#64, 2#64) (1#32, 0#32, 0#64) (by decide) (by decide) (by decide) (by decide) (by decide) [] [] none z 0 0 0 cz t (by decide) (by decide) HS.out HT.out (mixL_nil sub) bytes_nil bytes_nil (by decide) (by omega) (fun _ => ⟨rfl, rfl⟩) (fun e => ⟨rfl, (znil e).2⟩) _ (SAt.none _ _) sz).mono ?_
  rintro e w3 ⟨⟨z2, cz2, rfl, -⟩, hb⟩
  replace sz := sz.below hb
  replace bS := bS.grown hb
  replace hB := hB.trans (hb.mono hB.size)
  clear hb
  have k0 := bS.c0
  go_wp2
  go_ret
  exact ⟨rfl, hB⟩

set_option maxHeartbeats 1000000 in
theorem rsame (t : BitVec 64 × BitVec 64) (ms : List Int) (z y : Option Addr) (m c d : Nat) (w : World) (sz : SAt w z m ms) (sy : SAt w y m ms) : Calls Try.prog 11 #[.agg #[.slice z m c, .int .u64 (nv t.1), .int .u64 (nv t.2)], .agg #[.slice y m d, .int .u64 (nv t.1), .int .u64 (nv t.2)]] w fun e w' => e = .returned (.bool true) ∧ Below w.heap.size w w' := by
  have heq := eq32
  have hb : Below w.heap.size w ((w.alloc (.cells #[.slice z m c, .int .u64 (nv t.1), .int .u64 (nv t.2)] 30)).alloc (.cells #[.slice y m d, .int .u64 (nv t.1), .int .u64 (nv t.2)] 30)) := by go_grown
  have e1 := fun c => (sz.below hb).conv (c := c)
  have e2 := fun c => (sy.below hb).conv (c := c)
  go_enter Try.func11, Try.ntmps11
  go_wp2
  go_ret
  exact ⟨rfl, hb⟩
end Go.Proofs.Ytafjhidkhboaiaa
