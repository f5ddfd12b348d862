/- What lockboxref2.Keys and Encrypt come to. -/
import Derived.Test.YtcfbdbjonmjplaaHid
import Derived.Test.YtcfbdbjonmjplaaRows
import Derived.Test.YtcfbdbjonmjplaaOwnB
import Derived.Test.YtcfbdbjonmjplaaSpk
import Derived.WalkKit
import Derived.WalkSpells
import Derived.WalkLawsBesides
import Derived.Deep.OwnRows
import Derived.Handy
namespace Go.Proofs.Ytcfbdbjonmjplaa
open Go.RowKit
set_option maxRecDepth 20000

theorem ret_u64 {a b : Int} (h : a = b) : Ending.returned (.int .u64 a) = .returned (.int .u64 b) := by rw [h]
theorem u64v {a b : Int} (h : a = b) : Value.int .u64 a = .int .u64 b := by rw [h]

set_option maxHeartbeats 400000 in
theorem right8 (x : BitVec 64) (w : World) : Calls Try.prog 35 #[.int .u64 (nv x), .int .u64 8] w fun e w' => e = .returned (.int .u64 (nv (x.rotateRight 8))) ∧ w' = w := by
  obtain ⟨h0, h1⟩ := nv_range x
  go_enter Try.func35, Try.ntmps35
  go_wp2
  go_ret
  exact ⟨ret_u64 (nv_rr8 x), rfl⟩
set_option maxHeartbeats 400000 in
theorem left3 (x : BitVec 64) (w : World) : Calls Try.prog 36 #[.int .u64 (nv x), .int .u64 3] w fun e w' => e = .returned (.int .u64 (nv (x.rotateLeft 3))) ∧ w' = w := by
  obtain ⟨h0, h1⟩ := nv_range x
  go_enter Try.func36, Try.ntmps36
  go_wp2
  go_ret
  exact ⟨ret_u64 (nv_rl3 x), rfl⟩

theorem Try.info22 : (Try.prog.info? 22).map (fun i => (i.zero, i.size, i.bytes)) = some (some (.int .u64 0), 1, 8) := by kernel_rfl

theorem keyAt_succ (p : BitVec 64 × BitVec 64) (j : Nat) : keyAt p (j + 1) = keyStep j (keyAt p j) := rfl

/-- The first k keys. -/
def keysV (p : BitVec 64 × BitVec 64) (k : Nat) : List Value := (List.range k).map fun i => .int .u64 (nv (key p i))
theorem keysV_succ (p : BitVec 64 × BitVec 64) (k : Nat) : keysV p (k + 1) = keysV p k ++ [.int .u64 (nv (keyAt p k).2)] := by
  simp [keysV, List.range_succ, key]
theorem keysV_length (p : BitVec 64 × BitVec 64) (k : Nat) : (keysV p k).length = k := by simp [keysV]

theorem app1_at (w : World) (u : Value) (t : TypeId) : ∀ (j : Nat) (v : Value), [u][j]? = some v → (w.alloc (.cells #[u] t)).cell? ((⟨w.heap.size, 0, none⟩ : Addr).add j) = some v := by
  intro j v hj
  match j, hj with
  | 0, hj => simp at hj; subst hj; simp [Addr.add]
theorem app1_one (u : Value) (h : u.oneCell' = true) : ∀ v ∈ [u], v.oneCell' = true := by
  intro v hv
  simp at hv
  subst hv
  exact h

/-- 32 keys of p lie in block g. -/
def KeysAt (w : World) (g : Nat) (p : BitVec 64 × BitVec 64) : Prop := g < w.heap.size ∧ ∀ i, i < 32 → w.cell? ⟨g, i, none⟩ = some (.int .u64 (nv (key p i)))
theorem KeysAt.below {w w' : World} {B g : Nat} {p : BitVec 64 × BitVec 64} (h : KeysAt w g p) (hb : Below B w w') (hB : g < B) : KeysAt w' g p :=
  ⟨Nat.lt_of_lt_of_le h.1 hb.size, fun i hi => (hb.cell (p := ⟨g, i, none⟩) hB).trans (h.2 i hi)⟩
theorem own_keys {w : World} {base : Nat} {v : Value} {p : BitVec 64 × BitVec 64} (h : w.ownsRow base 22 1 v 32 (keysV p 32)) : ∃ g cap, v = .slice (some ⟨g, 0, none⟩) 32 cap ∧ base ≤ g ∧ KeysAt w g p := by
  have h' := h
  obtain ⟨_, ⟨_, h0⟩ | ⟨g, cap, cur, rfl, hg, hh, _⟩⟩ := h
  · omega
  · obtain ⟨hlt, _⟩ := Array.getElem?_eq_some_iff.1 hh
    refine ⟨g, cap, rfl, hg, hlt, fun i hi => ?_⟩
    rw [h'.cellAt i (by omega)]
    simp [keysV, hi]

set_option maxHeartbeats 1000000 in
theorem rkeys (p : BitVec 64 × BitVec 64) (w : World) : Calls Try.prog 34 #[.agg #[.int .u64 (nv p.1), .int .u64 (nv p.2)]] w fun e w' => ∃ g cap, e = .returned (.slice (some ⟨g, 0, none⟩) 32 cap) ∧ w.heap.size ≤ g ∧ KeysAt w' g p ∧ Below w.heap.size w w' := by
  obtain ⟨i0, hi, hz0, hz1, hz2⟩ := info_parts Try.info22
  go_enter Try.func34, Try.ntmps34
  go_wp2
  go_region
  go_wp2
  go_loopw [3, 4, 5, 6] (fun l k out i wr => ∃ j : Nat, j ≤ 32 ∧ i = .int .i64 j ∧ l = .int .u64 (nv (keyAt p j).1) ∧ k = .int .u64 (nv (keyAt p j).2) ∧ wr.ownsRow w.heap.size 22 1 out j (keysV p j) ∧ Below w.heap.size w wr) (fun _ _ _ i _ => 32 - (intOf i).toNat)
  case atStart => exact ⟨0, by decide, rfl, rfl, rfl, World.ownsRow_nil _ _ _ _, by go_grown⟩
  case round =>
    obtain ⟨j, hj, rfl, rfl, rfl, hown, hb⟩ := hrel
    by_cases hlt : j < 32
    · have hS := hb.size
      have HK := hide' (keyAt_succ p j)
      have HV := hide' (keysV_succ p j)
      have HO := hide' (nv_small j (by omega))
      generalize keyAt p j = q at *
      go_wp2_with (at_builtin; refine wpList_append_own _ rfl _ _ 59 rfl w.heap.size 22 i0 (.int .u64 0) 1 8 Try.underlying59 hi hz0 hz1 hz2 rfl (by decide) _ _ _ rfl (hown.alloc _) ⟨wr.heap.size, 0, none⟩ 1 1 [.int .u64 (nv q.2)] rfl rfl (app1_at _ _ _) (app1_one _ rfl) (by unfold maxLen; omega) (by omega) (by rw [World.size_alloc]; omega) ?_)
      · intro v' w1 hown' hgrow _
        have hb' : Below w.heap.size w w1 := Below.grown (hb.alloc hS _) hgrow (by simp; omega) (own_block hown)
        rw [← HV.out] at hown'
        clear hgrow hown hb hS
        go_wp2_with fail
        refine (right8 q.1 _).mono ?_
        rintro e w2 ⟨rfl, rfl⟩
        go_wp2_with fail
        refine (left3 q.2 _).mono ?_
        rintro e w2 ⟨rfl, rfl⟩
        go_wp2
        go_roundw
        case rel => exact ⟨j + 1, hlt, by go_num, u64v (by rw [nv_add, ← HO.out, nv_xor, HK.out, keyStep]), u64v (by rw [nv_add, ← HO.out, nv_xor, nv_xor, HK.out, keyStep]), hown', hb'⟩
        case measure => simp [intOf]; omega
    · go_wp2
      obtain rfl : j = 32 := by omega
      obtain ⟨g, cap, hv, hg, hk⟩ := own_keys hown
      subst hv
      go_ret
      exact ⟨g, cap, rfl, hg, hk, hb⟩
end Go.Proofs.Ytcfbdbjonmjplaa
