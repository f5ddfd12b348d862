/- What the program's speck comes to: Keys, Encrypt and Decrypt are the document's, for every key and block. -/
import Derived.Test.YtcfbdbjonmjplaaSpkSaid
namespace Go.Proofs.Ytcfbdbjonmjplaa
open Go.RowKit
set_option maxRecDepth 20000

set_option maxHeartbeats 400000 in
theorem rot_m8 (x : BitVec 64) (w : World) : Calls Try.prog 38 #[.int .u64 (nv x), .int .i64 (-8)] w fun e w' => e = .returned (.int .u64 (nv (x.rotateRight 8))) ∧ w' = w := by
  obtain ⟨h0, h1⟩ := nv_range x
  have hm : bits .and .u64 (IntKind.u64.wrap (-8)) 63 = 56 := by decide
  go_enter Try.func38, Try.ntmps38
  go_wp2
  go_ret
  exact ⟨ret_u64 (nv_rl56 x), rfl⟩
set_option maxHeartbeats 400000 in
theorem rot_m3 (x : BitVec 64) (w : World) : Calls Try.prog 38 #[.int .u64 (nv x), .int .i64 (-3)] w fun e w' => e = .returned (.int .u64 (nv (x.rotateRight 3))) ∧ w' = w := by
  obtain ⟨h0, h1⟩ := nv_range x
  have hm : bits .and .u64 (IntKind.u64.wrap (-3)) 63 = 61 := by decide
  go_enter Try.func38, Try.ntmps38
  go_wp2
  go_ret
  exact ⟨ret_u64 (nv_rl61 x), rfl⟩
set_option maxHeartbeats 400000 in
theorem rot_3 (x : BitVec 64) (w : World) : Calls Try.prog 38 #[.int .u64 (nv x), .int .i64 3] w fun e w' => e = .returned (.int .u64 (nv (x.rotateLeft 3))) ∧ w' = w := by
  obtain ⟨h0, h1⟩ := nv_range x
  have hm : bits .and .u64 3 63 = 3 := by decide
  go_enter Try.func38, Try.ntmps38
  go_wp2
  go_ret
  exact ⟨ret_u64 (nv_rl3 x), rfl⟩
set_option maxHeartbeats 400000 in
theorem rot_8 (x : BitVec 64) (w : World) : Calls Try.prog 38 #[.int .u64 (nv x), .int .i64 8] w fun e w' => e = .returned (.int .u64 (nv (x.rotateLeft 8))) ∧ w' = w := by
  obtain ⟨h0, h1⟩ := nv_range x
  have hm : bits .and .u64 8 63 = 8 := by decide
  go_enter Try.func38, Try.ntmps38
  go_wp2
  go_ret
  exact ⟨ret_u64 (nv_rl8 x), rfl⟩

/-- A round of the program's own, either way. -/
theorem forth_said (x y k : BitVec 64) (w : World) : Calls Try.prog 33 #[.int .u64 (nv x), .int .u64 (nv y), .int .u64 (nv k)] w fun e w' => e = .returned (.tuple #[.int .u64 (nv (encR k (x, y)).1), .int .u64 (nv (encR k (x, y)).2)]) ∧ w' = w := by
  go_enter Try.func33, Try.ntmps33
  go_wp2_with fail
  refine (rot_m8 x _).mono ?_
  rintro e w2 ⟨rfl, rfl⟩
  go_wp2_with fail
  refine (rot_3 y _).mono ?_
  rintro e w2 ⟨rfl, rfl⟩
  go_wp2
  rw [nv_add, nv_xor, nv_xor]
  go_ret2
  exact ⟨rfl, rfl⟩
theorem forth_at (x y k : BitVec 64) (n : Int) (h : nv k = n) (w : World) : Calls Try.prog 33 #[.int .u64 (nv x), .int .u64 (nv y), .int .u64 n] w fun e w' => e = .returned (.tuple #[.int .u64 (nv (encR k (x, y)).1), .int .u64 (nv (encR k (x, y)).2)]) ∧ w' = w := h ▸ forth_said x y k w
theorem make32 (w : World) : (Instr.makeSlice 59 (.int .i64 32) (.int .i64 32)).run Try.prog w = .ok (.slice (some ⟨w.heap.size, 0, none⟩) 32 32) (w.alloc (.cells (madeCells #[.int .u64 0] 32) 22)) :=
  run_make_row' (P := Try.prog) 59 22 (.int .u64 0) 8 Try.underlying59 Try.info22 rfl .i64 .i64 32 (by decide) (by decide) w

theorem key_def (p : BitVec 64 × BitVec 64) (j : Nat) : key p j = (keyAt p j).2 := rfl

set_option maxHeartbeats 1000000 in
theorem keys_said : KeysSaid := by
  intro p w
  have hmk := make32
  go_enter Try.func32, Try.ntmps32
  go_wp2
  go_region
  have hrow0 := World.rowIs_made (w.alloc (.cells #[.int .u64 (nv p.1), .int .u64 (nv p.2)] 46)) (.int .u64 0) 32 22
  rw [World.size_alloc] at hrow0
  clear hmk
  go_wp2
  go_loopw [4, 5, 14] (fun l k i wr => ∃ j : Nat, j ≤ 32 ∧ i = .int .i64 j ∧ l = .int .u64 (nv (keyAt p j).1) ∧ k = .int .u64 (nv (keyAt p j).2) ∧ wr.rowIs (w.heap.size + 1) 22 32 (fun t => if t < j then .int .u64 (nv (key p t)) else .int .u64 0) ∧ Below w.heap.size w wr) (fun _ _ i _ => 32 - (intOf i).toNat)
  case atStart => exact ⟨0, by decide, rfl, rfl, rfl, hrow0.drew, by go_grown⟩
  case round =>
    obtain ⟨j, hj, rfl, rfl, rfl, hrow, hb⟩ := hrel
    by_cases hlt : j < 32
    · have hce := hrow.cell hlt
      have hfr := hrow.frozen j
      have HK := hide' (keyAt_succ p j)
      have HO := hide' (nv_small j (by omega))
      have HT := hide' (key_def p j)
      generalize keyAt p j = q at *
      go_wp2_with fail
      refine (forth_at q.1 q.2 (BitVec.ofNat 64 j) _ HO.out _).mono ?_
      rintro e w2 ⟨rfl, rfl⟩
      clear hce hfr
      go_wp2
      go_roundw
      case rel =>
        refine ⟨j + 1, hlt, by go_num, u64v (by rw [HK.out]; rfl), u64v (by rw [HK.out]; rfl), (hrow.set j _).congr (fun t ht => ?_), hb.setCell (by simp only; omega) _⟩
        by_cases e : t = j
        · subst e; simp [HT.out]
        · by_cases e' : t < j
          · have e2 : t < j + 1 := by omega
            simp [e, e', e2]
          · have e2 : ¬ t < j + 1 := by omega
            simp [e, e', e2]
      case measure => simp [intOf]; omega
    · go_wp2
      obtain rfl : j = 32 := by omega
      go_ret
      exact ⟨w.heap.size + 1, 32, rfl, by omega, ⟨hrow.lt, fun i hi => (hrow.cell hi).trans (by simp [hi])⟩, hb⟩

theorem decN_step (ks : Nat → BitVec 64) (n : Nat) (p : BitVec 64 × BitVec 64) : decN ks (n + 1) p = decN ks n (decR (ks n) p) := rfl

set_option maxHeartbeats 1000000 in
theorem enc_said : EncSaid := by
  intro k p w
  go_enter Try.func29, Try.ntmps29
  go_wp2
  go_region
  go_wp2_with fail
  refine (keys_said k _).mono ?_
  rintro e w1 ⟨g, cap, rfl, hg, hk, hb1⟩
  simp only [World.size_drew, World.size_alloc] at hb1 hg
  have bxr : Box w1 (w.heap.size + 2) 0 0 := by
    have := Box.new ((w.alloc (.cells #[.int .u64 (nv k.1), .int .u64 (nv k.2)] 46)).alloc (.cells #[.int .u64 (nv p.1), .int .u64 (nv p.2)] 46)) 0 0
    simp only [World.size_alloc] at this
    exact this.drew.below hb1 (by omega)
  have hB1 : Below w.heap.size w w1 := by
    refine Below.trans ?_ (hb1.mono (by omega))
    go_grown
  have hS1 := hb1.size
  clear hb1
  go_wp2
  go_loop [5, 6, 16] (fun x y i => ∃ j : Nat, j ≤ 32 ∧ i = .int .i64 j ∧ x = .int .u64 (nv (encN (key k) p j).1) ∧ y = .int .u64 (nv (encN (key k) p j).2)) (fun _ _ i => 32 - (intOf i).toNat)
  case atStart => exact ⟨0, by decide, rfl, rfl, rfl⟩
  case round =>
    obtain ⟨j, hj, rfl, rfl, rfl⟩ := hrel
    by_cases hlt : j < 32
    · have hkj := hk.2 j hlt
      have HE := hide' (encN_succ (key k) p j)
      generalize encN (key k) p j = q at *
      go_wp2_with fail
      refine (forth_said q.1 q.2 (key k j) _).mono ?_
      rintro e w2 ⟨rfl, rfl⟩
      go_wp2
      go_round
      case rel => exact ⟨j + 1, hlt, by go_num, u64v (by rw [HE.out]), u64v (by rw [HE.out])⟩
      case measure => simp [intOf]; omega
    · have f0 := bxr.c0
      have f1 := bxr.c1
      have f2 := bxr.frozen 0
      have f3 := bxr.frozen 1
      obtain rfl : j = 32 := by omega
      go_wp2
      refine bodyPost_ret (v := .agg #[.int .u64 (nv (enc k p).1), .int .u64 (nv (enc k p).2)]) (by simp [results, Try.results29, go_sem, f0, f1]; exact ⟨rfl, rfl⟩) rfl ⟨rfl, ?_⟩
      exact (hB1.setCell (by simp only; omega) _).setCell (by simp only; omega) _

end Go.Proofs.Ytcfbdbjonmjplaa
