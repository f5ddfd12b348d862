/- What lockboxref2.Encrypt comes to. -/
import Derived.Test.YtcfbdbjonmjplaaRefSpk
import Derived.Test.YtcfbdbjonmjplaaBox
import Derived.Test.YtcfbdbjonmjplaaRegion
namespace Go.Proofs.Ytcfbdbjonmjplaa
open Go.RowKit
set_option maxRecDepth 20000

theorem encN_succ (ks : Nat → BitVec 64) (p : BitVec 64 × BitVec 64) (n : Nat) : encN ks p (n + 1) = encR (ks n) (encN ks p n) := rfl

set_option maxHeartbeats 1000000 in
theorem rencrypt (k p : BitVec 64 × BitVec 64) (w : World) : Calls Try.prog 30 #[.agg #[.int .u64 (nv k.1), .int .u64 (nv k.2)], .agg #[.int .u64 (nv p.1), .int .u64 (nv p.2)]] w fun e w' => e = .returned (.agg #[.int .u64 (nv (enc k p).1), .int .u64 (nv (enc k p).2)]) ∧ Below w.heap.size w w' := by
  go_enter Try.func30, Try.ntmps30
  go_wp2
  go_region
  go_wp2_with fail
  refine (rkeys k _).mono ?_
  rintro e w1 ⟨g, cap, rfl, hg, hk, hb1⟩
  simp only [World.size_drew, World.size_alloc] at hb1 hg
  have bxr : Box w1 (w.heap.size + 2) 0 0 := by
    have := Box.new ((w.alloc (.cells #[.int .u64 (nv k.1), .int .u64 (nv k.2)] 46)).alloc (.cells #[.int .u64 (nv p.1), .int .u64 (nv p.2)] 46)) 0 0
    simp only [World.size_alloc] at this
    exact this.drew.below hb1 (by omega)
  have hB1 : Below w.heap.size w w1 := by
    refine Below.trans ?_ (hb1.mono (by omega))
    go_grown
  have hS1 := hb1.size
  clear hb1
  go_wp2
  go_loopw [5, 6, 8] (fun x y i wr => ∃ j : Nat, j ≤ 32 ∧ i = .int .i64 j ∧ x = .int .u64 (nv (encN (key k) p j).1) ∧ y = .int .u64 (nv (encN (key k) p j).2) ∧ Below w1.heap.size w1 wr) (fun _ _ i _ => 32 - (intOf i).toNat)
  case atStart => exact ⟨0, by decide, rfl, rfl, rfl, Below.refl _ _⟩
  case round =>
    obtain ⟨j, hj, rfl, rfl, rfl, hb⟩ := hrel
    by_cases hlt : j < 32
    · have hkj := (hk.below hb hk.1).2 j hlt
      have HE := hide' (encN_succ (key k) p j)
      generalize encN (key k) p j = q at *
      go_wp2
      refine wp_region_held_drew (S := fun w' => w'.cell? ⟨g, j, none⟩ = some (.int .u64 (nv (key k j)))) (by kernel_rfl) hkj (fun hHeld => ?_)
      refine takeM 0 19 5 rfl rfl rfl (by kernel_rfl) (by kernel_rfl) (by kernel_rfl) (fun _ _ _ h => h) (by rfl) hHeld rfl ?_
      simp only [List.set_cons_succ, List.set_cons_zero]
      refine takeM 2 21 6 rfl rfl rfl (by kernel_rfl) (by kernel_rfl) (by kernel_rfl) (fun _ _ _ h => h) (by rfl) hHeld rfl ?_
      simp only [List.set_cons_succ, List.set_cons_zero]
      refine takeM 4 23 7 rfl rfl rfl (by kernel_rfl) (by kernel_rfl) (by kernel_rfl) (fun _ _ _ h => h) (by rfl) hHeld rfl ?_
      simp only [List.set_cons_succ, List.set_cons_zero]
      refine takeM 5 24 8 rfl rfl rfl (by kernel_rfl) (by kernel_rfl) (by kernel_rfl) (fun _ _ _ h => h) (by rfl) hHeld rfl ?_
      simp only [List.set_cons_succ, List.set_cons_zero]
      refine takeL 6 25 (v := ?_) rfl rfl (by kernel_rfl) (by kernel_rfl) (by kernel_rfl) (fun _ _ _ h => h) (by rfl) hHeld (fun w hSw => ?_) ?_
      rotate_left 1
      · (try dsimp only at hSw); go_simp; try with_reducible rfl
      simp only [List.set_cons_succ, List.set_cons_zero]
      refine takeL 7 26 (v := ?_) rfl rfl (by kernel_rfl) (by kernel_rfl) (by kernel_rfl) (fun _ _ _ h => h) (by rfl) hHeld (fun w hSw => ?_) ?_
      rotate_left 1
      · (try dsimp only at hSw); go_simp; try with_reducible rfl
      simp only [List.set_cons_succ, List.set_cons_zero]
      refine onlyL 1 rfl (by kernel_rfl) (by rfl) (fun K hK => ?_)
      go_wp2_with fail
      refine (right8 q.1 _).mono ?_
      rintro e w2 ⟨rfl, rfl⟩
      refine hK.out _ _ hkj (fun hHeld => ?_)
      clear hK K
      refine takeL 3 22 (v := ?_) rfl rfl (by kernel_rfl) (by kernel_rfl) (by kernel_rfl) (fun _ _ _ h => h) (by rfl) hHeld (fun w hSw => ?_) ?_
      rotate_left 1
      · (try dsimp only at hSw); go_simp; try with_reducible rfl
      simp only [List.set_cons_succ, List.set_cons_zero]
      refine takeL 8 27 (v := ?_) rfl rfl (by kernel_rfl) (by kernel_rfl) (by kernel_rfl) (fun _ _ _ h => h) (by rfl) hHeld (fun w hSw => ?_) ?_
      rotate_left 1
      · (try dsimp only at hSw); go_simp; try with_reducible rfl
      simp only [List.set_cons_succ, List.set_cons_zero]
      refine takeA 9 5 27 rfl rfl rfl (by kernel_rfl) (by kernel_rfl) (by kernel_rfl) (fun _ _ _ h => h) (by rfl) hHeld rfl ?_
      simp only [List.set_cons_succ, List.set_cons_zero]
      refine wpAnyH_done (by kernel_rfl) ?_ _
      clear hkj hHeld
      go_wp2_with fail
      refine (left3 q.2 _).mono ?_
      rintro e w2 ⟨rfl, rfl⟩
      go_wp2
      go_roundw
      case rel => exact ⟨j + 1, hlt, by go_num, u64v (by rw [nv_add, nv_xor, HE.out, encR]), u64v (by rw [nv_add, nv_xor, nv_xor, HE.out, encR]), hb.drew⟩
      case measure => simp [intOf]; omega
    · have hbx := bxr.grown hb
      have f0 := hbx.c0
      have f1 := hbx.c1
      have f2 := hbx.frozen 0
      have f3 := hbx.frozen 1
      obtain rfl : j = 32 := by omega
      go_wp2
      refine bodyPost_ret (v := .agg #[.int .u64 (nv (enc k p).1), .int .u64 (nv (enc k p).2)]) (by simp [results, Try.results30, go_sem, f0, f1]; exact ⟨rfl, rfl⟩) rfl ⟨rfl, ?_⟩
      exact ((hB1.trans (hb.mono hB1.size)).setCell (by simp only; omega) _).setCell (by simp only; omega) _
end Go.Proofs.Ytcfbdbjonmjplaa
