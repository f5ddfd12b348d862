/- The program's own field.Eval. -/
import Derived.Test.YtkkehbebaokdmaaFldRow
import Derived.Test.YtkkehbebaokdmaaFldImpl
namespace Go.Proofs.Ytkkehbebaokdmaa
open Go.RowKit
set_option maxRecDepth 20000

theorem addP_comm (a b : BitVec 64 × BitVec 64) : addP a b = addP b a := by
  unfold addP
  rw [BitVec.xor_comm a.1, BitVec.xor_comm a.2]

set_option maxRecDepth 10000 in
set_option maxHeartbeats 2000000 in
theorem eval_said : EvalSaid := by
  intro h f x n cap hn w hx
  go_enter Try.func72, Try.ntmps72
  go_wp2
  have b0 := ((Box.new w (nv h.1) (nv h.2)).alloc (.cells #[.int .u64 0, .int .u64 0] 30)).alloc (.cells #[.int .u64 0, .int .u64 0] 30)
  have b1 := (Box.new (w.alloc (.cells #[.int .u64 (nv h.1), .int .u64 (nv h.2)] 30)) 0 0).alloc (.cells #[.int .u64 0, .int .u64 0] 30)
  have b2 := Box.new ((w.alloc (.cells #[.int .u64 (nv h.1), .int .u64 (nv h.2)] 30)).alloc (.cells #[.int .u64 0, .int .u64 0] 30)) 0 0
  simp only [World.size_alloc] at b1 b2
  have hB : Below w.heap.size w (((w.alloc (.cells #[.int .u64 (nv h.1), .int .u64 (nv h.2)] 30)).alloc (.cells #[.int .u64 0, .int .u64 0] 30)).alloc (.cells #[.int .u64 0, .int .u64 0] 30)) := by go_grown
  generalize (((w.alloc (.cells #[.int .u64 (nv h.1), .int .u64 (nv h.2)] 30)).alloc (.cells #[.int .u64 0, .int .u64 0] 30)).alloc (.cells #[.int .u64 0, .int .u64 0] 30)) = W at *

  go_loopw [10] (fun iv wr => ∃ i : Nat, i ≤ n ∧ iv = .int .i64 i ∧ Box wr w.heap.size (nv h.1) (nv h.2) ∧ Box wr (w.heap.size + 1) 0 0 ∧ Box wr (w.heap.size + 1 + 1) (nv (evalP h f i).1) (nv (evalP h f i).2) ∧ Below w.heap.size w wr) (fun iv _ => n - (intOf iv).toNat)
  case atStart => exact ⟨0, Nat.zero_le _, rfl, b0, b1, b2, hB⟩
  case round =>
    clear b0 b1 b2 hB
    obtain ⟨i, hi, rfl, b0, b1, b2, hB⟩ := hrel
    by_cases hlt : i < n
    · obtain ⟨g, o, rfl, hg, hc⟩ := hx (by omega)
      obtain ⟨c0, c1⟩ := hc i hlt
      have c0 := (hB.cell (p := ⟨g, o + i * 2, none⟩) hg).trans c0
      have c1 := (hB.cell (p := ⟨g, o + i * 2 + 1, none⟩) hg).trans c1
      have b2_ := b2
      have HE := hide' (evalP_succ h f i)
      generalize evalP h f i = q at *
      generalize f i = r at *
      clear hc hx
      go_wp2_with fail
      clear c0 c1
      have b3 := Box.new wr (nv r.1) (nv r.2)
      have b0 := b0.alloc (.cells #[.int .u64 (nv r.1), .int .u64 (nv r.2)] 30)
      have b1 := b1.alloc (.cells #[.int .u64 (nv r.1), .int .u64 (nv r.2)] 30)
      have b2 := b2.alloc (.cells #[.int .u64 (nv r.1), .int .u64 (nv r.2)] 30)
      have hG : w.heap.size + 1 + 1 < wr.heap.size := b2_.lt
      have hB := hB.alloc hB.size (.cells #[.int .u64 (nv r.1), .int .u64 (nv r.2)] 30)
      generalize wr.alloc (.cells #[.int .u64 (nv r.1), .int .u64 (nv r.2)] 30) = W1 at *
      generalize wr.heap.size = G at *
      refine wp_region_held_drew (S := fun w' => w'.cell? ⟨w.heap.size, 0, none⟩ = some (.int .u64 (nv h.1)) ∧ w'.cell? ⟨w.heap.size, 1, none⟩ = some (.int .u64 (nv h.2)) ∧ w'.cell? ⟨G, 0, none⟩ = some (.int .u64 (nv r.1)) ∧ w'.cell? ⟨G, 1, none⟩ = some (.int .u64 (nv r.2))) (by kernel_rfl) ⟨b0.c0, b0.c1, b3.c0, b3.c1⟩ (fun hHeld => ?_)
      refine takeL 0 14 (v := ?_) rfl rfl (by kernel_rfl) (by kernel_rfl) (by kernel_rfl) (fun _ _ _ h => h) (by rfl) hHeld (fun w hSw => ?_) ?_
      rotate_left 1
      · (try dsimp only at hSw); go_simp; try with_reducible rfl
      simp only [List.set_cons_succ, List.set_cons_zero]
      refine takeL 3 17 (v := ?_) rfl rfl (by kernel_rfl) (by kernel_rfl) (by kernel_rfl) (fun _ _ _ h => h) (by rfl) hHeld (fun w hSw => ?_) ?_
      rotate_left 1
      · (try dsimp only at hSw); go_simp; try with_reducible rfl
      simp only [List.set_cons_succ, List.set_cons_zero]
      have g0 := b2.c0
      have g1 := b2.c1
      refine onlyL 1 rfl (by kernel_rfl) (by rfl) (fun K hK => ?_)
      go_wp2_with fail
      refine hK.out _ _ ⟨b0.c0, b0.c1, b3.c0, b3.c1⟩ (fun hHeld => ?_)
      clear hK K
      clear g0 g1
      refine onlyL 2 rfl (by kernel_rfl) (by rfl) (fun K hK => ?_)
      go_wp2_with fail
      refine (add_said r q _).mono ?_
      rintro e wn ⟨rfl, hbn⟩
      have hbn := (Below.refl _ _).drew.trans hbn
      have b0 := b0.grown hbn
      have b1 := b1.grown hbn
      have b2 := b2.grown hbn
      have b3 := b3.grown hbn
      have hB := hB.trans (hbn.mono hB.size)
      refine hK.out _ _ ⟨b0.c0, b0.c1, b3.c0, b3.c1⟩ (fun hHeld => ?_)
      clear hK K hbn
      refine onlyL 4 rfl (by kernel_rfl) (by rfl) (fun K hK => ?_)
      go_wp2_with fail
      refine (mul_said (addP r q) h _).mono ?_
      rintro e wn ⟨rfl, hbn⟩
      have b0 := b0.grown hbn
      have b1 := b1.grown hbn
      have b2 := b2.grown hbn
      have b3 := b3.grown hbn
      have hB := hB.trans (hbn.mono hB.size)
      refine hK.out _ _ ⟨b0.c0, b0.c1, b3.c0, b3.c1⟩ (fun hHeld => ?_)
      clear hK K hbn
      have g0 := b2.frozen 0
      have g1 := b2.frozen 1
      have g2 := b2.c0
      have g3 := b2.c1
      refine onlyL 5 rfl (by kernel_rfl) (by rfl) (fun K hK => ?_)
      go_wp2_with fail
      clear g0 g1 g2 g3
      have b0 := b0.set2 (o := w.heap.size + 1 + 1) (by omega) (.int .u64 (nv (fmul (addP r q) h).1)) (.int .u64 (nv (fmul (addP r q) h).2))
      have b1 := b1.set2 (o := w.heap.size + 1 + 1) (by omega) (.int .u64 (nv (fmul (addP r q) h).1)) (.int .u64 (nv (fmul (addP r q) h).2))
      have b3 := b3.set2 (o := w.heap.size + 1 + 1) (by omega) (.int .u64 (nv (fmul (addP r q) h).1)) (.int .u64 (nv (fmul (addP r q) h).2))
      have b2 := b2.put2 (nv (fmul (addP r q) h).1) (nv (fmul (addP r q) h).2)
      have hB := (hB.setCell (p := ⟨w.heap.size + 1 + 1, 0, none⟩) (by simp only; omega) (.int .u64 (nv (fmul (addP r q) h).1))).setCell (p := ⟨w.heap.size + 1 + 1, 1, none⟩) (by simp only; omega) (.int .u64 (nv (fmul (addP r q) h).2))
      refine hK.out _ _ ⟨b0.c0, b0.c1, b3.c0, b3.c1⟩ (fun hHeld => ?_)
      clear hK K
      refine wpAnyH_done (by kernel_rfl) ?_ _
      go_wp2
      go_roundw
      case rel =>
        refine ⟨i + 1, hlt, by go_num, b0, b1, ?_, hB⟩
        rw [HE.out, addP_comm q r]
        exact b2
      case measure => simp [intOf]; omega

    · have g0 := b2.c0
      have g1 := b2.c1
      have g2 := b1.frozen 0
      have g3 := b1.frozen 1
      have g4 := b1.c0
      have g5 := b1.c1
      obtain rfl : i = n := by omega
      go_wp2
      refine bodyPost_ret (v := .agg #[.int .u64 (nv (evalP h f i).1), .int .u64 (nv (evalP h f i).2)]) (by simp [results, Try.results72, go_sem, g4, g5]) rfl ⟨rfl, ?_⟩
      exact (hB.setCell (by simp only; omega) _).setCell (by simp only; omega) _
end Go.Proofs.Ytkkehbebaokdmaa
