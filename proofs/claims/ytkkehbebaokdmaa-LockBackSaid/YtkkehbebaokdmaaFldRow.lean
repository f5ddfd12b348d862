/- Rows of Pairs, their sum of powers, and lockboxref3.Eval. -/
import Derived.Test.YtkkehbebaokdmaaFldSaid
namespace Go.Proofs.Ytkkehbebaokdmaa
open Go.RowKit
set_option maxRecDepth 20000

/-- n Pairs at x, two cells each. -/
def PRow (w : World) (x : Option Addr) (n : Nat) (f : Nat → BitVec 64 × BitVec 64) : Prop :=
  0 < n → ∃ g o, x = some ⟨g, o, none⟩ ∧ g < w.heap.size ∧ ∀ i, i < n → w.cell? ⟨g, o + i * 2, none⟩ = some (.int .u64 (nv (f i).1)) ∧ w.cell? ⟨g, o + i * 2 + 1, none⟩ = some (.int .u64 (nv (f i).2))
theorem PRow.below {w w' : World} {B : Nat} {x : Option Addr} {n : Nat} {f : Nat → BitVec 64 × BitVec 64} (h : PRow w x n f) (hB : w.heap.size ≤ B) (hb : Below B w w') : PRow w' x n f := by
  intro hn
  obtain ⟨g, o, rfl, hg, hc⟩ := h hn
  exact ⟨g, o, rfl, Nat.lt_of_lt_of_le hg hb.size, fun i hi => ⟨(hb.cell (p := ⟨g, _, none⟩) (by simp only; omega)).trans (hc i hi).1, (hb.cell (p := ⟨g, _, none⟩) (by simp only; omega)).trans (hc i hi).2⟩⟩
theorem PRow.grown {w w' : World} {x : Option Addr} {n : Nat} {f : Nat → BitVec 64 × BitVec 64} (h : PRow w x n f) (hb : Below w.heap.size w w') : PRow w' x n f := h.below (Nat.le_refl _) hb

/-- The sum of powers of the first n. -/
def evalP (h : BitVec 64 × BitVec 64) (f : Nat → BitVec 64 × BitVec 64) : Nat → BitVec 64 × BitVec 64
  | 0 => (0#64, 0#64)
  | n + 1 => fmul (addP (evalP h f n) (f n)) h
theorem evalP_succ (h : BitVec 64 × BitVec 64) (f : Nat → BitVec 64 × BitVec 64) (n : Nat) : evalP h f (n + 1) = fmul (addP (evalP h f n) (f n)) h := rfl
theorem evalP_congr {h : BitVec 64 × BitVec 64} {f f' : Nat → BitVec 64 × BitVec 64} : ∀ n, (∀ i, i < n → f i = f' i) → evalP h f n = evalP h f' n
  | 0, _ => rfl
  | n + 1, hf => by rw [evalP_succ, evalP_succ, evalP_congr n (fun i hi => hf i (by omega)), hf n (by omega)]

set_option maxRecDepth 10000 in
set_option maxRecDepth 10000 in
set_option maxRecDepth 10000 in
set_option maxHeartbeats 2000000 in
theorem reval (h : BitVec 64 × BitVec 64) (f : Nat → BitVec 64 × BitVec 64) (x : Option Addr) (n cap : Nat) (hn : n ≤ 1000000) (w : World) (hx : PRow w x n f) :
    Calls Try.prog 63 #[.agg #[.int .u64 (nv h.1), .int .u64 (nv h.2)], .slice x n cap] w fun e w' => e = .returned (.agg #[.int .u64 (nv (evalP h f n).1), .int .u64 (nv (evalP h f n).2)]) ∧ Below w.heap.size w w' := by
  go_enter Try.func63, Try.ntmps63
  go_wp2
  have b0 := ((Box.new w (nv h.1) (nv h.2)).alloc (.cells #[.int .u64 0, .int .u64 0] 30)).alloc (.cells #[.int .u64 0, .int .u64 0] 30)
  have b1 := (Box.new (w.alloc (.cells #[.int .u64 (nv h.1), .int .u64 (nv h.2)] 30)) 0 0).alloc (.cells #[.int .u64 0, .int .u64 0] 30)
  have b2 := Box.new ((w.alloc (.cells #[.int .u64 (nv h.1), .int .u64 (nv h.2)] 30)).alloc (.cells #[.int .u64 0, .int .u64 0] 30)) 0 0
  simp only [World.size_alloc] at b1 b2
  have hB : Below w.heap.size w (((w.alloc (.cells #[.int .u64 (nv h.1), .int .u64 (nv h.2)] 30)).alloc (.cells #[.int .u64 0, .int .u64 0] 30)).alloc (.cells #[.int .u64 0, .int .u64 0] 30)) := by go_grown
  generalize (((w.alloc (.cells #[.int .u64 (nv h.1), .int .u64 (nv h.2)] 30)).alloc (.cells #[.int .u64 0, .int .u64 0] 30)).alloc (.cells #[.int .u64 0, .int .u64 0] 30)) = W at *

  go_loopw [6] (fun iv wr => ∃ i : Nat, i ≤ n ∧ iv = .int .i64 i ∧ Box wr w.heap.size (nv h.1) (nv h.2) ∧ Box wr (w.heap.size + 1) 0 0 ∧ Box wr (w.heap.size + 1 + 1) (nv (evalP h f i).1) (nv (evalP h f i).2) ∧ Below w.heap.size w wr) (fun iv _ => n - (intOf iv).toNat)
  case atStart => exact ⟨0, Nat.zero_le _, rfl, b0, b1, b2, hB⟩
  case round =>
    clear b0 b1 b2 hB
    obtain ⟨i, hi, rfl, b0, b1, b2, hB⟩ := hrel
    by_cases hlt : i < n
    · obtain ⟨g, o, rfl, hg, hc⟩ := hx (by omega)
      obtain ⟨c0, c1⟩ := hc i hlt
      have c0 := (hB.cell (p := ⟨g, o + i * 2, none⟩) hg).trans c0
      have c1 := (hB.cell (p := ⟨g, o + i * 2 + 1, none⟩) hg).trans c1
      have hgw : g < w.heap.size := hg
      have hg := Nat.lt_of_lt_of_le hg hB.size
      have HE := hide' (evalP_succ h f i)
      generalize evalP h f i = q at *
      generalize f i = r at *
      clear hc hx
      go_wp2_with fail
      refine wp_region_held_drew (S := fun w' => w'.cell? ⟨w.heap.size, 0, none⟩ = some (.int .u64 (nv h.1)) ∧ w'.cell? ⟨w.heap.size, 1, none⟩ = some (.int .u64 (nv h.2)) ∧ w'.cell? ⟨g, o + i * 2, none⟩ = some (.int .u64 (nv r.1)) ∧ w'.cell? ⟨g, o + i * 2 + 1, none⟩ = some (.int .u64 (nv r.2))) (by kernel_rfl) ⟨b0.c0, b0.c1, c0, c1⟩ (fun hHeld => ?_)
      refine takeM 1 15 1 rfl rfl rfl (by kernel_rfl) (by kernel_rfl) (by kernel_rfl) (fun _ _ _ h => h) (by rfl) hHeld rfl ?_
      simp only [List.set_cons_succ, List.set_cons_zero]
      refine takeM 2 16 6 rfl rfl rfl (by kernel_rfl) (by kernel_rfl) (by kernel_rfl) (fun _ _ _ h => h) (by rfl) hHeld rfl ?_
      simp only [List.set_cons_succ, List.set_cons_zero]
      refine takeL 3 17 (v := ?_) rfl rfl (by kernel_rfl) (by kernel_rfl) (by kernel_rfl) (fun _ _ _ h => h) (by rfl) hHeld (fun w hSw => ?_) ?_
      rotate_left 1
      · (try dsimp only at hSw); go_simp; try with_reducible rfl
      simp only [List.set_cons_succ, List.set_cons_zero]
      refine takeL 4 18 (v := ?_) rfl rfl (by kernel_rfl) (by kernel_rfl) (by kernel_rfl) (fun _ _ _ h => h) (by rfl) hHeld (fun w hSw => ?_) ?_
      rotate_left 1
      · (try dsimp only at hSw); go_simp; try with_reducible rfl
      simp only [List.set_cons_succ, List.set_cons_zero]
      refine takeL 6 20 (v := ?_) rfl rfl (by kernel_rfl) (by kernel_rfl) (by kernel_rfl) (fun _ _ _ h => h) (by rfl) hHeld (fun w hSw => ?_) ?_
      rotate_left 1
      · (try dsimp only at hSw); go_simp; try with_reducible rfl
      simp only [List.set_cons_succ, List.set_cons_zero]
      have g0 := b2.c0
      have g1 := b2.c1
      refine onlyL 0 rfl (by kernel_rfl) (by rfl) (fun K hK => ?_)
      go_wp2_with fail
      refine hK.out _ _ ⟨b0.c0, b0.c1, c0, c1⟩ (fun hHeld => ?_)
      clear hK K
      clear g0 g1
      refine onlyL 5 rfl (by kernel_rfl) (by rfl) (fun K hK => ?_)
      go_wp2_with fail
      refine (radd q r _).mono ?_
      rintro e wn ⟨rfl, hbn⟩
      have hbn := (Below.refl _ _).drew.trans hbn
      have b0 := b0.grown hbn
      have b1 := b1.grown hbn
      have b2 := b2.grown hbn
      have c0 := (hbn.cell (p := ⟨g, o + i * 2, none⟩) hg).trans c0
      have c1 := (hbn.cell (p := ⟨g, o + i * 2 + 1, none⟩) hg).trans c1
      have hg := Nat.lt_of_lt_of_le hg hbn.size
      have hB := hB.trans (hbn.mono hB.size)
      refine hK.out _ _ ⟨b0.c0, b0.c1, c0, c1⟩ (fun hHeld => ?_)
      clear hK K hbn
      refine onlyL 7 rfl (by kernel_rfl) (by rfl) (fun K hK => ?_)
      go_wp2_with fail
      refine (rmul (addP q r) h _).mono ?_
      rintro e wn ⟨rfl, hbn⟩
      have b0 := b0.grown hbn
      have b1 := b1.grown hbn
      have b2 := b2.grown hbn
      have c0 := (hbn.cell (p := ⟨g, o + i * 2, none⟩) hg).trans c0
      have c1 := (hbn.cell (p := ⟨g, o + i * 2 + 1, none⟩) hg).trans c1
      have hg := Nat.lt_of_lt_of_le hg hbn.size
      have hB := hB.trans (hbn.mono hB.size)
      refine hK.out _ _ ⟨b0.c0, b0.c1, c0, c1⟩ (fun hHeld => ?_)
      clear hK K hbn
      have g0 := b2.frozen 0
      have g1 := b2.frozen 1
      have g2 := b2.c0
      have g3 := b2.c1
      refine onlyL 8 rfl (by kernel_rfl) (by rfl) (fun K hK => ?_)
      go_wp2_with fail
      clear g0 g1 g2 g3
      have b0 := b0.set2 (o := w.heap.size + 1 + 1) (by omega) (.int .u64 (nv (fmul (addP q r) h).1)) (.int .u64 (nv (fmul (addP q r) h).2))
      have b1 := b1.set2 (o := w.heap.size + 1 + 1) (by omega) (.int .u64 (nv (fmul (addP q r) h).1)) (.int .u64 (nv (fmul (addP q r) h).2))
      have b2 := b2.put2 (nv (fmul (addP q r) h).1) (nv (fmul (addP q r) h).2)
      have c0 := (World.cell?_setCell_far _ ⟨w.heap.size + 1 + 1, 1, none⟩ ⟨g, o + i * 2, none⟩ (.int .u64 (nv (fmul (addP q r) h).2)) (by simp only; omega)).trans ((World.cell?_setCell_far wn ⟨w.heap.size + 1 + 1, 0, none⟩ ⟨g, o + i * 2, none⟩ (.int .u64 (nv (fmul (addP q r) h).1)) (by simp only; omega)).trans c0)
      have c1 := (World.cell?_setCell_far _ ⟨w.heap.size + 1 + 1, 1, none⟩ ⟨g, o + i * 2 + 1, none⟩ (.int .u64 (nv (fmul (addP q r) h).2)) (by simp only; omega)).trans ((World.cell?_setCell_far wn ⟨w.heap.size + 1 + 1, 0, none⟩ ⟨g, o + i * 2 + 1, none⟩ (.int .u64 (nv (fmul (addP q r) h).1)) (by simp only; omega)).trans c1)
      have hB := (hB.setCell (p := ⟨w.heap.size + 1 + 1, 0, none⟩) (by simp only; omega) (.int .u64 (nv (fmul (addP q r) h).1))).setCell (p := ⟨w.heap.size + 1 + 1, 1, none⟩) (by simp only; omega) (.int .u64 (nv (fmul (addP q r) h).2))
      refine hK.out _ _ ⟨b0.c0, b0.c1, c0, c1⟩ (fun hHeld => ?_)
      clear hK K
      refine wpAnyH_done (by kernel_rfl) ?_ _
      go_wp2
      go_roundw
      case rel =>
        refine ⟨i + 1, hlt, by go_num, b0, b1, ?_, hB⟩
        rw [HE.out]
        exact b2
      case measure => simp [intOf]; omega

    · have g0 := b2.c0
      have g1 := b2.c1
      have g2 := b1.frozen 0
      have g3 := b1.frozen 1
      have g4 := b1.c0
      have g5 := b1.c1
      obtain rfl : i = n := by omega
      go_wp2
      refine bodyPost_ret (v := .agg #[.int .u64 (nv (evalP h f i).1), .int .u64 (nv (evalP h f i).2)]) (by simp [results, Try.results63, go_sem, g4, g5]) rfl ⟨rfl, ?_⟩
      exact (hB.setCell (by simp only; omega) _).setCell (by simp only; omega) _

/-- field.Eval is the document's. -/
def EvalSaid : Prop := ∀ (h : BitVec 64 × BitVec 64) (f : Nat → BitVec 64 × BitVec 64) (x : Option Addr) (n cap : Nat), n ≤ 1000000 → ∀ w : World, PRow w x n f →
    Calls Try.prog 72 #[.agg #[.int .u64 (nv h.1), .int .u64 (nv h.2)], .slice x n cap] w fun e w' => e = .returned (.agg #[.int .u64 (nv (evalP h f n).1), .int .u64 (nv (evalP h f n).2)]) ∧ Below w.heap.size w w'
end Go.Proofs.Ytkkehbebaokdmaa
