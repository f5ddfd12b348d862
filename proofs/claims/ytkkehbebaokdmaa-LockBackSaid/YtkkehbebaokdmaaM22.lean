/- FldEvI GcmTagI: texts laid together. -/
import Derived.Test.YtkkehbebaokdmaaM08
import Derived.Test.YtkkehbebaokdmaaM21
import Derived.Test.YtkkehbebaokdmaaM09

/- The program's own field.Eval. -/
namespace Go.Proofs.Ytkkehbebaokdmaa
open Go.RowKit
set_option maxRecDepth 20000

theorem addP_comm (a b : BitVec 64 × BitVec 64) : addP a b = addP b a := by
  unfold addP
  rw [BitVec.xor_comm a.1, BitVec.xor_comm a.2]

set_option maxRecDepth 10000 in
set_option maxHeartbeats 2000000 in
theorem eval_said : EvalSaid := by
  intro h f x n cap hn w hx
  go_enter Try.func72, Try.ntmps72
  go_wp2
  have b0 := ((Box.new w (nv h.1) (nv h.2)).alloc (.cells #[.int .u64 0, .int .u64 0] 30)).alloc (.cells #[.int .u64 0, .int .u64 0] 30)
  have b1 := (Box.new (w.alloc (.cells #[.int .u64 (nv h.1), .int .u64 (nv h.2)] 30)) 0 0).alloc (.cells #[.int .u64 0, .int .u64 0] 30)
  have b2 := Box.new ((w.alloc (.cells #[.int .u64 (nv h.1), .int .u64 (nv h.2)] 30)).alloc (.cells #[.int .u64 0, .int .u64 0] 30)) 0 0
  simp only [World.size_alloc] at b1 b2
  have hB : Below w.heap.size w (((w.alloc (.cells #[.int .u64 (nv h.1), .int .u64 (nv h.2)] 30)).alloc (.cells #[.int .u64 0, .int .u64 0] 30)).alloc (.cells #[.int .u64 0, .int .u64 0] 30)) := by go_grown
  generalize (((w.alloc (.cells #[.int .u64 (nv h.1), .int .u64 (nv h.2)] 30)).alloc (.cells #[.int .u64 0, .int .u64 0] 30)).alloc (.cells #[.int .u64 0, .int .u64 0] 30)) = W at *

  go_loopw [10] (fun iv wr => ∃ i : Nat, i ≤ n ∧ iv = .int .i64 i ∧ Box wr w.heap.size (nv h.1) (nv h.2) ∧ Box wr (w.heap.size + 1) 0 0 ∧ Box wr (w.heap.size + 1 + 1) (nv (evalP h f i).1) (nv (evalP h f i).2) ∧ Below w.heap.size w wr) (fun iv _ => n - (intOf iv).toNat)
  case atStart => exact ⟨0, Nat.zero_le _, rfl, b0, b1, b2, hB⟩
  case round =>
    clear b0 b1 b2 hB
    obtain ⟨i, hi, rfl, b0, b1, b2, hB⟩ := hrel
    by_cases hlt : i < n
    · obtain ⟨g, o, rfl, hg, hc⟩ := hx (by omega)
      obtain ⟨c0, c1⟩ := hc i hlt
      have c0 := (hB.cell (p := ⟨g, o + i * 2, none⟩) hg).trans c0
      have c1 := (hB.cell (p := ⟨g, o + i * 2 + 1, none⟩) hg).trans c1
      have b2_ := b2
      have HE := hide' (evalP_succ h f i)
      generalize evalP h f i = q at *
      generalize f i = r at *
      clear hc hx
      go_wp2_with fail
      clear c0 c1
      have b3 := Box.new wr (nv r.1) (nv r.2)
      have b0 := b0.alloc (.cells #[.int .u64 (nv r.1), .int .u64 (nv r.2)] 30)
      have b1 := b1.alloc (.cells #[.int .u64 (nv r.1), .int .u64 (nv r.2)] 30)
      have b2 := b2.alloc (.cells #[.int .u64 (nv r.1), .int .u64 (nv r.2)] 30)
      have hG : w.heap.size + 1 + 1 < wr.heap.size := b2_.lt
      have hB := hB.alloc hB.size (.cells #[.int .u64 (nv r.1), .int .u64 (nv r.2)] 30)
      generalize wr.alloc (.cells #[.int .u64 (nv r.1), .int .u64 (nv r.2)] 30) = W1 at *
      generalize wr.heap.size = G at *
      refine wp_region_held_drew (S := fun w' => w'.cell? ⟨w.heap.size, 0, none⟩ = some (.int .u64 (nv h.1)) ∧ w'.cell? ⟨w.heap.size, 1, none⟩ = some (.int .u64 (nv h.2)) ∧ w'.cell? ⟨G, 0, none⟩ = some (.int .u64 (nv r.1)) ∧ w'.cell? ⟨G, 1, none⟩ = some (.int .u64 (nv r.2))) (by kernel_rfl) ⟨b0.c0, b0.c1, b3.c0, b3.c1⟩ (fun hHeld => ?_)
      refine takeL 0 14 (v := ?_) rfl rfl (by kernel_rfl) (by kernel_rfl) (by kernel_rfl) (fun _ _ _ h => h) (by rfl) hHeld (fun w hSw => ?_) ?_
      rotate_left 1
      · (try dsimp only at hSw); go_simp; try with_reducible rfl
      simp only [List.set_cons_succ, List.set_cons_zero]
      refine takeL 3 17 (v := ?_) rfl rfl (by kernel_rfl) (by kernel_rfl) (by kernel_rfl) (fun _ _ _ h => h) (by rfl) hHeld (fun w hSw => ?_) ?_
      rotate_left 1
      · (try dsimp only at hSw); go_simp; try with_reducible rfl
      simp only [List.set_cons_succ, List.set_cons_zero]
      have g0 := b2.c0
      have g1 := b2.c1
      refine onlyL 1 rfl (by kernel_rfl) (by rfl) (fun K hK => ?_)
      go_wp2_with fail
      refine hK.out _ _ ⟨b0.c0, b0.c1, b3.c0, b3.c1⟩ (fun hHeld => ?_)
      clear hK K
      clear g0 g1
      refine onlyL 2 rfl (by kernel_rfl) (by rfl) (fun K hK => ?_)
      go_wp2_with fail
      refine (add_said r q _).mono ?_
      rintro e wn ⟨rfl, hbn⟩
      have hbn := (Below.refl _ _).drew.trans hbn
      have b0 := b0.grown hbn
      have b1 := b1.grown hbn
      have b2 := b2.grown hbn
      have b3 := b3.grown hbn
      have hB := hB.trans (hbn.mono hB.size)
      refine hK.out _ _ ⟨b0.c0, b0.c1, b3.c0, b3.c1⟩ (fun hHeld => ?_)
      clear hK K hbn
      refine onlyL 4 rfl (by kernel_rfl) (by rfl) (fun K hK => ?_)
      go_wp2_with fail
      refine (mul_said (addP r q) h _).mono ?_
      rintro e wn ⟨rfl, hbn⟩
      have b0 := b0.grown hbn
      have b1 := b1.grown hbn
      have b2 := b2.grown hbn
      have b3 := b3.grown hbn
      have hB := hB.trans (hbn.mono hB.size)
      refine hK.out _ _ ⟨b0.c0, b0.c1, b3.c0, b3.c1⟩ (fun hHeld => ?_)
      clear hK K hbn
      have g0 := b2.frozen 0
      have g1 := b2.frozen 1
      have g2 := b2.c0
      have g3 := b2.c1
      refine onlyL 5 rfl (by kernel_rfl) (by rfl) (fun K hK => ?_)
      go_wp2_with fail
      clear g0 g1 g2 g3
      have b0 := b0.set2 (o := w.heap.size + 1 + 1) (by omega) (.int .u64 (nv (fmul (addP r q) h).1)) (.int .u64 (nv (fmul (addP r q) h).2))
      have b1 := b1.set2 (o := w.heap.size + 1 + 1) (by omega) (.int .u64 (nv (fmul (addP r q) h).1)) (.int .u64 (nv (fmul (addP r q) h).2))
      have b3 := b3.set2 (o := w.heap.size + 1 + 1) (by omega) (.int .u64 (nv (fmul (addP r q) h).1)) (.int .u64 (nv (fmul (addP r q) h).2))
      have b2 := b2.put2 (nv (fmul (addP r q) h).1) (nv (fmul (addP r q) h).2)
      have hB := (hB.setCell (p := ⟨w.heap.size + 1 + 1, 0, none⟩) (by simp only; omega) (.int .u64 (nv (fmul (addP r q) h).1))).setCell (p := ⟨w.heap.size + 1 + 1, 1, none⟩) (by simp only; omega) (.int .u64 (nv (fmul (addP r q) h).2))
      refine hK.out _ _ ⟨b0.c0, b0.c1, b3.c0, b3.c1⟩ (fun hHeld => ?_)
      clear hK K
      refine wpAnyH_done (by kernel_rfl) ?_ _
      go_wp2
      go_roundw
      case rel =>
        refine ⟨i + 1, hlt, by go_num, b0, b1, ?_, hB⟩
        rw [HE.out, addP_comm q r]
        exact b2
      case measure => simp [intOf]; omega

    · have g0 := b2.c0
      have g1 := b2.c1
      have g2 := b1.frozen 0
      have g3 := b1.frozen 1
      have g4 := b1.c0
      have g5 := b1.c1
      obtain rfl : i = n := by omega
      go_wp2
      refine bodyPost_ret (v := .agg #[.int .u64 (nv (evalP h f i).1), .int .u64 (nv (evalP h f i).2)]) (by simp [results, Try.results72, go_sem, g4, g5]) rfl ⟨rfl, ?_⟩
      exact (hB.setCell (by simp only; omega) _).setCell (by simp only; omega) _
end Go.Proofs.Ytkkehbebaokdmaa


/- What the program's gcm.Tag comes to. -/
namespace Go.Proofs.Ytkkehbebaokdmaa
open Go.RowKit
set_option maxRecDepth 20000

theorem eval_of (h : BitVec 64 × BitVec 64) (f : Nat → BitVec 64 × BitVec 64) (x : Option Addr) (n cap : Nat) (hn : n ≤ 1000000) (w : World) (hx : PRow w x n f) {q : BitVec 64 × BitVec 64} (hq : evalP h f n = q) :
    Calls Try.prog 72 #[.agg #[.int .u64 (nv h.1), .int .u64 (nv h.2)], .slice x n cap] w fun e w' => e = .returned (.agg #[.int .u64 (nv q.1), .int .u64 (nv q.2)]) ∧ Below w.heap.size w w' := hq ▸ eval_said h f x n cap hn w hx
theorem add_of (a b : BitVec 64 × BitVec 64) {c : BitVec 64 × BitVec 64} (h : addP a b = c) (w : World) : Calls Try.prog 71 #[.agg #[.int .u64 (nv a.1), .int .u64 (nv a.2)], .agg #[.int .u64 (nv b.1), .int .u64 (nv b.2)]] w fun e w' => e = .returned (.agg #[.int .u64 (nv c.1), .int .u64 (nv c.2)]) ∧ Below w.heap.size w w' := h ▸ add_said a b w

set_option maxRecDepth 10000 in
set_option maxHeartbeats 1000000 in
theorem tag_said : TagIs 55 := by
  intro sub xs ys x y n m c d hn hm hc hd bx by_ _ _ w sx sy
  obtain ⟨h, HH⟩ : ∃ h, Hid (enc sub (0#64, 1#64) = h) := ⟨_, rfl⟩
  obtain ⟨q0, HE⟩ : ∃ q0, Hid (evalP h (fun i => (prs xs ++ prs ys ++ [lenP n m]).getD i (0#64, 0#64)) (prs xs ++ prs ys ++ [lenP n m]).length = q0) := ⟨_, rfl⟩
  obtain ⟨t, HT, HG⟩ : ∃ t, Hid (addP q0 (enc sub (0#64, 0#64)) = t) ∧ Hid (tagP sub xs ys = t) := by
    refine ⟨_, rfl, ?_⟩
    rw [← HE.out, ← HH.out, tagP, sx.1, sy.1]
    exact hide' rfl
  have HL1 : Hid (nv (lenP n m).1 = n) := nv_len n (by omega)
  have HL2 : Hid (nv (lenP n m).2 = m) := nv_len m (by omega)
  have hl1 : (prs xs).length = (n + 15) / 16 := by rw [prs_length, sx.1]
  have hl2 : (prs ys).length = (m + 15) / 16 := by rw [prs_length, sy.1]
  rw [HG.out]
  go_enter Try.func55, Try.ntmps55
  go_wp2_with fail
  have b0 := (Box.new w (nv sub.1) (nv sub.2)).alloc (.cells #[.int .u64 0, .int .u64 0] 30)
  have bR := Box.new (w.alloc (.cells #[.int .u64 (nv sub.1), .int .u64 (nv sub.2)] 30)) 0 0
  have hB : Below w.heap.size w ((w.alloc (.cells #[.int .u64 (nv sub.1), .int .u64 (nv sub.2)] 30)).alloc (.cells #[.int .u64 0, .int .u64 0] 30)) := by go_grown
  simp only [World.size_alloc] at bR
  generalize (w.alloc (.cells #[.int .u64 (nv sub.1), .int .u64 (nv sub.2)] 30)).alloc (.cells #[.int .u64 0, .int .u64 0] 30) = W1 at *
  replace sx := sx.below hB
  replace sy := sy.below hB
  refine (enc_p sub (0#64, 1#64) _ _ nv_zero nv_one _).mono ?_
  rintro e w1 ⟨rfl, hb⟩
  replace b0 := b0.grown hb
  replace bR := bR.grown hb
  replace sx := sx.below hb
  replace sy := sy.below hb
  replace hB := hB.trans (hb.mono hB.size)
  clear hb
  rw [HH.out]
  go_wp2_with fail
  have hb : Below w1.heap.size w1 (w1.alloc (.cells #[.int .u64 (nv h.1), .int .u64 (nv h.2)] 30)) := (Below.refl _ _).alloc (Nat.le_refl _) _
  have b2 := Box.new w1 (nv h.1) (nv h.2)
  replace b0 := b0.grown hb
  replace bR := bR.grown hb
  replace sx := sx.below hb
  replace sy := sy.below hb
  replace hB := hB.trans (hb.mono hB.size)
  clear hb
  generalize w1.alloc (.cells #[.int .u64 (nv h.1), .int .u64 (nv h.2)] 30) = w2 at *
  generalize w1.heap.size = A at *
  refine (ipairs xs x n c hn hc bx _ sx).mono ?_
  rintro e w3 ⟨v1, rfl, own1, hb⟩
  have lR := bR.lt
  have lA := b2.lt
  replace b0 := b0.grown hb
  replace bR := bR.grown hb
  replace b2 := b2.grown hb
  replace sy := sy.below hb
  have hS2 : Below w2.heap.size w2 w3 := hb
  replace hB := hB.trans (hb.mono hB.size)
  clear hb sx
  go_wp2_with fail
  refine (ipairs ys y m d hm hd by_ _ sy).mono ?_
  rintro e w4 ⟨v2, rfl, own2, hb⟩
  replace b0 := b0.grown hb
  replace bR := bR.grown hb
  replace b2 := b2.grown hb
  replace own1 := own_grown own1 hb
  replace hS2 := hS2.trans (hb.mono hS2.size)
  replace hB := hB.trans (hb.mono hB.size)
  clear hb sy
  obtain ⟨x2, c2, rfl, row2, -, -, nil2⟩ := own_pair_row hl2 own2
  obtain ⟨F2, HF2⟩ : ∃ F2, Hid ((fun i => (prs ys).getD i (0#64, 0#64)) = F2) := ⟨_, rfl⟩
  rw [HF2.out] at row2
  have hz4 := hS2.size
  go_wp2_with (at_builtin; refine wpList_appP rfl _ _ rfl w2.heap.size _ ((n + 15) / 16) _ rfl own1 x2 ((m + 15) / 16) c2 _ rfl row2 nil2 (by omega) hz4 ?_)
  intro v3 w5 own3 hb
  replace b0 := b0.below hb (by omega)
  replace bR := bR.below hb (by omega)
  replace b2 := b2.below hb lA
  replace hB := hB.trans (hb.mono (by omega))
  replace hz4 := Nat.le_trans hz4 hb.size
  clear hb own1 own2 row2 nil2 hS2
  rw [show flatP F2 ((m + 15) / 16) = fl (prs ys) from by rw [← HF2.out, fl, hl2], ← fl_append] at own3
  have hprow : PRow (w5.alloc (.cells #[.int .u64 n, .int .u64 m] 30)) (some ⟨w5.heap.size, 0, none⟩) 1 (fun _ => lenP n m) := by
    have := (Box.new w5 (nv (lenP n m).1) (nv (lenP n m).2)).prow
    rw [HL1.out, HL2.out] at this
    exact this
  go_wp2_with (at_builtin; refine wpList_appP rfl _ _ rfl w2.heap.size _ ((n + 15) / 16 + (m + 15) / 16) _ rfl (own3.alloc _) (some ⟨w5.heap.size, 0, none⟩) 1 1 (fun _ => lenP n m) rfl hprow (fun e => by cases e) (by omega) (by rw [World.size_alloc]; omega) ?_)
  intro v4 W3 own4 hb
  replace hb := ((Below.refl w2.heap.size w5).alloc hz4 (.cells #[.int .u64 n, .int .u64 m] 30)).trans hb
  replace b0 := b0.below hb (by omega)
  replace bR := bR.below hb (by omega)
  replace b2 := b2.below hb lA
  replace hB := hB.trans (hb.mono (by omega))
  clear hb own3 hprow hz4
  have hl4 : (prs xs ++ prs ys ++ [lenP n m]).length = (n + 15) / 16 + (m + 15) / 16 + 1 := by
    simp [hl1, hl2]
    omega
  have own5 : W3.ownsRow w2.heap.size 30 2 v4 ((n + 15) / 16 + (m + 15) / 16 + 1) (fl (prs xs ++ prs ys ++ [lenP n m])) := by
    rw [fl_append]
    exact own4
  clear own4
  obtain ⟨x4, c4, rfl, row, -, -, -⟩ := own_pair_row hl4 own5
  rw [hl4] at HE
  clear own5 HL1 HL2 hl1 hl2
  generalize (fun i => (prs xs ++ prs ys ++ [lenP n m]).getD i (0#64, 0#64)) = F at *
  go_wp2_with fail
  have b0_ := b0
  refine wp_region_held_drew (S := fun w' => Below (w.heap.size + 1) W3 w') (by kernel_rfl) (Below.refl _ _).drew (fun hHeld => ?_)
  refine takeM 1 28 8 rfl rfl rfl (by kernel_rfl) (by kernel_rfl) (by kernel_rfl) (fun _ _ _ h => h) (by rfl) hHeld rfl ?_
  simp only [List.set_cons_succ, List.set_cons_zero]
  refine takeL 3 30 (v := ?_) rfl rfl (by kernel_rfl) (by kernel_rfl) (by kernel_rfl) (fun _ _ _ h => h) (by rfl) hHeld (fun w hSw => ?_) ?_
  rotate_left 1
  · (try dsimp only at hSw)
    have e0_ := (b0_.below hSw (Nat.lt_succ_self _)).c0
    have e1_ := (b0_.below hSw (Nat.lt_succ_self _)).c1
    clear hSw
    go_simp
    try with_reducible rfl
  simp only [List.set_cons_succ, List.set_cons_zero]
  refine takeL 4 31 (v := ?_) rfl rfl (by kernel_rfl) (by kernel_rfl) (by kernel_rfl) (fun _ _ _ h => h) (by rfl) hHeld (fun w hSw => ?_) ?_
  rotate_left 1
  · (try dsimp only at hSw)
    clear hSw
    go_simp
    try with_reducible rfl
  simp only [List.set_cons_succ, List.set_cons_zero]
  have hS : Below (w.heap.size + 1) W3 W3.drew := (Below.refl _ _).drew
  have hSz : w.heap.size + 1 ≤ W3.drew.heap.size := by
    have := bR.lt
    simp only [World.size_drew]
    omega
  replace bR := bR.drew
  replace b2 := b2.drew
  replace hB := hB.drew
  replace row := (show PRow W3.drew _ _ _ from row)
  have k0 := b2.c0
  have k1 := b2.c1
  refine onlyL 0 rfl (by kernel_rfl) (by rfl) (fun K hK => ?_)
  go_wp2_with fail
  refine hK.out _ _ hS (fun hHeld => ?_)
  clear hK K k0 k1 b2
  refine onlyL 2 rfl (by kernel_rfl) (by rfl) (fun K hK => ?_)
  go_wp2_with fail
  refine (eval_of h _ x4 _ c4 (by omega) _ row HE.out).mono ?_
  rintro e w7 ⟨rfl, hb⟩
  replace bR := bR.grown hb
  replace hB := hB.trans (hb.mono hB.size)
  replace hS := hS.trans (hb.mono hSz)
  replace hSz := Nat.le_trans hSz hb.size
  clear hb
  refine hK.out _ _ hS (fun hHeld => ?_)
  clear hK K
  clear row
  refine onlyL 5 rfl (by kernel_rfl) (by rfl) (fun K hK => ?_)
  go_wp2_with fail
  refine (enc_p sub (0#64, 0#64) _ _ nv_zero nv_zero _).mono ?_
  rintro e w8 ⟨rfl, hb⟩
  replace bR := bR.grown hb
  replace hB := hB.trans (hb.mono hB.size)
  replace hS := hS.trans (hb.mono hSz)
  replace hSz := Nat.le_trans hSz hb.size
  clear hb
  refine hK.out _ _ hS (fun hHeld => ?_)
  clear hK K
  refine onlyL 6 rfl (by kernel_rfl) (by rfl) (fun K hK => ?_)
  go_wp2_with fail
  refine (add_of q0 (enc sub (0#64, 0#64)) HT.out _).mono ?_
  rintro e w9 ⟨rfl, hb⟩
  replace bR := bR.grown hb
  replace hB := hB.trans (hb.mono hB.size)
  replace hS := hS.trans (hb.mono hSz)
  replace hSz := Nat.le_trans hSz hb.size
  clear hb
  refine hK.out _ _ hS (fun hHeld => ?_)
  clear hK K
  have k0 := bR.c0
  have k1 := bR.c1
  have k2 := bR.frozen 0
  have k3 := bR.frozen 1
  refine onlyL 7 rfl (by kernel_rfl) (by rfl) (fun K hK => ?_)
  go_wp2_with fail
  clear k0 k1 k2 k3
  replace hS := (hS.setCell (p := ⟨w.heap.size + 1, 0, none⟩) (Nat.le_refl _) (.int .u64 (nv t.1))).setCell (p := ⟨w.heap.size + 1, 1, none⟩) (Nat.le_refl _) (.int .u64 (nv t.2))
  replace hB := (hB.setCell (p := ⟨w.heap.size + 1, 0, none⟩) (Nat.le_succ _) (.int .u64 (nv t.1))).setCell (p := ⟨w.heap.size + 1, 1, none⟩) (Nat.le_succ _) (.int .u64 (nv t.2))
  replace bR := bR.put2 (nv t.1) (nv t.2)
  refine hK.out _ _ hS (fun hHeld => ?_)
  clear hK K
  refine wpAnyH_done (by kernel_rfl) ?_ _
  have k0 := bR.c0
  have k1 := bR.c1
  go_wp2
  refine bodyPost_ret (v := .agg #[.int .u64 (nv t.1), .int .u64 (nv t.2)]) (by simp [results, Try.results55, go_sem, k0, k1]) rfl ⟨rfl, hB⟩
end Go.Proofs.Ytkkehbebaokdmaa
