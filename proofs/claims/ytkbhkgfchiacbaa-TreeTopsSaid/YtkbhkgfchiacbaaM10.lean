/- U8 RefOSum RefOSeal RefLkA: texts laid together. -/
import Derived.Test.YtkbhkgfchiacbaaM03
import Derived.Test.YtkbhkgfchiacbaaM07
import Derived.Test.YtkbhkgfchiacbaaM08

/- Blocks of bytes that stay as they were. -/
namespace Go.Proofs.Ytkbhkgfchiacbaa
open Go.RowKit
set_option maxRecDepth 20000

/-- Every block of bytes is as it was. -/
def U8 (w w' : World) : Prop := ∀ (k : Nat) (cur : Array Value) (fr : Nat × Nat), w.heap[k]? = some (.cells cur 5 fr) → w'.heap[k]? = some (.cells cur 5 fr)
theorem U8.of_off {F : Nat → Prop} {w w' : World} (h : Off F w w') (hF : ∀ k cur fr, w.heap[k]? = some (.cells cur 5 fr) → ¬ F k) : U8 w w' := fun k cur fr hk => off_block hk h (hF k cur fr hk)
theorem U8.of_below {w w' : World} (h : Below w.heap.size w w') : U8 w w' := U8.of_off (F := fun _ => False) (Off.of_below h) (fun _ _ _ _ h => h)
theorem U8.trans {a b c : World} (h : U8 a b) (k : U8 b c) : U8 a c := fun i cur fr hi => k i cur fr (h i cur fr hi)
/-- This slice's block is of bytes, and none of those below B. -/
def Typ8 (B : Nat) (w : World) (z : Option Addr) (n : Nat) : Prop := 0 < n → ∃ g o cur fr, z = some ⟨g, o, none⟩ ∧ B ≤ g ∧ w.heap[g]? = some (.cells cur 5 fr)
theorem Typ8.stay {B : Nat} {w w' : World} {z : Option Addr} {n : Nat} (h : Typ8 B w z n) (hu : U8 w w') : Typ8 B w' z n := fun hn => by
  obtain ⟨g, o, cur, fr, e, hB, hg⟩ := h hn
  exact ⟨g, o, cur, fr, e, hB, hu g cur fr hg⟩
theorem Typ8.sin {B : Nat} {G : Nat → Prop} {w w' : World} {z : Option Addr} {n : Nat} {ys : List Int} (h : Typ8 B w z n) (hs : SIn G w z n ys) (hu : U8 w w') (hz : w.heap.size ≤ w'.heap.size) : SIn G w' z n ys :=
  ⟨hs.1, fun hn => by
    obtain ⟨g, o, cur, fr, e, hB, hg⟩ := h hn
    obtain ⟨b, o', e', hlt, hG, hat⟩ := hs.2 hn
    rw [e] at e'
    obtain ⟨rfl, rfl⟩ : g = b ∧ o = o' := by simpa using e'
    refine ⟨g, o, e, Nat.lt_of_lt_of_le hlt hz, hG, ?_⟩
    exact fun i hi => (World.cell?_of_block (w := w) ((hu g cur fr hg).trans hg.symm)).trans (hat i hi)⟩
theorem Typ8.mono {B B' : Nat} {w : World} {z : Option Addr} {n : Nat} (h : Typ8 B w z n) (hB : B' ≤ B) : Typ8 B' w z n := fun hn => by
  obtain ⟨g, o, cur, fr, e, h1, hg⟩ := h hn
  exact ⟨g, o, cur, fr, e, Nat.le_trans hB h1, hg⟩
theorem sat_no8 {w : World} {b B : Nat} {x : Option Addr} {n : Nat} {xs : List Int} (hc : ∀ cur fr, w.heap[b]? ≠ some (.cells cur 5 fr)) (ht : Typ8 B w x n) (h : SAt w x n xs) : SIn (fun k => k ≠ b) w x n xs :=
  ⟨h.1, fun hn => by
    obtain ⟨g, o, e, hlt, hat⟩ := h.2 hn
    obtain ⟨g', o', cur, fr, e', _, hg⟩ := ht hn
    rw [e] at e'
    obtain ⟨rfl, rfl⟩ : g = g' ∧ o = o' := by simpa using e'
    refine ⟨g, o, e, hlt, fun e2 => ?_, hat⟩
    subst e2
    exact hc _ _ hg⟩
end Go.Proofs.Ytkbhkgfchiacbaa


/- What lockboxref7's Sum comes to. -/
namespace Go.Proofs.Ytkbhkgfchiacbaa
open Go.RowKit
set_option maxRecDepth 20000

theorem Try.strInfo : (Try.prog.info? 9).map (fun i => (i.zero, i.size, i.bytes)) = some (some (.string (strOfNums [])), 1, 16) := by kernel_rfl
set_option maxRecDepth 10000 in
set_option maxHeartbeats 2000000 in
theorem rosum8 (F : Nat → Prop) (b : Nat) (L : List Iss) (S : List (List Int)) (xs : List Int) (x : Option Addr) (n c : Nat) (hSl : S.length ≤ 50000) (bx : Bytes xs) (w : World) (hI : RInv F w b (L, S)) (sx : SIn (fun k => ¬ F k) w x n xs) : Calls Try.prog 57 #[.pointer (some ⟨b, 0, none⟩), .slice x n c] w fun e w' => e = .returned (.agg #[.int .u64 17216961135462248174, .int .u64 (sumIx S xs : Nat)]) ∧ ∃ F', RInv F' w' b (L, sumSt S xs) ∧ (∀ k, F' k → F k ∨ w.heap.size ≤ k) ∧ Off F w w' ∧ U8 w w' := by
  have bR := Box.new w 0 0
  have hB : Below w.heap.size w (w.alloc (.cells #[.int .u64 0, .int .u64 0] 34)) := by go_grown
  have hI0 := hI.below hB
  have hlt0 := hI.lt
  have sx0 := sx.off (Off.of_below (F := fun _ => False) hB) (fun _ _ _ h => h)
  go_enter Try.func57, Try.ntmps57
  go_wp2_with fail
  generalize w.alloc (.cells #[.int .u64 0, .int .u64 0] 34) = W1 at *
  go_loopw [5] (fun i wr => ∃ k : Nat, k ≤ S.length ∧ i = .int .i64 (k : Int) ∧ (∀ j, j < k → S.getD j [] ≠ xs) ∧ RInv F wr b (L, S) ∧ SIn (fun k => ¬ F k) wr x n xs ∧ Box wr w.heap.size 0 0 ∧ Below w.heap.size w wr) (fun i _ => S.length - (intOf i).toNat)
  case atStart => exact ⟨0, Nat.zero_le _, rfl, (fun j hj => absurd hj (by omega)), hI0, sx0, bR, hB⟩
  case round =>
    clear hI0 sx0 bR hB hI sx
    obtain ⟨k, hk, rfl, hf, hI, sx, bR, hB⟩ := hrel
    have hI' := hI
    obtain ⟨FL, FS, vL, vS, hA, hF0, -⟩ := hI
    have HF := hide' hF0
    clear hF0
    have own := hA.sum.1
    have hSb := hA.sum.2.2
    obtain ⟨y, cy, rfl, hcy, -, -⟩ := own_is own
    have k1 := hA.box.c1
    by_cases hlt : k < S.length
    · obtain ⟨q, HQ⟩ : ∃ q, Hid (S.getD k [] = q) := ⟨_, rfl⟩
      have hq : (S.map fun p => Value.string (strOfNums p))[k]? = some (.string (strOfNums q)) := by
        rw [← HQ.out]
        simp [hlt]
      have hbq : Bytes q := by
        rw [← HQ.out]
        simp only [List.getD, List.getElem?_eq_getElem hlt, Option.getD_some]
        exact hSb _ (List.getElem_mem hlt)
      obtain ⟨g, cap, hv, hcap, hgl, hck⟩ := own_cell own hq
      obtain ⟨rfl, -, rfl⟩ : y = some ⟨g, 0, none⟩ ∧ True ∧ cy = cap := by
        simp only [Value.slice.injEq] at hv
        exact ⟨hv.1, trivial, hv.2.2⟩
      have hse := str_eq q xs hbq bx
      by_cases he : q = xs
      · have hse2 : ((strOfNums q).toList == (strOfNums xs).toList) = true := by rw [hse]; exact decide_eq_true he
        have hix := sumIx_at hlt (HQ.out.trans he) hf
        clear hse hq
        go_wp2_with fail
        refine wp_region_held_drew (S := fun w' => Below wr.heap.size wr w') (by kernel_rfl) (Below.refl _ _).drew (fun hHeld => ?_)
        refine takeM 0 15 0 rfl rfl rfl (by kernel_rfl) (by kernel_rfl) (by kernel_rfl) (fun _ _ _ h => h) (by rfl) hHeld rfl ?_
        simp only [List.set_cons_succ, List.set_cons_zero]
        refine takeL 1 16 (v := ?_) rfl rfl (by kernel_rfl) (by kernel_rfl) (by kernel_rfl) (fun _ _ _ h => h) (by rfl) hHeld (fun w hSw => ?_) ?_
        rotate_left 1
        · (try dsimp only at hSw)
          clear hSw
          go_simp
          try with_reducible rfl
        simp only [List.set_cons_succ, List.set_cons_zero]
        refine takeL 2 17 (v := ?_) rfl rfl (by kernel_rfl) (by kernel_rfl) (by kernel_rfl) (fun _ _ _ h => h) (by rfl) hHeld (fun w hSw => ?_) ?_
        rotate_left 1
        · (try dsimp only at hSw)
          clear hSw
          go_simp
          try with_reducible rfl
        simp only [List.set_cons_succ, List.set_cons_zero]
        refine takeL 3 18 (v := ?_) rfl rfl (by kernel_rfl) (by kernel_rfl) (by kernel_rfl) (fun _ _ _ h => h) (by rfl) hHeld (fun w hSw => ?_) ?_
        rotate_left 1
        · (try dsimp only at hSw)
          have e0_ := (hA.box.grown hSw).c1
          clear hSw
          go_simp
          try with_reducible rfl
        simp only [List.set_cons_succ, List.set_cons_zero]
        refine takeM 4 19 5 rfl rfl rfl (by kernel_rfl) (by kernel_rfl) (by kernel_rfl) (fun _ _ _ h => h) (by rfl) hHeld rfl ?_
        simp only [List.set_cons_succ, List.set_cons_zero]
        refine takeL 5 20 (v := ?_) rfl rfl (by kernel_rfl) (by kernel_rfl) (by kernel_rfl) (fun _ _ _ h => h) (by rfl) hHeld (fun w hSw => ?_) ?_
        rotate_left 1
        · (try dsimp only at hSw)
          clear hSw
          go_simp
          try with_reducible rfl
        simp only [List.set_cons_succ, List.set_cons_zero]
        refine takeL 6 21 (v := ?_) rfl rfl (by kernel_rfl) (by kernel_rfl) (by kernel_rfl) (fun _ _ _ h => h) (by rfl) hHeld (fun w hSw => ?_) ?_
        rotate_left 1
        · (try dsimp only at hSw)
          have e0_ := (hSw.cell (p := ⟨g, k, none⟩) hgl).trans hck
          clear hSw
          go_simp
          try with_reducible rfl
        simp only [List.set_cons_succ, List.set_cons_zero]
        refine takeM 7 22 1 rfl rfl rfl (by kernel_rfl) (by kernel_rfl) (by kernel_rfl) (fun _ _ _ h => h) (by rfl) hHeld rfl ?_
        simp only [List.set_cons_succ, List.set_cons_zero]
        refine takeL 8 23 (v := ?_) rfl rfl (by kernel_rfl) (by kernel_rfl) (by kernel_rfl) (fun _ _ _ h => h) (by rfl) hHeld (fun w hSw => ?_) ?_
        rotate_left 1
        · (try dsimp only at hSw)
          have e0_ := (sx.sat.below hSw).conv (c := c)
          clear hSw
          go_simp
          try with_reducible rfl
        simp only [List.set_cons_succ, List.set_cons_zero]
        refine takeL 9 24 (v := ?_) rfl rfl (by kernel_rfl) (by kernel_rfl) (by kernel_rfl) (fun _ _ _ h => h) (by rfl) hHeld (fun w hSw => ?_) ?_
        rotate_left 1
        · (try dsimp only at hSw)
          clear hSw
          go_simp
          try with_reducible rfl
        simp only [List.set_cons_succ, List.set_cons_zero]
        refine wpAnyH_done (by kernel_rfl) ?_ _
        have g0 := bR.c0
        have g1 := bR.c1
        have g2 := bR.frozen 0
        have g3 := bR.frozen 1
        go_wp2
        have hbR := bR.put2 17216961135462248174 ((k : Int) + 1)
        have r0 := hbR.c0
        have r1 := hbR.c1
        rw [hix.1, hix.2]
        refine bodyPost_ret (v := .agg #[.int .u64 17216961135462248174, .int .u64 ((k + 1 : Nat) : Int)]) (by simp [results, Try.results57, go_sem, r0, r1]) rfl ⟨rfl, F, ?_, (fun k hk => Or.inl hk), ?_, U8.of_off (F := fun _ => False) (((Off.of_below hB.drew).setCell (p := ⟨w.heap.size, 0, none⟩) (Or.inr (Nat.le_refl _)) _).setCell (p := ⟨w.heap.size, 1, none⟩) (Or.inr (Nat.le_refl _)) _) (fun _ _ _ _ h => h)⟩
        · exact (hI'.below (Below.refl _ _).drew).off (G := fun k => w.heap.size ≤ k) (((Off.refl _ _).setCell (p := ⟨w.heap.size, 0, none⟩) (Or.inl (Nat.le_refl _)) _).setCell (p := ⟨w.heap.size, 1, none⟩) (Or.inl (Nat.le_refl _)) _) (fun k _ hk => Nat.not_le.2 (hlt0 k hk))
        · exact ((Off.of_below hB.drew).setCell (p := ⟨w.heap.size, 0, none⟩) (Or.inr (Nat.le_refl _)) _).setCell (p := ⟨w.heap.size, 1, none⟩) (Or.inr (Nat.le_refl _)) _
      · have hse2 : ((strOfNums q).toList == (strOfNums xs).toList) = false := by rw [hse]; exact decide_eq_false he
        clear hse hq
        go_wp2_with fail
        refine wp_region_held_drew (S := fun w' => Below wr.heap.size wr w') (by kernel_rfl) (Below.refl _ _).drew (fun hHeld => ?_)
        refine takeM 0 15 0 rfl rfl rfl (by kernel_rfl) (by kernel_rfl) (by kernel_rfl) (fun _ _ _ h => h) (by rfl) hHeld rfl ?_
        simp only [List.set_cons_succ, List.set_cons_zero]
        refine takeL 1 16 (v := ?_) rfl rfl (by kernel_rfl) (by kernel_rfl) (by kernel_rfl) (fun _ _ _ h => h) (by rfl) hHeld (fun w hSw => ?_) ?_
        rotate_left 1
        · (try dsimp only at hSw)
          clear hSw
          go_simp
          try with_reducible rfl
        simp only [List.set_cons_succ, List.set_cons_zero]
        refine takeL 2 17 (v := ?_) rfl rfl (by kernel_rfl) (by kernel_rfl) (by kernel_rfl) (fun _ _ _ h => h) (by rfl) hHeld (fun w hSw => ?_) ?_
        rotate_left 1
        · (try dsimp only at hSw)
          clear hSw
          go_simp
          try with_reducible rfl
        simp only [List.set_cons_succ, List.set_cons_zero]
        refine takeL 3 18 (v := ?_) rfl rfl (by kernel_rfl) (by kernel_rfl) (by kernel_rfl) (fun _ _ _ h => h) (by rfl) hHeld (fun w hSw => ?_) ?_
        rotate_left 1
        · (try dsimp only at hSw)
          have e0_ := (hA.box.grown hSw).c1
          clear hSw
          go_simp
          try with_reducible rfl
        simp only [List.set_cons_succ, List.set_cons_zero]
        refine takeM 4 19 5 rfl rfl rfl (by kernel_rfl) (by kernel_rfl) (by kernel_rfl) (fun _ _ _ h => h) (by rfl) hHeld rfl ?_
        simp only [List.set_cons_succ, List.set_cons_zero]
        refine takeL 5 20 (v := ?_) rfl rfl (by kernel_rfl) (by kernel_rfl) (by kernel_rfl) (fun _ _ _ h => h) (by rfl) hHeld (fun w hSw => ?_) ?_
        rotate_left 1
        · (try dsimp only at hSw)
          clear hSw
          go_simp
          try with_reducible rfl
        simp only [List.set_cons_succ, List.set_cons_zero]
        refine takeL 6 21 (v := ?_) rfl rfl (by kernel_rfl) (by kernel_rfl) (by kernel_rfl) (fun _ _ _ h => h) (by rfl) hHeld (fun w hSw => ?_) ?_
        rotate_left 1
        · (try dsimp only at hSw)
          have e0_ := (hSw.cell (p := ⟨g, k, none⟩) hgl).trans hck
          clear hSw
          go_simp
          try with_reducible rfl
        simp only [List.set_cons_succ, List.set_cons_zero]
        refine takeM 7 22 1 rfl rfl rfl (by kernel_rfl) (by kernel_rfl) (by kernel_rfl) (fun _ _ _ h => h) (by rfl) hHeld rfl ?_
        simp only [List.set_cons_succ, List.set_cons_zero]
        refine takeL 8 23 (v := ?_) rfl rfl (by kernel_rfl) (by kernel_rfl) (by kernel_rfl) (fun _ _ _ h => h) (by rfl) hHeld (fun w hSw => ?_) ?_
        rotate_left 1
        · (try dsimp only at hSw)
          have e0_ := (sx.sat.below hSw).conv (c := c)
          clear hSw
          go_simp
          try with_reducible rfl
        simp only [List.set_cons_succ, List.set_cons_zero]
        refine takeL 9 24 (v := ?_) rfl rfl (by kernel_rfl) (by kernel_rfl) (by kernel_rfl) (fun _ _ _ h => h) (by rfl) hHeld (fun w hSw => ?_) ?_
        rotate_left 1
        · (try dsimp only at hSw)
          clear hSw
          go_simp
          try with_reducible rfl
        simp only [List.set_cons_succ, List.set_cons_zero]
        refine wpAnyH_done (by kernel_rfl) ?_ _
        go_wp2
        go_roundw
        case rel =>
          refine ⟨k + 1, hlt, by go_num, fun j hj => ?_, hI'.below (Below.refl _ _).drew, sx, bR.drew, hB.drew⟩
          by_cases e : j = k
          · subst e
            rw [HQ.out]
            exact he
          · exact hf j (by omega)
        case measure => simp [intOf]; omega
    · obtain rfl : k = S.length := by omega
      go_wp2_with fail
      refine startX (S := fun w' => Off FS wr w') 11 (by kernel_rfl) (Off.refl _ _).drew (fun hHeld => ?_)
      refine moveX 0 29 0 rfl rfl rfl (by kernel_rfl) (by kernel_rfl) (by kernel_rfl) (fun _ _ _ h => h) (by rfl) (by kernel_rfl) (by decide) hHeld rfl ?_
      simp only [List.set_cons_succ, List.set_cons_zero]
      refine moveX 1 30 0 rfl rfl rfl (by kernel_rfl) (by kernel_rfl) (by kernel_rfl) (fun _ _ _ h => h) (by rfl) (by kernel_rfl) (by decide) hHeld rfl ?_
      simp only [List.set_cons_succ, List.set_cons_zero]
      refine takeX 2 31 (v := ?_) rfl rfl (by kernel_rfl) (by kernel_rfl) (by kernel_rfl) (fun _ _ _ h => h) (by rfl) (by kernel_rfl) (by decide) hHeld (fun w hSw => ?_) ?_
      rotate_left 1
      · (try dsimp only at hSw)
        clear hSw
        go_simp
        try with_reducible rfl
      simp only [List.set_cons_succ, List.set_cons_zero]
      refine takeX 3 32 (v := ?_) rfl rfl (by kernel_rfl) (by kernel_rfl) (by kernel_rfl) (fun _ _ _ h => h) (by rfl) (by kernel_rfl) (by decide) hHeld (fun w hSw => ?_) ?_
      rotate_left 1
      · (try dsimp only at hSw)
        clear hSw
        go_simp
        try with_reducible rfl
      simp only [List.set_cons_succ, List.set_cons_zero]
      refine moveX 5 34 1 rfl rfl rfl (by kernel_rfl) (by kernel_rfl) (by kernel_rfl) (fun _ _ _ h => h) (by rfl) (by kernel_rfl) (by decide) hHeld rfl ?_
      simp only [List.set_cons_succ, List.set_cons_zero]
      refine takeX 4 33 (v := ?_) rfl rfl (by kernel_rfl) (by kernel_rfl) (by kernel_rfl) (fun _ _ _ h => h) (by rfl) (by kernel_rfl) (by decide) hHeld (fun w hSw => ?_) ?_
      rotate_left 1
      · (try dsimp only at hSw)
        have e0_ := (show TBox w b vL (.slice y S.length cy) from off_block hA.box hSw hA.ns).c1
        clear hSw
        go_simp
        try with_reducible rfl
      simp only [List.set_cons_succ, List.set_cons_zero]
      refine takeX 6 35 (v := ?_) rfl rfl (by kernel_rfl) (by kernel_rfl) (by kernel_rfl) (fun _ _ _ h => h) (by rfl) (by kernel_rfl) (by decide) hHeld (fun w hSw => ?_) ?_
      rotate_left 1
      · (try dsimp only at hSw)
        have e0_ := (sx.off hSw (fun k _ h hk => h ((HF.out k).2 (Or.inr (Or.inr hk))))).sat.conv (c := c)
        clear hSw
        go_simp
        try with_reducible rfl
      simp only [List.set_cons_succ, List.set_cons_zero]
      refine onlyX 7 rfl (by kernel_rfl) (by rfl) (fun K hK => ?_)
      go_wp2
      have hof : Off FS wr (wr.alloc (.cells #[.string (strOfNums xs)] 9)).drew := ((Off.refl _ _).alloc _).drew
      refine hK.out _ _ (fun _ => hof) (fun _ => ?_)
      clear hK K hHeld
      obtain ⟨i0, hi, hz0, hz1, hz2⟩ := info_parts Try.strInfo
      have own2 : (wr.alloc (.cells #[.string (strOfNums xs)] 9)).drew.ownsRow 0 9 1 (.slice y S.length cy) S.length (S.map fun p => .string (strOfNums p)) := own_off hA.sum.1 (Off.of_below (F := fun _ => False) ((Below.refl wr.heap.size wr).alloc (Nat.le_refl _) _).drew) (fun _ _ h => h)
      have hA2 := hA.off (Off.of_below (F := fun _ => False) ((Below.refl wr.heap.size wr).alloc (Nat.le_refl _) (.cells #[.string (strOfNums xs)] 9)).drew) (fun _ _ _ h => h)
      have hcl : (wr.alloc (.cells #[.string (strOfNums xs)] 9)).drew.cell? ⟨wr.heap.size, 0, none⟩ = some (.string (strOfNums xs)) := by
        show (wr.alloc (.cells #[.string (strOfNums xs)] 9)).cell? _ = _
        simp
      have hsz2 : wr.heap.size ≤ (wr.alloc (.cells #[.string (strOfNums xs)] 9)).drew.heap.size := hof.size
      have hbw2 : Below wr.heap.size wr (wr.alloc (.cells #[.string (strOfNums xs)] 9)).drew := ((Below.refl wr.heap.size wr).alloc (Nat.le_refl _) _).drew
      have bR2 := bR.grown ((Below.refl wr.heap.size wr).alloc (Nat.le_refl _) (.cells #[.string (strOfNums xs)] 9)).drew
      generalize (wr.alloc (.cells #[.string (strOfNums xs)] 9)).drew = w2 at *
      refine onlyX 8 rfl (by kernel_rfl) (by rfl) (fun K hK => ?_)
      refine wp_append_at (.tmp 33) (.tmp 36) 56 rfl 0 9 i0 (.string (strOfNums [])) 1 16 Try.underlying56 hi hz0 hz1 hz2 rfl (by decide) _ _ _ rfl own2 ⟨wr.heap.size, 0, none⟩ 1 1 [.string (strOfNums xs)] rfl rfl (fun j u hj => ?_) (fun u hu => ?_) (by unfold maxLen; omega) (by omega) (Nat.zero_le _) ?_
      · match j, hj with
        | 0, hj =>
          simp at hj
          subst hj
          rw [add_plain']
          exact hcl
      · simp at hu
        subst hu
        rfl
      intro v3 w3 own3 hg3 hwh
      obtain ⟨y3, c3, rfl, hc3, hm3, nil3⟩ := own_is own3
      have hr3 : ∀ k, (Value.slice y S.length cy).ownBlock = some k → FS k := hA2.sum.2.1
      have hof3R : Off (fun k => (Value.slice y S.length cy).ownBlock = some k) w2 w3 := (Off.refl _ _).grown hg3 (fun k hk => Or.inl hk)
      have hof3 : Off FS w2 w3 := hof3R.mono (fun k hk => Or.inl (hr3 k hk))
      have hofS : Off FS wr w3 := hof.trans hof3 (fun k hk => Or.inl hk)
      have hofF : Off F wr w3 := hofS.mono (fun k hk => Or.inl ((HF.out k).2 (Or.inr (Or.inr hk))))
      refine hK.out _ _ (fun _ => hofS) (fun _ => ?_)
      have hHeld := hofS
      clear hK K
      simp only [Act.put, List.setIfInBounds_toArray]
      refine onlyX 9 rfl (by kernel_rfl) (by rfl) (fun K hK => ?_)
      go_wp2
      refine hK.out _ _ (fun _ => hHeld) (fun _ => ?_)
      clear hK K
      refine onlyX 10 rfl (by kernel_rfl) (by rfl) (fun K hK => ?_)
      go_wp2
      refine hK.out _ _ (fun _ => hHeld) (fun _ => ?_)
      clear hK K
      have hT3 : TBox w3 b vL (.slice y S.length cy) := off_block hA2.box hof3 hA2.ns
      have k0 := hT3.c1
      have k2 := hT3.frozen 1
      refine onlyX 11 rfl (by kernel_rfl) (by rfl) (fun K hK => ?_)
      go_wp2_with fail
      clear k0 k2
      have hT4 := hT3.put1 (.slice y3 (S.length + 1) c3)
      have hof4 : Off (fun k => k = b) w3 (w3.setCell ⟨b, 1, none⟩ (.slice y3 (S.length + 1) c3)) := (Off.refl (fun k => k = b) w3).setCell (p := ⟨b, 1, none⟩) (Or.inl rfl) _
      refine hK.out _ _ (fun h => absurd rfl h) (fun _ => ?_)
      clear hK K hHeld
      refine doneX (by kernel_rfl) ?_ _
      have hbF : F b := (HF.out b).2 (Or.inl rfl)
      have hbl := hlt0 b hbF
      have hRz : w.heap.size < w2.heap.size := Nat.lt_of_lt_of_le bR.lt hsz2
      have hb3 : ∀ k, (Value.slice y3 (S.length + 1) c3).ownBlock = some k → FS k ∨ w2.heap.size ≤ k := fun k hk => (hwh k hk).imp (hr3 k) id
      have hFS : ∀ k, FS k → k < w.heap.size := fun k hk => hlt0 k ((HF.out k).2 (Or.inr (Or.inr hk)))
      have hFL : ∀ k, FL k → k < w.heap.size := fun k hk => hlt0 k ((HF.out k).2 (Or.inr (Or.inl hk)))
      have bR4 : Box (w3.setCell ⟨b, 1, none⟩ (.slice y3 (S.length + 1) c3)) w.heap.size 0 0 := off_block (off_block bR2 hof3 (fun h => absurd (hFS _ h) (Nat.lt_irrefl _))) hof4 (fun h => by omega)
      have hI4 := (hA2.iss.off hof3 (fun k _ h => hA.ls k h)).off hof4 (fun k _ h e => hA.nl (e ▸ h))
      have own4 := own_off own3 hof4 (fun k hk e => by rcases hb3 k hk with h | h; exact hA.ns (e ▸ h); omega)
      have hof5 := hofF.trans hof4 (fun k hk => Or.inl ((HF.out k).2 (Or.inl hk)))
      have hof6 : Off F w (w3.setCell ⟨b, 1, none⟩ (.slice y3 (S.length + 1) c3)) := (Off.of_below hB).trans hof5 (fun k hk => Or.inl hk)
      have hz4 : w3.heap.size ≤ (w3.setCell ⟨b, 1, none⟩ (.slice y3 (S.length + 1) c3)).heap.size := hof4.size
      have hz3 := hof3.size
      have hnl := hA.nl
      have hns := hA.ns
      have hls := hA.ls
      have hSb2 := hA.sum.2.2
      have hU4 : U8 w (w3.setCell ⟨b, 1, none⟩ (.slice y3 (S.length + 1) c3)) := fun k cur fr h => by
        have hk : k < w.heap.size := (Array.getElem?_eq_some_iff.1 h).1
        have h2 : w2.heap[k]? = some (.cells cur 5 fr) := (hbw2.block k (Nat.lt_of_lt_of_le hk hB.size)).trans ((hB.block k hk).trans h)
        have n1 : (Value.slice y S.length cy).ownBlock ≠ some k := fun e => by
          obtain ⟨cu, h'⟩ := own_type own2 e
          rw [h2] at h'
          simp at h'
        have n2 : k ≠ b := fun e => by
          have h' := hA2.box
          unfold TBox at h'
          rw [← e, h2] at h'
          simp at h'
        exact off_block (off_block h2 hof3R n1) hof4 n2
      clear hof hof3 hof3R hbw2 hof4 hof5 hofF hofS hT3 hA2 hA hI' bR bR2 own own2 hcl hg3 k1
      generalize w3.setCell ⟨b, 1, none⟩ (.slice y3 (S.length + 1) c3) = w4 at *
      have k0 := hT4.c1
      have k1 := bR4.c0
      have k2 := bR4.c1
      have k3 := bR4.frozen 0
      have k4 := bR4.frozen 1
      go_wp2
      have hbR := bR4.put2 17216961135462248174 ((S.length : Int) + 1)
      have r0 := hbR.c0
      have r1 := hbR.c1
      have hof7 : Off (fun k => k = w.heap.size) w4 ((w4.setCell ⟨w.heap.size, 0, none⟩ (.int .u64 17216961135462248174)).setCell ⟨w.heap.size, 1, none⟩ (.int .u64 ((S.length : Int) + 1))) := ((Off.refl (fun k => k = w.heap.size) w4).setCell (p := ⟨w.heap.size, 0, none⟩) (Or.inl rfl) _).setCell (p := ⟨w.heap.size, 1, none⟩) (Or.inl rfl) _
      have hnin : xs ∉ S := fun hm => by
        obtain ⟨j, hj, e⟩ := List.getElem_of_mem hm
        exact hf j hj (by simp [List.getD, hj, e])
      rw [sumIx_new hnin, sumSt, if_neg hnin]
      refine bodyPost_ret (v := .agg #[.int .u64 17216961135462248174, .int .u64 ((S.length + 1 : Nat) : Int)]) (by simp [results, Try.results57, go_sem, r0, r1]) rfl ⟨rfl, fun k => F k ∨ (Value.slice y3 (S.length + 1) c3).ownBlock = some k, ⟨FL, fun k => FS k ∨ (Value.slice y3 (S.length + 1) c3).ownBlock = some k, vL, _, ⟨off_block hT4 hof7 (fun e => by omega), hI4.off hof7 (fun k _ h e => by have := hFL k h; omega), ⟨?_, fun k hk => Or.inr hk, ?_⟩, hnl, ?_, ?_⟩, ?_, ?_⟩, ?_, ?_, hU4.trans (U8.of_off hof7 (fun k cur fr h e => ?_))⟩
      · rw [List.length_append, List.map_append]
        exact own_off own4 hof7 (fun k hk e => by rcases hb3 k hk with h | h; have := hFS k h; omega; omega)
      · intro p hp
        rcases List.mem_append.1 hp with h | h
        · exact hSb2 p h
        · rw [List.mem_singleton.1 h]
          exact bx
      · rintro (h | h)
        · exact hns h
        · rcases hb3 _ h with h | h
          · exact hns h
          · omega
      · rintro k hk (h | h)
        · exact hls k hk h
        · rcases hb3 _ h with h | h
          · exact hls k hk h
          · have := hFL k hk
            omega
      · intro k
        show (F k ∨ _) ↔ (k = b ∨ FL k ∨ FS k ∨ _)
        rw [HF.out k]
        constructor
        · rintro ((h | h | h) | h)
          · exact Or.inl h
          · exact Or.inr (Or.inl h)
          · exact Or.inr (Or.inr (Or.inl h))
          · exact Or.inr (Or.inr (Or.inr h))
        · rintro (h | h | h | h)
          · exact Or.inl (Or.inl h)
          · exact Or.inl (Or.inr (Or.inl h))
          · exact Or.inl (Or.inr (Or.inr h))
          · exact Or.inr h
      · rintro k (h | h)
        · exact Nat.lt_of_lt_of_le (hlt0 k h) (Nat.le_trans hof6.size hof7.size)
        · obtain ⟨cur, hh⟩ := own_type own4 h
          obtain ⟨hl, _⟩ := Array.getElem?_eq_some_iff.1 hh
          exact Nat.lt_of_lt_of_le hl hof7.size
      · rintro k (h | h)
        · exact Or.inl h
        · rcases hb3 _ h with h | h
          · exact Or.inl ((HF.out k).2 (Or.inr (Or.inr h)))
          · exact Or.inr (by omega)
      · exact hof6.trans hof7 (fun k hk => Or.inr (by omega))
      · have hl := bR4.lt
        have hx := bR4
        unfold Box at hx
        subst e
        rw [hx] at h
        simp at h
theorem rosum (F : Nat → Prop) (b : Nat) (L : List Iss) (S : List (List Int)) (xs : List Int) (x : Option Addr) (n c : Nat) (hSl : S.length ≤ 50000) (bx : Bytes xs) (w : World) (hI : RInv F w b (L, S)) (sx : SIn (fun k => ¬ F k) w x n xs) : Calls Try.prog 57 #[.pointer (some ⟨b, 0, none⟩), .slice x n c] w fun e w' => e = .returned (.agg #[.int .u64 17216961135462248174, .int .u64 (sumIx S xs : Nat)]) ∧ ∃ F', RInv F' w' b (L, sumSt S xs) ∧ (∀ k, F' k → F k ∨ w.heap.size ≤ k) ∧ Off F w w' :=
  (rosum8 F b L S xs x n c hSl bx w hI sx).mono (fun _ _ ⟨h1, F', h2, h3, h4, _⟩ => ⟨h1, F', h2, h3, h4⟩)
end Go.Proofs.Ytkbhkgfchiacbaa


/- What lockboxref7's Seal comes to. -/
namespace Go.Proofs.Ytkbhkgfchiacbaa
open Go.RowKit
set_option maxRecDepth 20000

theorem outB_take (i n k : Nat) (hk : k < n) : (outB i n).take (k + 1) = (outB i n).take k ++ [(putL i 8).getD (k % 8) 0] := by
  rw [List.take_succ_eq_append_getElem (by rw [outB_length]; exact hk)]
  simp [outB]

end Go.Proofs.Ytkbhkgfchiacbaa


/- The document's own lock: which sealer, in a block of its own; New, Sum, Issued. -/
namespace Go.Proofs.Ytkbhkgfchiacbaa
open Go.RowKit
set_option maxRecDepth 20000

/-- One cell in block b. -/
def LBox (w : World) (b : Nat) (v : Value) : Prop := w.heap[b]? = some (.cells #[v] 60 (0, 0))
theorem LBox.lt {w : World} {b : Nat} {v : Value} (h : LBox w b v) : b < w.heap.size := by
  obtain ⟨hlt, _⟩ := Array.getElem?_eq_some_iff.1 h
  exact hlt
theorem LBox.c0 {w : World} {b : Nat} {v : Value} (h : LBox w b v) : w.cell? ⟨b, 0, none⟩ = some v := by unfold LBox at h; simp [World.cell?, h]
theorem LBox.not8 {w : World} {b : Nat} {v : Value} (h : LBox w b v) {cur : Array Value} {fr : Nat × Nat} (h2 : w.heap[b]? = some (.cells cur 5 fr)) : False := by
  unfold LBox at h
  rw [h] at h2
  simp at h2
/-- The document's lock in block b: a real one, or one with an ideal sealer. -/
def RLInv (G : Nat → Prop) (w : World) (b : Nat) (st : LSt) : Prop :=
  (st = ⟨false, [], []⟩ ∧ LBox w b (.pointer none) ∧ ∀ k, G k ↔ k = b) ∨ (st.ideal = true ∧ ∃ o H, LBox w b (.pointer (some ⟨o, 0, none⟩)) ∧ RInv H w o (st.iss, st.sums) ∧ ¬ H b ∧ ∀ k, G k ↔ k = b ∨ H k)
theorem RLInv.off {G F : Nat → Prop} {w w' : World} {b : Nat} {st : LSt} (h : RLInv G w b st) (hb : Off F w w') (hd : ∀ k, k < w.heap.size → G k → ¬ F k) : RLInv G w' b st := by
  obtain ⟨h1, h2, h3⟩ | ⟨h1, o, H, h2, h3, h4, h5⟩ := h
  · exact Or.inl ⟨h1, off_block h2 hb (hd b h2.lt ((h3 b).2 rfl)), h3⟩
  · exact Or.inr ⟨h1, o, H, off_block h2 hb (hd b h2.lt ((h5 b).2 (Or.inl rfl))), h3.off hb (fun k hk hH => hd k hk ((h5 k).2 (Or.inr hH))), h4, h5⟩
theorem RLInv.below {G : Nat → Prop} {w w' : World} {b : Nat} {st : LSt} (h : RLInv G w b st) (hb : Below w.heap.size w w') : RLInv G w' b st := h.off (Off.of_below (F := fun _ => False) hb) (fun _ _ _ h => h)
theorem RLInv.lt {G : Nat → Prop} {w : World} {b : Nat} {st : LSt} (h : RLInv G w b st) (k : Nat) (hk : G k) : k < w.heap.size := by
  obtain ⟨h1, h2, h3⟩ | ⟨h1, o, H, h2, h3, h4, h5⟩ := h
  · exact (h3 k).1 hk ▸ h2.lt
  · rcases (h5 k).1 hk with rfl | hk
    · exact h2.lt
    · exact h3.lt k hk
/-- A call on the ideal sealer behind the document's lock. -/
theorem RLInv.lift {G H H' : Nat → Prop} {w W1 w2 w3 : World} {b o : Nat} {st' : LSt} (hb : LBox W1 b (.pointer (some ⟨o, 0, none⟩))) (hbl : b < w.heap.size) (hn : ¬ H b) (hH : ∀ k, H k → k < w.heap.size) (hG : ∀ k, G k ↔ k = b ∨ H k) (hi : st'.ideal = true) (hB : Below w.heap.size w W1) (hR : RInv H' w2 o (st'.iss, st'.sums)) (hsub : ∀ k, H' k → H k ∨ W1.heap.size ≤ k) (hoff : Off H W1 w2) (hp : Off (fun k => w.heap.size ≤ k ∧ k < W1.heap.size) w2 w3) :
    RLInv (fun k => k = b ∨ H' k) w3 b st' ∧ (∀ k, k = b ∨ H' k → G k ∨ w.heap.size ≤ k) ∧ Off G w w3 := by
  have hz := hB.size
  have hnp : ∀ k, k = b ∨ H' k → ¬ (w.heap.size ≤ k ∧ k < W1.heap.size) := by
    rintro k (rfl | h) h2
    · omega
    · rcases hsub k h with h | h
      · have := hH k h
        omega
      · omega
  refine ⟨Or.inr ⟨hi, o, H', off_block (off_block hb hoff hn) hp (hnp b (Or.inl rfl)), hR.off hp (fun k _ hk => hnp k (Or.inr hk)), fun h => (hsub b h).elim hn (fun h => by omega), fun _ => Iff.rfl⟩, ?_, ?_⟩
  · rintro k (rfl | h)
    · exact Or.inl ((hG _).2 (Or.inl rfl))
    · exact (hsub k h).imp (fun h => (hG k).2 (Or.inr h)) (fun h => by omega)
  · exact ((Off.of_below hB).trans hoff (fun k h => Or.inl ((hG k).2 (Or.inr h)))).trans hp (fun k h => Or.inr h.1)
theorem rinv_made (w : World) : RInv (fun k => k = w.heap.size) (w.alloc (.cells #[.slice none 0 0, .slice none 0 0] 58)) w.heap.size ([], []) := by
  refine ⟨fun _ => False, fun _ => False, .slice none 0 0, .slice none 0 0, ⟨heap_alloc_new w _, ⟨fun _ => ⟨none, 0, none, 0, none, 0⟩, World.ownsRow_nil _ _ _ _, fun k hk => by simp [Value.ownBlock] at hk, fun i hi => absurd hi (by simp)⟩, ⟨World.ownsRow_nil _ _ _ _, fun k hk => by simp [Value.ownBlock] at hk, fun p hp => by simp at hp⟩, fun h => h, fun h => h, fun _ h => h.elim⟩, fun k => by simp, fun k hk => ?_⟩
  subst hk
  rw [World.size_alloc]
  omega
theorem rlnew (i : Bool) (w : World) : Calls Try.prog 13 #[.bool i] w fun e w' => ∃ b G, e = .returned (.pointer (some ⟨b, 0, none⟩)) ∧ RLInv G w' b ⟨i, [], []⟩ ∧ (∀ k, G k → w.heap.size ≤ k) ∧ Below w.heap.size w w' := by
  cases i
  · have hN : LBox (w.alloc (.cells #[.pointer none] 60)) w.heap.size (.pointer none) := heap_alloc_new _ _
    have hB : Below w.heap.size w (w.alloc (.cells #[.pointer none] 60)) := (Below.refl _ _).alloc (Nat.le_refl _) _
    go_enter Try.func13, Try.ntmps13
    go_wp2
    go_ret
    exact ⟨_, fun k => k = w.heap.size, rfl, Or.inl ⟨rfl, hN, fun _ => Iff.rfl⟩, fun k hk => hk ▸ Nat.le_refl _, hB⟩
  · have hR := rinv_made w
    have hB : Below w.heap.size w (w.alloc (.cells #[.slice none 0 0, .slice none 0 0] 58)) := (Below.refl _ _).alloc (Nat.le_refl _) _
    have hz : (w.alloc (.cells #[.slice none 0 0, .slice none 0 0] 58)).heap.size = w.heap.size + 1 := World.size_alloc ..
    have hb2 : Below (w.alloc (.cells #[.slice none 0 0, .slice none 0 0] 58)).heap.size (w.alloc (.cells #[.slice none 0 0, .slice none 0 0] 58)) ((w.alloc (.cells #[.slice none 0 0, .slice none 0 0] 58)).alloc (.cells #[.pointer (some ⟨w.heap.size, 0, none⟩)] 60)) := (Below.refl _ _).alloc (Nat.le_refl _) _
    have hN : LBox ((w.alloc (.cells #[.slice none 0 0, .slice none 0 0] 58)).alloc (.cells #[.pointer (some ⟨w.heap.size, 0, none⟩)] 60)) (w.heap.size + 1) (.pointer (some ⟨w.heap.size, 0, none⟩)) := by
      rw [← hz]
      exact heap_alloc_new _ _
    have hR2 := hR.below hb2
    have hB2 := hB.trans (hb2.mono hB.size)
    clear hR hB hb2 hz
    go_enter Try.func13, Try.ntmps13
    go_wp2
    go_ret
    refine ⟨_, fun k => k = w.heap.size + 1 ∨ k = w.heap.size, rfl, Or.inr ⟨rfl, w.heap.size, _, hN, hR2, by omega, fun _ => Iff.rfl⟩, fun k hk => by omega, hB2⟩
set_option maxHeartbeats 1000000 in
theorem rlsum (G : Nat → Prop) (b : Nat) (st : LSt) (xs : List Int) (x : Option Addr) (n c : Nat) (hn : n ≤ 50000) (hS : st.sums.length ≤ 50000) (bx : Bytes xs) (fx : Fit x n c) (w : World) (hI : RLInv G w b st) (sx : SIn (fun k => ¬ G k) w x n xs) :
    Calls Try.prog 41 #[.pointer (some ⟨b, 0, none⟩), .slice x n c] w fun e w' => e = .returned (.agg #[.int .u64 (st.sumV xs).1, .int .u64 (st.sumV xs).2]) ∧ ∃ G', RLInv G' w' b (st.sumS xs) ∧ (∀ k, G' k → G k ∨ w.heap.size ≤ k) ∧ Off G w w' ∧ U8 w w' := by
  have hI' := hI
  have bR := Box.new w 0 0
  have hB : Below w.heap.size w (w.alloc (.cells #[.int .u64 0, .int .u64 0] 34)) := by go_grown
  obtain ⟨rfl, h2, h3⟩ | ⟨hi, o, H, h2, hP, hn', hG⟩ := hI
  · have hbl := h2.lt
    have hbW : LBox (w.alloc (.cells #[.int .u64 0, .int .u64 0] 34)) b (.pointer none) := off_block h2 (Off.of_below (F := fun _ => False) hB) (fun h => h)
    have k0 := hbW.c0
    obtain ⟨p, HP⟩ : ∃ p, Hid (sumP xs = p) := ⟨_, rfl⟩
    rw [LSt.sumV_real rfl xs HP.out]
    have hs : LSt.sumS ⟨false, [], []⟩ xs = ⟨false, [], []⟩ := rfl
    rw [hs]
    clear hs
    have sx1 := sx.sat.below hB
    go_enter Try.func41, Try.ntmps41
    go_wp2_with fail
    generalize w.alloc (.cells #[.int .u64 0, .int .u64 0] 34) = W1 at *
    refine (rsum_of xs x n c hn bx fx.2.2 _ sx1 HP.out).mono ?_
    rintro e w2 ⟨rfl, hb2⟩
    replace bR := bR.grown hb2
    replace hB := hB.trans (hb2.mono hB.size)
    have q0 := bR.c0
    have q1 := bR.c1
    have q2 := bR.frozen 0
    have q3 := bR.frozen 1
    go_wp2
    clear q0 q1 q2 q3
    replace bR := bR.put2 (nv p.1) (nv p.2)
    have r0 := bR.c0
    have r1 := bR.c1
    have hb3 := (((Off.of_below (F := fun _ => False) hB).setCell (p := ⟨w.heap.size, 0, none⟩) (Or.inr (Nat.le_refl _)) (.int .u64 (nv p.1))).setCell (p := ⟨w.heap.size, 1, none⟩) (Or.inr (Nat.le_refl _)) (.int .u64 (nv p.2))).none (fun _ h => h.elim)
    refine bodyPost_ret (v := .agg #[.int .u64 (nv p.1), .int .u64 (nv p.2)]) (by simp [results, Try.results41, go_sem, r0, r1]) rfl ⟨rfl, G, hI'.below hb3, fun k h => Or.inl h, Off.of_below hb3, U8.of_below hb3⟩
  · have hbl := h2.lt
    have hbW : LBox (w.alloc (.cells #[.int .u64 0, .int .u64 0] 34)) b (.pointer (some ⟨o, 0, none⟩)) := off_block h2 (Off.of_below (F := fun _ => False) hB) (fun h => h)
    have k0 := hbW.c0
    have hv : st.sumV xs = (17216961135462248174, ((sumIx st.sums xs : Nat) : Int)) := by rw [LSt.sumV, if_pos hi]
    have hs : st.sumS xs = ⟨st.ideal, st.iss, sumSt st.sums xs⟩ := by rw [LSt.sumS, if_pos hi]
    rw [hv, hs]
    clear hv hs
    have hHl := hP.lt
    replace sx := (sx.off (Off.of_below (F := fun _ => False) hB) (fun _ _ _ h => h)).mono (G' := fun k => ¬ H k) (fun k _ h hg => h ((hG k).2 (Or.inr hg)))
    replace hP := hP.below hB
    have hU := U8.of_below hB
    go_enter Try.func41, Try.ntmps41
    go_wp2_with fail
    have hWz : w.heap.size < (w.alloc (.cells #[.int .u64 0, .int .u64 0] 34)).heap.size := by simp
    generalize w.alloc (.cells #[.int .u64 0, .int .u64 0] 34) = W1 at *
    refine (rosum8 H o st.iss st.sums xs x n c hS bx _ hP sx).mono ?_
    rintro e w2 ⟨rfl, H2, hR, hsub, hoff, hU2⟩
    replace bR : Box w2 w.heap.size 0 0 := off_block bR hoff (fun h => by have := hHl _ h; omega)
    have bR' := bR
    have q0 := bR.c0
    have q1 := bR.c1
    have q2 := bR.frozen 0
    have q3 := bR.frozen 1
    go_wp2
    clear q0 q1 q2 q3
    replace bR := bR.put2 17216961135462248174 ((sumIx st.sums xs : Nat) : Int)
    have r0 := bR.c0
    have r1 := bR.c1
    have hp : Off (fun k => k = w.heap.size) w2 ((w2.setCell ⟨w.heap.size, 0, none⟩ (.int .u64 17216961135462248174)).setCell ⟨w.heap.size, 1, none⟩ (.int .u64 ((sumIx st.sums xs : Nat) : Int))) := ((Off.refl (fun k => k = w.heap.size) w2).setCell (p := ⟨w.heap.size, 0, none⟩) (Or.inl rfl) _).setCell (p := ⟨w.heap.size, 1, none⟩) (Or.inl rfl) _
    obtain ⟨a1, a2, a3⟩ := RLInv.lift (st' := ⟨st.ideal, st.iss, sumSt st.sums xs⟩) hbW hbl hn' hHl hG hi hB hR hsub hoff (hp.mono (fun k h => Or.inl ⟨by omega, by omega⟩))
    refine bodyPost_ret (v := .agg #[.int .u64 17216961135462248174, .int .u64 ((sumIx st.sums xs : Nat) : Int)]) (by simp [results, Try.results41, go_sem, r0, r1]) rfl ⟨rfl, _, a1, a2, a3, (hU.trans hU2).trans (U8.of_off hp (fun k cur fr h e => ?_))⟩
    subst e
    have hx := bR'
    unfold Box at hx
    rw [hx] at h
    simp at h
end Go.Proofs.Ytkbhkgfchiacbaa
