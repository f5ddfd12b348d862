/- FieldEval's walk, where field's functions are what the document has. -/
import Derived.Test.YtmkkcplkpajjfaaFldApp
import Derived.Deep.Cut
import Derived.Deep.CutRange
namespace Go.Proofs.Ytmkkcplkpajjfaa
open Go.RowKit

theorem own_grown {w w' : World} {base n : Nat} {e : TypeId} {size : Nat} {v : Value} {xs : List Value} (h : w.ownsRow base e size v n xs) (hb : Below w.heap.size w w') : w'.ownsRow base e size v n xs :=
  h.kept (row := none) ⟨hb.os, hb.tape, hb.output, hb.size, fun k hk _ => hb.block k hk⟩ (by cases hv : v.ownBlock <;> simp)
theorem eval_is (hE : EvalSaid) (h : BitVec 64 × BitVec 64) (f : Nat → BitVec 64 × BitVec 64) (x : Option Addr) (n cap : Nat) (hn : n ≤ 1000000) (w : World) (hx : PRow w x n f) {q : BitVec 64 × BitVec 64} (hq : evalP h f n = q) :
    Calls Try.prog 13 #[.agg #[.int .u64 (nv h.1), .int .u64 (nv h.2)], .slice x n cap] w fun e w' => e = .returned (.agg #[.int .u64 (nv q.1), .int .u64 (nv q.2)]) ∧ Below w.heap.size w w' := hq ▸ hE h f x n cap hn w hx
theorem reval_is (h : BitVec 64 × BitVec 64) (f : Nat → BitVec 64 × BitVec 64) (x : Option Addr) (n cap : Nat) (hn : n ≤ 1000000) (w : World) (hx : PRow w x n f) {q : BitVec 64 × BitVec 64} (hq : evalP h f n = q) :
    Calls Try.prog 14 #[.agg #[.int .u64 (nv h.1), .int .u64 (nv h.2)], .slice x n cap] w fun e w' => e = .returned (.agg #[.int .u64 (nv q.1), .int .u64 (nv q.2)]) ∧ Below w.heap.size w w' := hq ▸ reval h f x n cap hn w hx
theorem eval_more (h p : BitVec 64 × BitVec 64) (f : Nat → BitVec 64 × BitVec 64) (n : Nat) : evalP h (fun i => if i < n then f i else p) (n + 1) = fmul (addP (evalP h f n) p) h := by
  rw [evalP_succ, if_neg (Nat.lt_irrefl n), evalP_congr n (f' := f) (fun i hi => if_pos hi)]

set_option maxRecDepth 10000 in
set_option maxHeartbeats 8000000 in
theorem eval_in (hM : MulSaid) (hA : AddSaid) (hE : EvalSaid) (h p : BitVec 64 × BitVec 64) (f : Nat → BitVec 64 × BitVec 64) (x : Option Addr) (n cap : Nat) (hn : n ≤ 50) (w : World) (hx : PRow w x n f) : Calls Try.prog 5 #[.agg #[.int .u64 (nv h.1), .int .u64 (nv h.2)], .slice x n cap, .agg #[.int .u64 (nv p.1), .int .u64 (nv p.2)]] w fun e w' => e = .returned (.bool true) ∧ Below w.heap.size w w' := by
  have heq := eq32
  obtain ⟨q, HQ⟩ : ∃ q, Hid (evalP h f n = q) := ⟨_, rfl⟩
  obtain ⟨q2, HQ2, HM⟩ : ∃ q2, Hid (evalP h (fun i => if i < n then f i else p) (n + 1) = q2) ∧ Hid (fmul (addP q p) h = q2) := ⟨_, rfl, by rw [← HQ.out]; exact (eval_more h p f n).symm⟩
  go_enter Try.func5, Try.ntmps5
  go_wp2_with fail
  have b0 := (Box.new w (nv h.1) (nv h.2)).alloc (.cells #[.int .u64 (nv p.1), .int .u64 (nv p.2)] 24)
  have b1 := Box.new (w.alloc (.cells #[.int .u64 (nv h.1), .int .u64 (nv h.2)] 24)) (nv p.1) (nv p.2)
  simp only [World.size_alloc] at b1
  have hB : Below w.heap.size w ((w.alloc (.cells #[.int .u64 (nv h.1), .int .u64 (nv h.2)] 24)).alloc (.cells #[.int .u64 (nv p.1), .int .u64 (nv p.2)] 24)) := by go_grown
  generalize ((w.alloc (.cells #[.int .u64 (nv h.1), .int .u64 (nv h.2)] 24)).alloc (.cells #[.int .u64 (nv p.1), .int .u64 (nv p.2)] 24)) = W at *

  have hx := hx.grown hB
  refine (eval_is hE h f x n cap (by omega) _ hx HQ.out).mono ?_
  rintro e wn ⟨rfl, hbn⟩
  replace b0 := b0.grown hbn
  replace b1 := b1.grown hbn
  have hx := hx.grown hbn
  have hB := hB.trans (hbn.mono hB.size)
  clear hbn
  go_wp2_with fail
  have b2 := Box.new wn (nv q.1) (nv q.2)
  replace b0 := b0.alloc (.cells #[.int .u64 (nv q.1), .int .u64 (nv q.2)] 24)
  replace b1 := b1.alloc (.cells #[.int .u64 (nv q.1), .int .u64 (nv q.2)] 24)
  have hx := hx.grown ((Below.refl _ _).alloc (Nat.le_refl _) (.cells #[.int .u64 (nv q.1), .int .u64 (nv q.2)] 24))
  have hB := hB.alloc hB.size (.cells #[.int .u64 (nv q.1), .int .u64 (nv q.2)] 24)
  generalize wn.alloc (.cells #[.int .u64 (nv q.1), .int .u64 (nv q.2)] 24) = W0 at *
  generalize wn.heap.size = A at *
  have hb0 := b0.lt
  have hb1 := b1.lt
  go_cut [8] from 15 to 22 (fun s8 wx => ∃ g8, s8 = .pointer (some ⟨g8, 0, none⟩) ∧ Box wx g8 (nv q2.1) (nv q2.2) ∧ Below W0.heap.size W0 wx)
  case first =>
    refine wp_region_held_drew (S := fun w' => w'.cell? ⟨w.heap.size, 0, none⟩ = some (.int .u64 (nv h.1)) ∧ w'.cell? ⟨w.heap.size, 1, none⟩ = some (.int .u64 (nv h.2)) ∧ w'.cell? ⟨w.heap.size + 1, 0, none⟩ = some (.int .u64 (nv p.1)) ∧ w'.cell? ⟨w.heap.size + 1, 1, none⟩ = some (.int .u64 (nv p.2))) (by kernel_rfl) ⟨b0.c0, b0.c1, b1.c0, b1.c1⟩ (fun hHeld => ?_)
    replace b0 := b0.drew
    replace b1 := b1.drew
    have hW : Below W0.heap.size W0 W0.drew := (Below.refl _ _).drew
    have hz : W0.heap.size ≤ W0.drew.heap.size := Nat.le_refl _
    generalize W0.drew = w0_ at *
    refine takeL 0 15 (v := ?_) rfl rfl (by kernel_rfl) (by kernel_rfl) (by kernel_rfl) (fun _ _ _ h => h) (by rfl) hHeld (fun w hSw => ?_) ?_
    rotate_left 1
    · (try dsimp only at hSw); go_simp; try with_reducible rfl
    simp only [List.set_cons_succ, List.set_cons_zero]
    refine takeM 2 17 1 rfl rfl rfl (by kernel_rfl) (by kernel_rfl) (by kernel_rfl) (fun _ _ _ h => h) (by rfl) hHeld rfl ?_
    simp only [List.set_cons_succ, List.set_cons_zero]
    refine takeL 4 19 (v := ?_) rfl rfl (by kernel_rfl) (by kernel_rfl) (by kernel_rfl) (fun _ _ _ h => h) (by rfl) hHeld (fun w hSw => ?_) ?_
    rotate_left 1
    · (try dsimp only at hSw); go_simp; try with_reducible rfl
    simp only [List.set_cons_succ, List.set_cons_zero]
    refine threeL 1 5 8 rfl rfl rfl (by kernel_rfl) (by rfl) (by rfl) (by rfl) (fun K hK => ?_) (fun K hK => ?_) (fun K hK => ?_)
    · go_wp2_with fail
      have own16_ := World.ownsRow_made (base := W0.heap.size) (e := 24) (size := 2) w0_ #[] 0 hz (by decide) rfl
      have hb : Below w0_.heap.size w0_ (w0_.alloc (.cells #[] 24)) := (Below.refl _ _).alloc (Nat.le_refl _) _
      have lt : w0_.heap.size < (w0_.alloc (.cells #[] 24)).heap.size := by rw [World.size_alloc]; omega
      replace b0 := b0.grown hb
      replace b1 := b1.grown hb
      replace hW := hW.trans (hb.mono hz)
      replace hz := Nat.le_trans hz hb.size
      clear hb
      have own16 := own16_
      clear own16_
      have l16 := lt
      refine hK.out _ _ ⟨b0.c0, b0.c1, b1.c0, b1.c1⟩ (fun hHeld => ?_)
      clear hK K
      generalize w0_.alloc (.cells #[] 24) = w1_ at *
      generalize w0_.heap.size = g16 at *
      refine threeL 3 5 8 rfl rfl rfl (by kernel_rfl) (by rfl) (by rfl) (by rfl) (fun K hK => ?_) (fun K hK => ?_) (fun K hK => ?_)
      · refine wp_app0 (.tmp 16) (.tmp 17) rfl W0.heap.size g16 rfl own16 x n cap f rfl (hx.below (Nat.le_refl _) hW) (by omega) hz (fun k18 c18 w2_ own18 hb hk => ?_)
        replace b0 := b0.grown hb
        replace b1 := b1.grown hb
        replace hW := hW.trans (hb.mono hz)
        replace hz := Nat.le_trans hz hb.size
        have l18 : k18 < w2_.heap.size := (own18.lt k18 rfl).2
        clear hb hk own16
        refine hK.out _ _ ⟨b0.c0, b0.c1, b1.c0, b1.c1⟩ (fun hHeld => ?_)
        clear hK K
        simp only [Act.put, List.setIfInBounds_toArray]
        refine twoL 5 8 rfl rfl (by kernel_rfl) (by rfl) (by rfl) (fun K hK => ?_) (fun K hK => ?_)
        · go_wp2_with fail
          have box20_ := Box.new w2_ (nv p.1) (nv p.2)
          have hb : Below w2_.heap.size w2_ (w2_.alloc (.cells #[.int .u64 (nv p.1), .int .u64 (nv p.2)] 24)) := (Below.refl _ _).alloc (Nat.le_refl _) _
          have lt : w2_.heap.size < (w2_.alloc (.cells #[.int .u64 (nv p.1), .int .u64 (nv p.2)] 24)).heap.size := by rw [World.size_alloc]; omega
          replace b0 := b0.grown hb
          replace b1 := b1.grown hb
          replace own18 := own_grown own18 hb
          replace l18 := Nat.lt_of_lt_of_le l18 hb.size
          replace hW := hW.trans (hb.mono hz)
          replace hz := Nat.le_trans hz hb.size
          clear hb
          have box20 := box20_
          clear box20_
          refine hK.out _ _ ⟨b0.c0, b0.c1, b1.c0, b1.c1⟩ (fun hHeld => ?_)
          clear hK K
          generalize w2_.alloc (.cells #[.int .u64 (nv p.1), .int .u64 (nv p.2)] 24) = w3_ at *
          generalize w2_.heap.size = g20 at *
          refine twoL 6 8 rfl rfl (by kernel_rfl) (by rfl) (by rfl) (fun K hK => ?_) (fun K hK => ?_)
          · refine wp_app1 (.tmp 18) (.tmp 20) rfl W0.heap.size k18 n c18 f rfl own18 g20 p rfl box20 (by omega) hz (fun v21 w4_ own21 hg => ?_)
            have hk18 := (own18.lt k18 rfl).1
            have hW2 : Below W0.heap.size w3_ w4_ := (Below.refl _ _).grown hg hz (fun k e => by
              obtain rfl : k18 = k := by simpa using e
              exact hk18)
            replace b0 := b0.below hW2 hb0
            replace b1 := b1.below hW2 hb1
            replace hW := hW.trans hW2
            replace hz := Nat.le_trans hz hg.size
            clear own18 box20 hW2 hg hk18
            obtain ⟨x21, c21, rfl, row21⟩ := own_prow own21
            clear own21
            refine hK.out _ _ ⟨b0.c0, b0.c1, b1.c0, b1.c1⟩ (fun hHeld => ?_)
            clear hK K
            simp only [Act.put, List.setIfInBounds_toArray]
            refine twoL 7 8 rfl rfl (by kernel_rfl) (by rfl) (by rfl) (fun K hK => ?_) (fun K hK => ?_)
            · go_wp2_with fail
              refine (eval_is hE h (fun i => if i < n then f i else p) x21 (n + 1) c21 (by omega) _ row21 HQ2.out).mono ?_
              rintro e w5_ ⟨rfl, hb⟩
              replace b0 := b0.grown hb
              replace b1 := b1.grown hb
              replace hW := hW.trans (hb.mono hz)
              replace hz := Nat.le_trans hz hb.size
              clear hb row21
              refine hK.out _ _ ⟨b0.c0, b0.c1, b1.c0, b1.c1⟩ (fun hHeld => ?_)
              clear hK K
              refine onlyL 8 rfl (by kernel_rfl) (by rfl) (fun K hK => ?_)
              go_wp2_with fail
              have box8_ := Box.new w5_ 0 0
              have hb : Below w5_.heap.size w5_ (w5_.alloc (.cells #[.int .u64 0, .int .u64 0] 24)) := (Below.refl _ _).alloc (Nat.le_refl _) _
              have lt : w5_.heap.size < (w5_.alloc (.cells #[.int .u64 0, .int .u64 0] 24)).heap.size := by rw [World.size_alloc]; omega
              have z8 := hz
              replace b0 := b0.grown hb
              replace b1 := b1.grown hb
              replace hW := hW.trans (hb.mono hz)
              replace hz := Nat.le_trans hz hb.size
              clear hb
              have box8 := box8_
              clear box8_
              have l8 := lt
              refine hK.out _ _ ⟨b0.c0, b0.c1, b1.c0, b1.c1⟩ (fun hHeld => ?_)
              clear hK K
              generalize w5_.alloc (.cells #[.int .u64 0, .int .u64 0] 24) = w6_ at *
              generalize w5_.heap.size = g8 at *
              refine onlyL 9 rfl (by kernel_rfl) (by rfl) (fun K hK => ?_)
              have k0 := box8.c0
              have k1 := box8.c1
              have k2 := box8.frozen 0
              have k3 := box8.frozen 1
              go_wp2_with fail
              clear k0 k1 k2 k3
              replace b0 := b0.set2 (o := g8) (by omega) (.int .u64 (nv q2.1)) (.int .u64 (nv q2.2))
              replace b1 := b1.set2 (o := g8) (by omega) (.int .u64 (nv q2.1)) (.int .u64 (nv q2.2))
              replace box8 := box8.put2 (nv q2.1) (nv q2.2)
              replace hW := (hW.setCell (p := ⟨g8, 0, none⟩) z8 (.int .u64 (nv q2.1))).setCell (p := ⟨g8, 1, none⟩) z8 (.int .u64 (nv q2.2))
              refine hK.out _ _ ⟨b0.c0, b0.c1, b1.c0, b1.c1⟩ (fun hHeld => ?_)
              clear hK K
              refine wpAnyH_done (by kernel_rfl) ?_ _
              go_wp2_with fail
              go_meet
              exact ⟨g8, rfl, box8, hW⟩
            · go_wp2_with fail
              have box8_ := Box.new w4_ 0 0
              have hb : Below w4_.heap.size w4_ (w4_.alloc (.cells #[.int .u64 0, .int .u64 0] 24)) := (Below.refl _ _).alloc (Nat.le_refl _) _
              have lt : w4_.heap.size < (w4_.alloc (.cells #[.int .u64 0, .int .u64 0] 24)).heap.size := by rw [World.size_alloc]; omega
              have z8 := hz
              replace b0 := b0.grown hb
              replace b1 := b1.grown hb
              replace row21 := row21.grown hb
              replace hW := hW.trans (hb.mono hz)
              replace hz := Nat.le_trans hz hb.size
              clear hb
              have box8 := box8_
              clear box8_
              have l8 := lt
              refine hK.out _ _ ⟨b0.c0, b0.c1, b1.c0, b1.c1⟩ (fun hHeld => ?_)
              clear hK K
              generalize w4_.alloc (.cells #[.int .u64 0, .int .u64 0] 24) = w5_ at *
              generalize w4_.heap.size = g8 at *
              refine onlyL 7 rfl (by kernel_rfl) (by rfl) (fun K hK => ?_)
              go_wp2_with fail
              refine (eval_is hE h (fun i => if i < n then f i else p) x21 (n + 1) c21 (by omega) _ row21 HQ2.out).mono ?_
              rintro e w6_ ⟨rfl, hb⟩
              replace b0 := b0.grown hb
              replace b1 := b1.grown hb
              replace box8 := box8.grown hb
              replace l8 := Nat.lt_of_lt_of_le l8 hb.size
              replace hW := hW.trans (hb.mono hz)
              replace hz := Nat.le_trans hz hb.size
              clear hb row21
              refine hK.out _ _ ⟨b0.c0, b0.c1, b1.c0, b1.c1⟩ (fun hHeld => ?_)
              clear hK K
              refine onlyL 9 rfl (by kernel_rfl) (by rfl) (fun K hK => ?_)
              have k0 := box8.c0
              have k1 := box8.c1
              have k2 := box8.frozen 0
              have k3 := box8.frozen 1
              go_wp2_with fail
              clear k0 k1 k2 k3
              replace b0 := b0.set2 (o := g8) (by omega) (.int .u64 (nv q2.1)) (.int .u64 (nv q2.2))
              replace b1 := b1.set2 (o := g8) (by omega) (.int .u64 (nv q2.1)) (.int .u64 (nv q2.2))
              replace box8 := box8.put2 (nv q2.1) (nv q2.2)
              replace hW := (hW.setCell (p := ⟨g8, 0, none⟩) z8 (.int .u64 (nv q2.1))).setCell (p := ⟨g8, 1, none⟩) z8 (.int .u64 (nv q2.2))
              refine hK.out _ _ ⟨b0.c0, b0.c1, b1.c0, b1.c1⟩ (fun hHeld => ?_)
              clear hK K
              refine wpAnyH_done (by kernel_rfl) ?_ _
              go_wp2_with fail
              go_meet
              exact ⟨g8, rfl, box8, hW⟩
          · go_wp2_with fail
            have box8_ := Box.new w3_ 0 0
            have hb : Below w3_.heap.size w3_ (w3_.alloc (.cells #[.int .u64 0, .int .u64 0] 24)) := (Below.refl _ _).alloc (Nat.le_refl _) _
            have lt : w3_.heap.size < (w3_.alloc (.cells #[.int .u64 0, .int .u64 0] 24)).heap.size := by rw [World.size_alloc]; omega
            have n18 : k18 ≠ w3_.heap.size := Nat.ne_of_lt l18
            have z8 := hz
            replace b0 := b0.grown hb
            replace b1 := b1.grown hb
            replace own18 := own_grown own18 hb
            replace l18 := Nat.lt_of_lt_of_le l18 hb.size
            replace box20 := box20.grown hb
            replace hW := hW.trans (hb.mono hz)
            replace hz := Nat.le_trans hz hb.size
            clear hb
            have box8 := box8_
            clear box8_
            have l8 := lt
            refine hK.out _ _ ⟨b0.c0, b0.c1, b1.c0, b1.c1⟩ (fun hHeld => ?_)
            clear hK K
            generalize w3_.alloc (.cells #[.int .u64 0, .int .u64 0] 24) = w4_ at *
            generalize w3_.heap.size = g8 at *
            refine onlyL 6 rfl (by kernel_rfl) (by rfl) (fun K hK => ?_)
            refine wp_app1 (.tmp 18) (.tmp 20) rfl W0.heap.size k18 n c18 f rfl own18 g20 p rfl box20 (by omega) hz (fun v21 w5_ own21 hg => ?_)
            have hk18 := (own18.lt k18 rfl).1
            have hW2 : Below W0.heap.size w4_ w5_ := (Below.refl _ _).grown hg hz (fun k e => by
              obtain rfl : k18 = k := by simpa using e
              exact hk18)
            replace b0 := b0.below hW2 hb0
            replace b1 := b1.below hW2 hb1
            replace hW := hW.trans hW2
            replace box8 := box8.kept hg (fun e => n18 (by simpa using e.symm))
            replace l8 := Nat.lt_of_lt_of_le l8 hg.size
            replace hz := Nat.le_trans hz hg.size
            clear own18 box20 hW2 hg hk18
            obtain ⟨x21, c21, rfl, row21⟩ := own_prow own21
            clear own21
            refine hK.out _ _ ⟨b0.c0, b0.c1, b1.c0, b1.c1⟩ (fun hHeld => ?_)
            clear hK K
            simp only [Act.put, List.setIfInBounds_toArray]
            refine onlyL 7 rfl (by kernel_rfl) (by rfl) (fun K hK => ?_)
            go_wp2_with fail
            refine (eval_is hE h (fun i => if i < n then f i else p) x21 (n + 1) c21 (by omega) _ row21 HQ2.out).mono ?_
            rintro e w6_ ⟨rfl, hb⟩
            replace b0 := b0.grown hb
            replace b1 := b1.grown hb
            replace box8 := box8.grown hb
            replace l8 := Nat.lt_of_lt_of_le l8 hb.size
            replace hW := hW.trans (hb.mono hz)
            replace hz := Nat.le_trans hz hb.size
            clear hb row21
            refine hK.out _ _ ⟨b0.c0, b0.c1, b1.c0, b1.c1⟩ (fun hHeld => ?_)
            clear hK K
            refine onlyL 9 rfl (by kernel_rfl) (by rfl) (fun K hK => ?_)
            have k0 := box8.c0
            have k1 := box8.c1
            have k2 := box8.frozen 0
            have k3 := box8.frozen 1
            go_wp2_with fail
            clear k0 k1 k2 k3
            replace b0 := b0.set2 (o := g8) (by omega) (.int .u64 (nv q2.1)) (.int .u64 (nv q2.2))
            replace b1 := b1.set2 (o := g8) (by omega) (.int .u64 (nv q2.1)) (.int .u64 (nv q2.2))
            replace box8 := box8.put2 (nv q2.1) (nv q2.2)
            replace hW := (hW.setCell (p := ⟨g8, 0, none⟩) z8 (.int .u64 (nv q2.1))).setCell (p := ⟨g8, 1, none⟩) z8 (.int .u64 (nv q2.2))
            refine hK.out _ _ ⟨b0.c0, b0.c1, b1.c0, b1.c1⟩ (fun hHeld => ?_)
            clear hK K
            refine wpAnyH_done (by kernel_rfl) ?_ _
            go_wp2_with fail
            go_meet
            exact ⟨g8, rfl, box8, hW⟩
        · go_wp2_with fail
          have box8_ := Box.new w2_ 0 0
          have hb : Below w2_.heap.size w2_ (w2_.alloc (.cells #[.int .u64 0, .int .u64 0] 24)) := (Below.refl _ _).alloc (Nat.le_refl _) _
          have lt : w2_.heap.size < (w2_.alloc (.cells #[.int .u64 0, .int .u64 0] 24)).heap.size := by rw [World.size_alloc]; omega
          have n18 : k18 ≠ w2_.heap.size := Nat.ne_of_lt l18
          have z8 := hz
          replace b0 := b0.grown hb
          replace b1 := b1.grown hb
          replace own18 := own_grown own18 hb
          replace l18 := Nat.lt_of_lt_of_le l18 hb.size
          replace hW := hW.trans (hb.mono hz)
          replace hz := Nat.le_trans hz hb.size
          clear hb
          have box8 := box8_
          clear box8_
          have l8 := lt
          refine hK.out _ _ ⟨b0.c0, b0.c1, b1.c0, b1.c1⟩ (fun hHeld => ?_)
          clear hK K
          generalize w2_.alloc (.cells #[.int .u64 0, .int .u64 0] 24) = w3_ at *
          generalize w2_.heap.size = g8 at *
          refine onlyL 5 rfl (by kernel_rfl) (by rfl) (fun K hK => ?_)
          go_wp2_with fail
          have box20_ := Box.new w3_ (nv p.1) (nv p.2)
          have hb : Below w3_.heap.size w3_ (w3_.alloc (.cells #[.int .u64 (nv p.1), .int .u64 (nv p.2)] 24)) := (Below.refl _ _).alloc (Nat.le_refl _) _
          have lt : w3_.heap.size < (w3_.alloc (.cells #[.int .u64 (nv p.1), .int .u64 (nv p.2)] 24)).heap.size := by rw [World.size_alloc]; omega
          replace b0 := b0.grown hb
          replace b1 := b1.grown hb
          replace own18 := own_grown own18 hb
          replace l18 := Nat.lt_of_lt_of_le l18 hb.size
          replace box8 := box8.grown hb
          replace l8 := Nat.lt_of_lt_of_le l8 hb.size
          replace hW := hW.trans (hb.mono hz)
          replace hz := Nat.le_trans hz hb.size
          clear hb
          have box20 := box20_
          clear box20_
          refine hK.out _ _ ⟨b0.c0, b0.c1, b1.c0, b1.c1⟩ (fun hHeld => ?_)
          clear hK K
          generalize w3_.alloc (.cells #[.int .u64 (nv p.1), .int .u64 (nv p.2)] 24) = w4_ at *
          generalize w3_.heap.size = g20 at *
          refine onlyL 6 rfl (by kernel_rfl) (by rfl) (fun K hK => ?_)
          refine wp_app1 (.tmp 18) (.tmp 20) rfl W0.heap.size k18 n c18 f rfl own18 g20 p rfl box20 (by omega) hz (fun v21 w5_ own21 hg => ?_)
          have hk18 := (own18.lt k18 rfl).1
          have hW2 : Below W0.heap.size w4_ w5_ := (Below.refl _ _).grown hg hz (fun k e => by
            obtain rfl : k18 = k := by simpa using e
            exact hk18)
          replace b0 := b0.below hW2 hb0
          replace b1 := b1.below hW2 hb1
          replace hW := hW.trans hW2
          replace box8 := box8.kept hg (fun e => n18 (by simpa using e.symm))
          replace l8 := Nat.lt_of_lt_of_le l8 hg.size
          replace hz := Nat.le_trans hz hg.size
          clear own18 box20 hW2 hg hk18
          obtain ⟨x21, c21, rfl, row21⟩ := own_prow own21
          clear own21
          refine hK.out _ _ ⟨b0.c0, b0.c1, b1.c0, b1.c1⟩ (fun hHeld => ?_)
          clear hK K
          simp only [Act.put, List.setIfInBounds_toArray]
          refine onlyL 7 rfl (by kernel_rfl) (by rfl) (fun K hK => ?_)
          go_wp2_with fail
          refine (eval_is hE h (fun i => if i < n then f i else p) x21 (n + 1) c21 (by omega) _ row21 HQ2.out).mono ?_
          rintro e w6_ ⟨rfl, hb⟩
          replace b0 := b0.grown hb
          replace b1 := b1.grown hb
          replace box8 := box8.grown hb
          replace l8 := Nat.lt_of_lt_of_le l8 hb.size
          replace hW := hW.trans (hb.mono hz)
          replace hz := Nat.le_trans hz hb.size
          clear hb row21
          refine hK.out _ _ ⟨b0.c0, b0.c1, b1.c0, b1.c1⟩ (fun hHeld => ?_)
          clear hK K
          refine onlyL 9 rfl (by kernel_rfl) (by rfl) (fun K hK => ?_)
          have k0 := box8.c0
          have k1 := box8.c1
          have k2 := box8.frozen 0
          have k3 := box8.frozen 1
          go_wp2_with fail
          clear k0 k1 k2 k3
          replace b0 := b0.set2 (o := g8) (by omega) (.int .u64 (nv q2.1)) (.int .u64 (nv q2.2))
          replace b1 := b1.set2 (o := g8) (by omega) (.int .u64 (nv q2.1)) (.int .u64 (nv q2.2))
          replace box8 := box8.put2 (nv q2.1) (nv q2.2)
          replace hW := (hW.setCell (p := ⟨g8, 0, none⟩) z8 (.int .u64 (nv q2.1))).setCell (p := ⟨g8, 1, none⟩) z8 (.int .u64 (nv q2.2))
          refine hK.out _ _ ⟨b0.c0, b0.c1, b1.c0, b1.c1⟩ (fun hHeld => ?_)
          clear hK K
          refine wpAnyH_done (by kernel_rfl) ?_ _
          go_wp2_with fail
          go_meet
          exact ⟨g8, rfl, box8, hW⟩
      · go_wp2_with fail
        have box20_ := Box.new w1_ (nv p.1) (nv p.2)
        have hb : Below w1_.heap.size w1_ (w1_.alloc (.cells #[.int .u64 (nv p.1), .int .u64 (nv p.2)] 24)) := (Below.refl _ _).alloc (Nat.le_refl _) _
        have lt : w1_.heap.size < (w1_.alloc (.cells #[.int .u64 (nv p.1), .int .u64 (nv p.2)] 24)).heap.size := by rw [World.size_alloc]; omega
        replace b0 := b0.grown hb
        replace b1 := b1.grown hb
        replace own16 := own_grown own16 hb
        replace l16 := Nat.lt_of_lt_of_le l16 hb.size
        replace hW := hW.trans (hb.mono hz)
        replace hz := Nat.le_trans hz hb.size
        clear hb
        have box20 := box20_
        clear box20_
        refine hK.out _ _ ⟨b0.c0, b0.c1, b1.c0, b1.c1⟩ (fun hHeld => ?_)
        clear hK K
        generalize w1_.alloc (.cells #[.int .u64 (nv p.1), .int .u64 (nv p.2)] 24) = w2_ at *
        generalize w1_.heap.size = g20 at *
        refine twoL 3 8 rfl rfl (by kernel_rfl) (by rfl) (by rfl) (fun K hK => ?_) (fun K hK => ?_)
        · refine wp_app0 (.tmp 16) (.tmp 17) rfl W0.heap.size g16 rfl own16 x n cap f rfl (hx.below (Nat.le_refl _) hW) (by omega) hz (fun k18 c18 w3_ own18 hb hk => ?_)
          replace b0 := b0.grown hb
          replace b1 := b1.grown hb
          replace box20 := box20.grown hb
          replace hW := hW.trans (hb.mono hz)
          replace hz := Nat.le_trans hz hb.size
          have l18 : k18 < w3_.heap.size := (own18.lt k18 rfl).2
          clear hb hk own16
          refine hK.out _ _ ⟨b0.c0, b0.c1, b1.c0, b1.c1⟩ (fun hHeld => ?_)
          clear hK K
          simp only [Act.put, List.setIfInBounds_toArray]
          refine twoL 6 8 rfl rfl (by kernel_rfl) (by rfl) (by rfl) (fun K hK => ?_) (fun K hK => ?_)
          · refine wp_app1 (.tmp 18) (.tmp 20) rfl W0.heap.size k18 n c18 f rfl own18 g20 p rfl box20 (by omega) hz (fun v21 w4_ own21 hg => ?_)
            have hk18 := (own18.lt k18 rfl).1
            have hW2 : Below W0.heap.size w3_ w4_ := (Below.refl _ _).grown hg hz (fun k e => by
              obtain rfl : k18 = k := by simpa using e
              exact hk18)
            replace b0 := b0.below hW2 hb0
            replace b1 := b1.below hW2 hb1
            replace hW := hW.trans hW2
            replace hz := Nat.le_trans hz hg.size
            clear own18 box20 hW2 hg hk18
            obtain ⟨x21, c21, rfl, row21⟩ := own_prow own21
            clear own21
            refine hK.out _ _ ⟨b0.c0, b0.c1, b1.c0, b1.c1⟩ (fun hHeld => ?_)
            clear hK K
            simp only [Act.put, List.setIfInBounds_toArray]
            refine twoL 7 8 rfl rfl (by kernel_rfl) (by rfl) (by rfl) (fun K hK => ?_) (fun K hK => ?_)
            · go_wp2_with fail
              refine (eval_is hE h (fun i => if i < n then f i else p) x21 (n + 1) c21 (by omega) _ row21 HQ2.out).mono ?_
              rintro e w5_ ⟨rfl, hb⟩
              replace b0 := b0.grown hb
              replace b1 := b1.grown hb
              replace hW := hW.trans (hb.mono hz)
              replace hz := Nat.le_trans hz hb.size
              clear hb row21
              refine hK.out _ _ ⟨b0.c0, b0.c1, b1.c0, b1.c1⟩ (fun hHeld => ?_)
              clear hK K
              refine onlyL 8 rfl (by kernel_rfl) (by rfl) (fun K hK => ?_)
              go_wp2_with fail
              have box8_ := Box.new w5_ 0 0
              have hb : Below w5_.heap.size w5_ (w5_.alloc (.cells #[.int .u64 0, .int .u64 0] 24)) := (Below.refl _ _).alloc (Nat.le_refl _) _
              have lt : w5_.heap.size < (w5_.alloc (.cells #[.int .u64 0, .int .u64 0] 24)).heap.size := by rw [World.size_alloc]; omega
              have z8 := hz
              replace b0 := b0.grown hb
              replace b1 := b1.grown hb
              replace hW := hW.trans (hb.mono hz)
              replace hz := Nat.le_trans hz hb.size
              clear hb
              have box8 := box8_
              clear box8_
              have l8 := lt
              refine hK.out _ _ ⟨b0.c0, b0.c1, b1.c0, b1.c1⟩ (fun hHeld => ?_)
              clear hK K
              generalize w5_.alloc (.cells #[.int .u64 0, .int .u64 0] 24) = w6_ at *
              generalize w5_.heap.size = g8 at *
              refine onlyL 9 rfl (by kernel_rfl) (by rfl) (fun K hK => ?_)
              have k0 := box8.c0
              have k1 := box8.c1
              have k2 := box8.frozen 0
              have k3 := box8.frozen 1
              go_wp2_with fail
              clear k0 k1 k2 k3
              replace b0 := b0.set2 (o := g8) (by omega) (.int .u64 (nv q2.1)) (.int .u64 (nv q2.2))
              replace b1 := b1.set2 (o := g8) (by omega) (.int .u64 (nv q2.1)) (.int .u64 (nv q2.2))
              replace box8 := box8.put2 (nv q2.1) (nv q2.2)
              replace hW := (hW.setCell (p := ⟨g8, 0, none⟩) z8 (.int .u64 (nv q2.1))).setCell (p := ⟨g8, 1, none⟩) z8 (.int .u64 (nv q2.2))
              refine hK.out _ _ ⟨b0.c0, b0.c1, b1.c0, b1.c1⟩ (fun hHeld => ?_)
              clear hK K
              refine wpAnyH_done (by kernel_rfl) ?_ _
              go_wp2_with fail
              go_meet
              exact ⟨g8, rfl, box8, hW⟩
            · go_wp2_with fail
              have box8_ := Box.new w4_ 0 0
              have hb : Below w4_.heap.size w4_ (w4_.alloc (.cells #[.int .u64 0, .int .u64 0] 24)) := (Below.refl _ _).alloc (Nat.le_refl _) _
              have lt : w4_.heap.size < (w4_.alloc (.cells #[.int .u64 0, .int .u64 0] 24)).heap.size := by rw [World.size_alloc]; omega
              have z8 := hz
              replace b0 := b0.grown hb
              replace b1 := b1.grown hb
              replace row21 := row21.grown hb
              replace hW := hW.trans (hb.mono hz)
              replace hz := Nat.le_trans hz hb.size
              clear hb
              have box8 := box8_
              clear box8_
              have l8 := lt
              refine hK.out _ _ ⟨b0.c0, b0.c1, b1.c0, b1.c1⟩ (fun hHeld => ?_)
              clear hK K
              generalize w4_.alloc (.cells #[.int .u64 0, .int .u64 0] 24) = w5_ at *
              generalize w4_.heap.size = g8 at *
              refine onlyL 7 rfl (by kernel_rfl) (by rfl) (fun K hK => ?_)
              go_wp2_with fail
              refine (eval_is hE h (fun i => if i < n then f i else p) x21 (n + 1) c21 (by omega) _ row21 HQ2.out).mono ?_
              rintro e w6_ ⟨rfl, hb⟩
              replace b0 := b0.grown hb
              replace b1 := b1.grown hb
              replace box8 := box8.grown hb
              replace l8 := Nat.lt_of_lt_of_le l8 hb.size
              replace hW := hW.trans (hb.mono hz)
              replace hz := Nat.le_trans hz hb.size
              clear hb row21
              refine hK.out _ _ ⟨b0.c0, b0.c1, b1.c0, b1.c1⟩ (fun hHeld => ?_)
              clear hK K
              refine onlyL 9 rfl (by kernel_rfl) (by rfl) (fun K hK => ?_)
              have k0 := box8.c0
              have k1 := box8.c1
              have k2 := box8.frozen 0
              have k3 := box8.frozen 1
              go_wp2_with fail
              clear k0 k1 k2 k3
              replace b0 := b0.set2 (o := g8) (by omega) (.int .u64 (nv q2.1)) (.int .u64 (nv q2.2))
              replace b1 := b1.set2 (o := g8) (by omega) (.int .u64 (nv q2.1)) (.int .u64 (nv q2.2))
              replace box8 := box8.put2 (nv q2.1) (nv q2.2)
              replace hW := (hW.setCell (p := ⟨g8, 0, none⟩) z8 (.int .u64 (nv q2.1))).setCell (p := ⟨g8, 1, none⟩) z8 (.int .u64 (nv q2.2))
              refine hK.out _ _ ⟨b0.c0, b0.c1, b1.c0, b1.c1⟩ (fun hHeld => ?_)
              clear hK K
              refine wpAnyH_done (by kernel_rfl) ?_ _
              go_wp2_with fail
              go_meet
              exact ⟨g8, rfl, box8, hW⟩
          · go_wp2_with fail
            have box8_ := Box.new w3_ 0 0
            have hb : Below w3_.heap.size w3_ (w3_.alloc (.cells #[.int .u64 0, .int .u64 0] 24)) := (Below.refl _ _).alloc (Nat.le_refl _) _
            have lt : w3_.heap.size < (w3_.alloc (.cells #[.int .u64 0, .int .u64 0] 24)).heap.size := by rw [World.size_alloc]; omega
            have n18 : k18 ≠ w3_.heap.size := Nat.ne_of_lt l18
            have z8 := hz
            replace b0 := b0.grown hb
            replace b1 := b1.grown hb
            replace own18 := own_grown own18 hb
            replace l18 := Nat.lt_of_lt_of_le l18 hb.size
            replace box20 := box20.grown hb
            replace hW := hW.trans (hb.mono hz)
            replace hz := Nat.le_trans hz hb.size
            clear hb
            have box8 := box8_
            clear box8_
            have l8 := lt
            refine hK.out _ _ ⟨b0.c0, b0.c1, b1.c0, b1.c1⟩ (fun hHeld => ?_)
            clear hK K
            generalize w3_.alloc (.cells #[.int .u64 0, .int .u64 0] 24) = w4_ at *
            generalize w3_.heap.size = g8 at *
            refine onlyL 6 rfl (by kernel_rfl) (by rfl) (fun K hK => ?_)
            refine wp_app1 (.tmp 18) (.tmp 20) rfl W0.heap.size k18 n c18 f rfl own18 g20 p rfl box20 (by omega) hz (fun v21 w5_ own21 hg => ?_)
            have hk18 := (own18.lt k18 rfl).1
            have hW2 : Below W0.heap.size w4_ w5_ := (Below.refl _ _).grown hg hz (fun k e => by
              obtain rfl : k18 = k := by simpa using e
              exact hk18)
            replace b0 := b0.below hW2 hb0
            replace b1 := b1.below hW2 hb1
            replace hW := hW.trans hW2
            replace box8 := box8.kept hg (fun e => n18 (by simpa using e.symm))
            replace l8 := Nat.lt_of_lt_of_le l8 hg.size
            replace hz := Nat.le_trans hz hg.size
            clear own18 box20 hW2 hg hk18
            obtain ⟨x21, c21, rfl, row21⟩ := own_prow own21
            clear own21
            refine hK.out _ _ ⟨b0.c0, b0.c1, b1.c0, b1.c1⟩ (fun hHeld => ?_)
            clear hK K
            simp only [Act.put, List.setIfInBounds_toArray]
            refine onlyL 7 rfl (by kernel_rfl) (by rfl) (fun K hK => ?_)
            go_wp2_with fail
            refine (eval_is hE h (fun i => if i < n then f i else p) x21 (n + 1) c21 (by omega) _ row21 HQ2.out).mono ?_
            rintro e w6_ ⟨rfl, hb⟩
            replace b0 := b0.grown hb
            replace b1 := b1.grown hb
            replace box8 := box8.grown hb
            replace l8 := Nat.lt_of_lt_of_le l8 hb.size
            replace hW := hW.trans (hb.mono hz)
            replace hz := Nat.le_trans hz hb.size
            clear hb row21
            refine hK.out _ _ ⟨b0.c0, b0.c1, b1.c0, b1.c1⟩ (fun hHeld => ?_)
            clear hK K
            refine onlyL 9 rfl (by kernel_rfl) (by rfl) (fun K hK => ?_)
            have k0 := box8.c0
            have k1 := box8.c1
            have k2 := box8.frozen 0
            have k3 := box8.frozen 1
            go_wp2_with fail
            clear k0 k1 k2 k3
            replace b0 := b0.set2 (o := g8) (by omega) (.int .u64 (nv q2.1)) (.int .u64 (nv q2.2))
            replace b1 := b1.set2 (o := g8) (by omega) (.int .u64 (nv q2.1)) (.int .u64 (nv q2.2))
            replace box8 := box8.put2 (nv q2.1) (nv q2.2)
            replace hW := (hW.setCell (p := ⟨g8, 0, none⟩) z8 (.int .u64 (nv q2.1))).setCell (p := ⟨g8, 1, none⟩) z8 (.int .u64 (nv q2.2))
            refine hK.out _ _ ⟨b0.c0, b0.c1, b1.c0, b1.c1⟩ (fun hHeld => ?_)
            clear hK K
            refine wpAnyH_done (by kernel_rfl) ?_ _
            go_wp2_with fail
            go_meet
            exact ⟨g8, rfl, box8, hW⟩
        · go_wp2_with fail
          have box8_ := Box.new w2_ 0 0
          have hb : Below w2_.heap.size w2_ (w2_.alloc (.cells #[.int .u64 0, .int .u64 0] 24)) := (Below.refl _ _).alloc (Nat.le_refl _) _
          have lt : w2_.heap.size < (w2_.alloc (.cells #[.int .u64 0, .int .u64 0] 24)).heap.size := by rw [World.size_alloc]; omega
          have n16 : g16 ≠ w2_.heap.size := Nat.ne_of_lt l16
          have z8 := hz
          replace b0 := b0.grown hb
          replace b1 := b1.grown hb
          replace own16 := own_grown own16 hb
          replace l16 := Nat.lt_of_lt_of_le l16 hb.size
          replace box20 := box20.grown hb
          replace hW := hW.trans (hb.mono hz)
          replace hz := Nat.le_trans hz hb.size
          clear hb
          have box8 := box8_
          clear box8_
          have l8 := lt
          refine hK.out _ _ ⟨b0.c0, b0.c1, b1.c0, b1.c1⟩ (fun hHeld => ?_)
          clear hK K
          generalize w2_.alloc (.cells #[.int .u64 0, .int .u64 0] 24) = w3_ at *
          generalize w2_.heap.size = g8 at *
          refine onlyL 3 rfl (by kernel_rfl) (by rfl) (fun K hK => ?_)
          refine wp_app0 (.tmp 16) (.tmp 17) rfl W0.heap.size g16 rfl own16 x n cap f rfl (hx.below (Nat.le_refl _) hW) (by omega) hz (fun k18 c18 w4_ own18 hb hk => ?_)
          have n18 : k18 ≠ g8 := by
            rcases hk with rfl | hk
            · exact n16
            · omega
          replace b0 := b0.grown hb
          replace b1 := b1.grown hb
          replace box20 := box20.grown hb
          replace box8 := box8.grown hb
          replace l8 := Nat.lt_of_lt_of_le l8 hb.size
          replace hW := hW.trans (hb.mono hz)
          replace hz := Nat.le_trans hz hb.size
          have l18 : k18 < w4_.heap.size := (own18.lt k18 rfl).2
          clear hb hk own16
          refine hK.out _ _ ⟨b0.c0, b0.c1, b1.c0, b1.c1⟩ (fun hHeld => ?_)
          clear hK K
          simp only [Act.put, List.setIfInBounds_toArray]
          refine onlyL 6 rfl (by kernel_rfl) (by rfl) (fun K hK => ?_)
          refine wp_app1 (.tmp 18) (.tmp 20) rfl W0.heap.size k18 n c18 f rfl own18 g20 p rfl box20 (by omega) hz (fun v21 w5_ own21 hg => ?_)
          have hk18 := (own18.lt k18 rfl).1
          have hW2 : Below W0.heap.size w4_ w5_ := (Below.refl _ _).grown hg hz (fun k e => by
            obtain rfl : k18 = k := by simpa using e
            exact hk18)
          replace b0 := b0.below hW2 hb0
          replace b1 := b1.below hW2 hb1
          replace hW := hW.trans hW2
          replace box8 := box8.kept hg (fun e => n18 (by simpa using e.symm))
          replace l8 := Nat.lt_of_lt_of_le l8 hg.size
          replace hz := Nat.le_trans hz hg.size
          clear own18 box20 hW2 hg hk18
          obtain ⟨x21, c21, rfl, row21⟩ := own_prow own21
          clear own21
          refine hK.out _ _ ⟨b0.c0, b0.c1, b1.c0, b1.c1⟩ (fun hHeld => ?_)
          clear hK K
          simp only [Act.put, List.setIfInBounds_toArray]
          refine onlyL 7 rfl (by kernel_rfl) (by rfl) (fun K hK => ?_)
          go_wp2_with fail
          refine (eval_is hE h (fun i => if i < n then f i else p) x21 (n + 1) c21 (by omega) _ row21 HQ2.out).mono ?_
          rintro e w6_ ⟨rfl, hb⟩
          replace b0 := b0.grown hb
          replace b1 := b1.grown hb
          replace box8 := box8.grown hb
          replace l8 := Nat.lt_of_lt_of_le l8 hb.size
          replace hW := hW.trans (hb.mono hz)
          replace hz := Nat.le_trans hz hb.size
          clear hb row21
          refine hK.out _ _ ⟨b0.c0, b0.c1, b1.c0, b1.c1⟩ (fun hHeld => ?_)
          clear hK K
          refine onlyL 9 rfl (by kernel_rfl) (by rfl) (fun K hK => ?_)
          have k0 := box8.c0
          have k1 := box8.c1
          have k2 := box8.frozen 0
          have k3 := box8.frozen 1
          go_wp2_with fail
          clear k0 k1 k2 k3
          replace b0 := b0.set2 (o := g8) (by omega) (.int .u64 (nv q2.1)) (.int .u64 (nv q2.2))
          replace b1 := b1.set2 (o := g8) (by omega) (.int .u64 (nv q2.1)) (.int .u64 (nv q2.2))
          replace box8 := box8.put2 (nv q2.1) (nv q2.2)
          replace hW := (hW.setCell (p := ⟨g8, 0, none⟩) z8 (.int .u64 (nv q2.1))).setCell (p := ⟨g8, 1, none⟩) z8 (.int .u64 (nv q2.2))
          refine hK.out _ _ ⟨b0.c0, b0.c1, b1.c0, b1.c1⟩ (fun hHeld => ?_)
          clear hK K
          refine wpAnyH_done (by kernel_rfl) ?_ _
          go_wp2_with fail
          go_meet
          exact ⟨g8, rfl, box8, hW⟩
      · go_wp2_with fail
        have box8_ := Box.new w1_ 0 0
        have hb : Below w1_.heap.size w1_ (w1_.alloc (.cells #[.int .u64 0, .int .u64 0] 24)) := (Below.refl _ _).alloc (Nat.le_refl _) _
        have lt : w1_.heap.size < (w1_.alloc (.cells #[.int .u64 0, .int .u64 0] 24)).heap.size := by rw [World.size_alloc]; omega
        have n16 : g16 ≠ w1_.heap.size := Nat.ne_of_lt l16
        have z8 := hz
        replace b0 := b0.grown hb
        replace b1 := b1.grown hb
        replace own16 := own_grown own16 hb
        replace l16 := Nat.lt_of_lt_of_le l16 hb.size
        replace hW := hW.trans (hb.mono hz)
        replace hz := Nat.le_trans hz hb.size
        clear hb
        have box8 := box8_
        clear box8_
        have l8 := lt
        refine hK.out _ _ ⟨b0.c0, b0.c1, b1.c0, b1.c1⟩ (fun hHeld => ?_)
        clear hK K
        generalize w1_.alloc (.cells #[.int .u64 0, .int .u64 0] 24) = w2_ at *
        generalize w1_.heap.size = g8 at *
        refine twoL 3 5 rfl rfl (by kernel_rfl) (by rfl) (by rfl) (fun K hK => ?_) (fun K hK => ?_)
        · refine wp_app0 (.tmp 16) (.tmp 17) rfl W0.heap.size g16 rfl own16 x n cap f rfl (hx.below (Nat.le_refl _) hW) (by omega) hz (fun k18 c18 w3_ own18 hb hk => ?_)
          have n18 : k18 ≠ g8 := by
            rcases hk with rfl | hk
            · exact n16
            · omega
          replace b0 := b0.grown hb
          replace b1 := b1.grown hb
          replace box8 := box8.grown hb
          replace l8 := Nat.lt_of_lt_of_le l8 hb.size
          replace hW := hW.trans (hb.mono hz)
          replace hz := Nat.le_trans hz hb.size
          have l18 : k18 < w3_.heap.size := (own18.lt k18 rfl).2
          clear hb hk own16
          refine hK.out _ _ ⟨b0.c0, b0.c1, b1.c0, b1.c1⟩ (fun hHeld => ?_)
          clear hK K
          simp only [Act.put, List.setIfInBounds_toArray]
          refine onlyL 5 rfl (by kernel_rfl) (by rfl) (fun K hK => ?_)
          go_wp2_with fail
          have box20_ := Box.new w3_ (nv p.1) (nv p.2)
          have hb : Below w3_.heap.size w3_ (w3_.alloc (.cells #[.int .u64 (nv p.1), .int .u64 (nv p.2)] 24)) := (Below.refl _ _).alloc (Nat.le_refl _) _
          have lt : w3_.heap.size < (w3_.alloc (.cells #[.int .u64 (nv p.1), .int .u64 (nv p.2)] 24)).heap.size := by rw [World.size_alloc]; omega
          replace b0 := b0.grown hb
          replace b1 := b1.grown hb
          replace own18 := own_grown own18 hb
          replace l18 := Nat.lt_of_lt_of_le l18 hb.size
          replace box8 := box8.grown hb
          replace l8 := Nat.lt_of_lt_of_le l8 hb.size
          replace hW := hW.trans (hb.mono hz)
          replace hz := Nat.le_trans hz hb.size
          clear hb
          have box20 := box20_
          clear box20_
          refine hK.out _ _ ⟨b0.c0, b0.c1, b1.c0, b1.c1⟩ (fun hHeld => ?_)
          clear hK K
          generalize w3_.alloc (.cells #[.int .u64 (nv p.1), .int .u64 (nv p.2)] 24) = w4_ at *
          generalize w3_.heap.size = g20 at *
          refine onlyL 6 rfl (by kernel_rfl) (by rfl) (fun K hK => ?_)
          refine wp_app1 (.tmp 18) (.tmp 20) rfl W0.heap.size k18 n c18 f rfl own18 g20 p rfl box20 (by omega) hz (fun v21 w5_ own21 hg => ?_)
          have hk18 := (own18.lt k18 rfl).1
          have hW2 : Below W0.heap.size w4_ w5_ := (Below.refl _ _).grown hg hz (fun k e => by
            obtain rfl : k18 = k := by simpa using e
            exact hk18)
          replace b0 := b0.below hW2 hb0
          replace b1 := b1.below hW2 hb1
          replace hW := hW.trans hW2
          replace box8 := box8.kept hg (fun e => n18 (by simpa using e.symm))
          replace l8 := Nat.lt_of_lt_of_le l8 hg.size
          replace hz := Nat.le_trans hz hg.size
          clear own18 box20 hW2 hg hk18
          obtain ⟨x21, c21, rfl, row21⟩ := own_prow own21
          clear own21
          refine hK.out _ _ ⟨b0.c0, b0.c1, b1.c0, b1.c1⟩ (fun hHeld => ?_)
          clear hK K
          simp only [Act.put, List.setIfInBounds_toArray]
          refine onlyL 7 rfl (by kernel_rfl) (by rfl) (fun K hK => ?_)
          go_wp2_with fail
          refine (eval_is hE h (fun i => if i < n then f i else p) x21 (n + 1) c21 (by omega) _ row21 HQ2.out).mono ?_
          rintro e w6_ ⟨rfl, hb⟩
          replace b0 := b0.grown hb
          replace b1 := b1.grown hb
          replace box8 := box8.grown hb
          replace l8 := Nat.lt_of_lt_of_le l8 hb.size
          replace hW := hW.trans (hb.mono hz)
          replace hz := Nat.le_trans hz hb.size
          clear hb row21
          refine hK.out _ _ ⟨b0.c0, b0.c1, b1.c0, b1.c1⟩ (fun hHeld => ?_)
          clear hK K
          refine onlyL 9 rfl (by kernel_rfl) (by rfl) (fun K hK => ?_)
          have k0 := box8.c0
          have k1 := box8.c1
          have k2 := box8.frozen 0
          have k3 := box8.frozen 1
          go_wp2_with fail
          clear k0 k1 k2 k3
          replace b0 := b0.set2 (o := g8) (by omega) (.int .u64 (nv q2.1)) (.int .u64 (nv q2.2))
          replace b1 := b1.set2 (o := g8) (by omega) (.int .u64 (nv q2.1)) (.int .u64 (nv q2.2))
          replace box8 := box8.put2 (nv q2.1) (nv q2.2)
          replace hW := (hW.setCell (p := ⟨g8, 0, none⟩) z8 (.int .u64 (nv q2.1))).setCell (p := ⟨g8, 1, none⟩) z8 (.int .u64 (nv q2.2))
          refine hK.out _ _ ⟨b0.c0, b0.c1, b1.c0, b1.c1⟩ (fun hHeld => ?_)
          clear hK K
          refine wpAnyH_done (by kernel_rfl) ?_ _
          go_wp2_with fail
          go_meet
          exact ⟨g8, rfl, box8, hW⟩
        · go_wp2_with fail
          have box20_ := Box.new w2_ (nv p.1) (nv p.2)
          have hb : Below w2_.heap.size w2_ (w2_.alloc (.cells #[.int .u64 (nv p.1), .int .u64 (nv p.2)] 24)) := (Below.refl _ _).alloc (Nat.le_refl _) _
          have lt : w2_.heap.size < (w2_.alloc (.cells #[.int .u64 (nv p.1), .int .u64 (nv p.2)] 24)).heap.size := by rw [World.size_alloc]; omega
          replace b0 := b0.grown hb
          replace b1 := b1.grown hb
          replace own16 := own_grown own16 hb
          replace l16 := Nat.lt_of_lt_of_le l16 hb.size
          replace box8 := box8.grown hb
          replace l8 := Nat.lt_of_lt_of_le l8 hb.size
          replace hW := hW.trans (hb.mono hz)
          replace hz := Nat.le_trans hz hb.size
          clear hb
          have box20 := box20_
          clear box20_
          refine hK.out _ _ ⟨b0.c0, b0.c1, b1.c0, b1.c1⟩ (fun hHeld => ?_)
          clear hK K
          generalize w2_.alloc (.cells #[.int .u64 (nv p.1), .int .u64 (nv p.2)] 24) = w3_ at *
          generalize w2_.heap.size = g20 at *
          refine onlyL 3 rfl (by kernel_rfl) (by rfl) (fun K hK => ?_)
          refine wp_app0 (.tmp 16) (.tmp 17) rfl W0.heap.size g16 rfl own16 x n cap f rfl (hx.below (Nat.le_refl _) hW) (by omega) hz (fun k18 c18 w4_ own18 hb hk => ?_)
          have n18 : k18 ≠ g8 := by
            rcases hk with rfl | hk
            · exact n16
            · omega
          replace b0 := b0.grown hb
          replace b1 := b1.grown hb
          replace box20 := box20.grown hb
          replace box8 := box8.grown hb
          replace l8 := Nat.lt_of_lt_of_le l8 hb.size
          replace hW := hW.trans (hb.mono hz)
          replace hz := Nat.le_trans hz hb.size
          have l18 : k18 < w4_.heap.size := (own18.lt k18 rfl).2
          clear hb hk own16
          refine hK.out _ _ ⟨b0.c0, b0.c1, b1.c0, b1.c1⟩ (fun hHeld => ?_)
          clear hK K
          simp only [Act.put, List.setIfInBounds_toArray]
          refine onlyL 6 rfl (by kernel_rfl) (by rfl) (fun K hK => ?_)
          refine wp_app1 (.tmp 18) (.tmp 20) rfl W0.heap.size k18 n c18 f rfl own18 g20 p rfl box20 (by omega) hz (fun v21 w5_ own21 hg => ?_)
          have hk18 := (own18.lt k18 rfl).1
          have hW2 : Below W0.heap.size w4_ w5_ := (Below.refl _ _).grown hg hz (fun k e => by
            obtain rfl : k18 = k := by simpa using e
            exact hk18)
          replace b0 := b0.below hW2 hb0
          replace b1 := b1.below hW2 hb1
          replace hW := hW.trans hW2
          replace box8 := box8.kept hg (fun e => n18 (by simpa using e.symm))
          replace l8 := Nat.lt_of_lt_of_le l8 hg.size
          replace hz := Nat.le_trans hz hg.size
          clear own18 box20 hW2 hg hk18
          obtain ⟨x21, c21, rfl, row21⟩ := own_prow own21
          clear own21
          refine hK.out _ _ ⟨b0.c0, b0.c1, b1.c0, b1.c1⟩ (fun hHeld => ?_)
          clear hK K
          simp only [Act.put, List.setIfInBounds_toArray]
          refine onlyL 7 rfl (by kernel_rfl) (by rfl) (fun K hK => ?_)
          go_wp2_with fail
          refine (eval_is hE h (fun i => if i < n then f i else p) x21 (n + 1) c21 (by omega) _ row21 HQ2.out).mono ?_
          rintro e w6_ ⟨rfl, hb⟩
          replace b0 := b0.grown hb
          replace b1 := b1.grown hb
          replace box8 := box8.grown hb
          replace l8 := Nat.lt_of_lt_of_le l8 hb.size
          replace hW := hW.trans (hb.mono hz)
          replace hz := Nat.le_trans hz hb.size
          clear hb row21
          refine hK.out _ _ ⟨b0.c0, b0.c1, b1.c0, b1.c1⟩ (fun hHeld => ?_)
          clear hK K
          refine onlyL 9 rfl (by kernel_rfl) (by rfl) (fun K hK => ?_)
          have k0 := box8.c0
          have k1 := box8.c1
          have k2 := box8.frozen 0
          have k3 := box8.frozen 1
          go_wp2_with fail
          clear k0 k1 k2 k3
          replace b0 := b0.set2 (o := g8) (by omega) (.int .u64 (nv q2.1)) (.int .u64 (nv q2.2))
          replace b1 := b1.set2 (o := g8) (by omega) (.int .u64 (nv q2.1)) (.int .u64 (nv q2.2))
          replace box8 := box8.put2 (nv q2.1) (nv q2.2)
          replace hW := (hW.setCell (p := ⟨g8, 0, none⟩) z8 (.int .u64 (nv q2.1))).setCell (p := ⟨g8, 1, none⟩) z8 (.int .u64 (nv q2.2))
          refine hK.out _ _ ⟨b0.c0, b0.c1, b1.c0, b1.c1⟩ (fun hHeld => ?_)
          clear hK K
          refine wpAnyH_done (by kernel_rfl) ?_ _
          go_wp2_with fail
          go_meet
          exact ⟨g8, rfl, box8, hW⟩
    · go_wp2_with fail
      have box20_ := Box.new w0_ (nv p.1) (nv p.2)
      have hb : Below w0_.heap.size w0_ (w0_.alloc (.cells #[.int .u64 (nv p.1), .int .u64 (nv p.2)] 24)) := (Below.refl _ _).alloc (Nat.le_refl _) _
      have lt : w0_.heap.size < (w0_.alloc (.cells #[.int .u64 (nv p.1), .int .u64 (nv p.2)] 24)).heap.size := by rw [World.size_alloc]; omega
      replace b0 := b0.grown hb
      replace b1 := b1.grown hb
      replace hW := hW.trans (hb.mono hz)
      replace hz := Nat.le_trans hz hb.size
      clear hb
      have box20 := box20_
      clear box20_
      refine hK.out _ _ ⟨b0.c0, b0.c1, b1.c0, b1.c1⟩ (fun hHeld => ?_)
      clear hK K
      generalize w0_.alloc (.cells #[.int .u64 (nv p.1), .int .u64 (nv p.2)] 24) = w1_ at *
      generalize w0_.heap.size = g20 at *
      refine twoL 1 8 rfl rfl (by kernel_rfl) (by rfl) (by rfl) (fun K hK => ?_) (fun K hK => ?_)
      · go_wp2_with fail
        have own16_ := World.ownsRow_made (base := W0.heap.size) (e := 24) (size := 2) w1_ #[] 0 hz (by decide) rfl
        have hb : Below w1_.heap.size w1_ (w1_.alloc (.cells #[] 24)) := (Below.refl _ _).alloc (Nat.le_refl _) _
        have lt : w1_.heap.size < (w1_.alloc (.cells #[] 24)).heap.size := by rw [World.size_alloc]; omega
        replace b0 := b0.grown hb
        replace b1 := b1.grown hb
        replace box20 := box20.grown hb
        replace hW := hW.trans (hb.mono hz)
        replace hz := Nat.le_trans hz hb.size
        clear hb
        have own16 := own16_
        clear own16_
        have l16 := lt
        refine hK.out _ _ ⟨b0.c0, b0.c1, b1.c0, b1.c1⟩ (fun hHeld => ?_)
        clear hK K
        generalize w1_.alloc (.cells #[] 24) = w2_ at *
        generalize w1_.heap.size = g16 at *
        refine twoL 3 8 rfl rfl (by kernel_rfl) (by rfl) (by rfl) (fun K hK => ?_) (fun K hK => ?_)
        · refine wp_app0 (.tmp 16) (.tmp 17) rfl W0.heap.size g16 rfl own16 x n cap f rfl (hx.below (Nat.le_refl _) hW) (by omega) hz (fun k18 c18 w3_ own18 hb hk => ?_)
          replace b0 := b0.grown hb
          replace b1 := b1.grown hb
          replace box20 := box20.grown hb
          replace hW := hW.trans (hb.mono hz)
          replace hz := Nat.le_trans hz hb.size
          have l18 : k18 < w3_.heap.size := (own18.lt k18 rfl).2
          clear hb hk own16
          refine hK.out _ _ ⟨b0.c0, b0.c1, b1.c0, b1.c1⟩ (fun hHeld => ?_)
          clear hK K
          simp only [Act.put, List.setIfInBounds_toArray]
          refine twoL 6 8 rfl rfl (by kernel_rfl) (by rfl) (by rfl) (fun K hK => ?_) (fun K hK => ?_)
          · refine wp_app1 (.tmp 18) (.tmp 20) rfl W0.heap.size k18 n c18 f rfl own18 g20 p rfl box20 (by omega) hz (fun v21 w4_ own21 hg => ?_)
            have hk18 := (own18.lt k18 rfl).1
            have hW2 : Below W0.heap.size w3_ w4_ := (Below.refl _ _).grown hg hz (fun k e => by
              obtain rfl : k18 = k := by simpa using e
              exact hk18)
            replace b0 := b0.below hW2 hb0
            replace b1 := b1.below hW2 hb1
            replace hW := hW.trans hW2
            replace hz := Nat.le_trans hz hg.size
            clear own18 box20 hW2 hg hk18
            obtain ⟨x21, c21, rfl, row21⟩ := own_prow own21
            clear own21
            refine hK.out _ _ ⟨b0.c0, b0.c1, b1.c0, b1.c1⟩ (fun hHeld => ?_)
            clear hK K
            simp only [Act.put, List.setIfInBounds_toArray]
            refine twoL 7 8 rfl rfl (by kernel_rfl) (by rfl) (by rfl) (fun K hK => ?_) (fun K hK => ?_)
            · go_wp2_with fail
              refine (eval_is hE h (fun i => if i < n then f i else p) x21 (n + 1) c21 (by omega) _ row21 HQ2.out).mono ?_
              rintro e w5_ ⟨rfl, hb⟩
              replace b0 := b0.grown hb
              replace b1 := b1.grown hb
              replace hW := hW.trans (hb.mono hz)
              replace hz := Nat.le_trans hz hb.size
              clear hb row21
              refine hK.out _ _ ⟨b0.c0, b0.c1, b1.c0, b1.c1⟩ (fun hHeld => ?_)
              clear hK K
              refine onlyL 8 rfl (by kernel_rfl) (by rfl) (fun K hK => ?_)
              go_wp2_with fail
              have box8_ := Box.new w5_ 0 0
              have hb : Below w5_.heap.size w5_ (w5_.alloc (.cells #[.int .u64 0, .int .u64 0] 24)) := (Below.refl _ _).alloc (Nat.le_refl _) _
              have lt : w5_.heap.size < (w5_.alloc (.cells #[.int .u64 0, .int .u64 0] 24)).heap.size := by rw [World.size_alloc]; omega
              have z8 := hz
              replace b0 := b0.grown hb
              replace b1 := b1.grown hb
              replace hW := hW.trans (hb.mono hz)
              replace hz := Nat.le_trans hz hb.size
              clear hb
              have box8 := box8_
              clear box8_
              have l8 := lt
              refine hK.out _ _ ⟨b0.c0, b0.c1, b1.c0, b1.c1⟩ (fun hHeld => ?_)
              clear hK K
              generalize w5_.alloc (.cells #[.int .u64 0, .int .u64 0] 24) = w6_ at *
              generalize w5_.heap.size = g8 at *
              refine onlyL 9 rfl (by kernel_rfl) (by rfl) (fun K hK => ?_)
              have k0 := box8.c0
              have k1 := box8.c1
              have k2 := box8.frozen 0
              have k3 := box8.frozen 1
              go_wp2_with fail
              clear k0 k1 k2 k3
              replace b0 := b0.set2 (o := g8) (by omega) (.int .u64 (nv q2.1)) (.int .u64 (nv q2.2))
              replace b1 := b1.set2 (o := g8) (by omega) (.int .u64 (nv q2.1)) (.int .u64 (nv q2.2))
              replace box8 := box8.put2 (nv q2.1) (nv q2.2)
              replace hW := (hW.setCell (p := ⟨g8, 0, none⟩) z8 (.int .u64 (nv q2.1))).setCell (p := ⟨g8, 1, none⟩) z8 (.int .u64 (nv q2.2))
              refine hK.out _ _ ⟨b0.c0, b0.c1, b1.c0, b1.c1⟩ (fun hHeld => ?_)
              clear hK K
              refine wpAnyH_done (by kernel_rfl) ?_ _
              go_wp2_with fail
              go_meet
              exact ⟨g8, rfl, box8, hW⟩
            · go_wp2_with fail
              have box8_ := Box.new w4_ 0 0
              have hb : Below w4_.heap.size w4_ (w4_.alloc (.cells #[.int .u64 0, .int .u64 0] 24)) := (Below.refl _ _).alloc (Nat.le_refl _) _
              have lt : w4_.heap.size < (w4_.alloc (.cells #[.int .u64 0, .int .u64 0] 24)).heap.size := by rw [World.size_alloc]; omega
              have z8 := hz
              replace b0 := b0.grown hb
              replace b1 := b1.grown hb
              replace row21 := row21.grown hb
              replace hW := hW.trans (hb.mono hz)
              replace hz := Nat.le_trans hz hb.size
              clear hb
              have box8 := box8_
              clear box8_
              have l8 := lt
              refine hK.out _ _ ⟨b0.c0, b0.c1, b1.c0, b1.c1⟩ (fun hHeld => ?_)
              clear hK K
              generalize w4_.alloc (.cells #[.int .u64 0, .int .u64 0] 24) = w5_ at *
              generalize w4_.heap.size = g8 at *
              refine onlyL 7 rfl (by kernel_rfl) (by rfl) (fun K hK => ?_)
              go_wp2_with fail
              refine (eval_is hE h (fun i => if i < n then f i else p) x21 (n + 1) c21 (by omega) _ row21 HQ2.out).mono ?_
              rintro e w6_ ⟨rfl, hb⟩
              replace b0 := b0.grown hb
              replace b1 := b1.grown hb
              replace box8 := box8.grown hb
              replace l8 := Nat.lt_of_lt_of_le l8 hb.size
              replace hW := hW.trans (hb.mono hz)
              replace hz := Nat.le_trans hz hb.size
              clear hb row21
              refine hK.out _ _ ⟨b0.c0, b0.c1, b1.c0, b1.c1⟩ (fun hHeld => ?_)
              clear hK K
              refine onlyL 9 rfl (by kernel_rfl) (by rfl) (fun K hK => ?_)
              have k0 := box8.c0
              have k1 := box8.c1
              have k2 := box8.frozen 0
              have k3 := box8.frozen 1
              go_wp2_with fail
              clear k0 k1 k2 k3
              replace b0 := b0.set2 (o := g8) (by omega) (.int .u64 (nv q2.1)) (.int .u64 (nv q2.2))
              replace b1 := b1.set2 (o := g8) (by omega) (.int .u64 (nv q2.1)) (.int .u64 (nv q2.2))
              replace box8 := box8.put2 (nv q2.1) (nv q2.2)
              replace hW := (hW.setCell (p := ⟨g8, 0, none⟩) z8 (.int .u64 (nv q2.1))).setCell (p := ⟨g8, 1, none⟩) z8 (.int .u64 (nv q2.2))
              refine hK.out _ _ ⟨b0.c0, b0.c1, b1.c0, b1.c1⟩ (fun hHeld => ?_)
              clear hK K
              refine wpAnyH_done (by kernel_rfl) ?_ _
              go_wp2_with fail
              go_meet
              exact ⟨g8, rfl, box8, hW⟩
          · go_wp2_with fail
            have box8_ := Box.new w3_ 0 0
            have hb : Below w3_.heap.size w3_ (w3_.alloc (.cells #[.int .u64 0, .int .u64 0] 24)) := (Below.refl _ _).alloc (Nat.le_refl _) _
            have lt : w3_.heap.size < (w3_.alloc (.cells #[.int .u64 0, .int .u64 0] 24)).heap.size := by rw [World.size_alloc]; omega
            have n18 : k18 ≠ w3_.heap.size := Nat.ne_of_lt l18
            have z8 := hz
            replace b0 := b0.grown hb
            replace b1 := b1.grown hb
            replace own18 := own_grown own18 hb
            replace l18 := Nat.lt_of_lt_of_le l18 hb.size
            replace box20 := box20.grown hb
            replace hW := hW.trans (hb.mono hz)
            replace hz := Nat.le_trans hz hb.size
            clear hb
            have box8 := box8_
            clear box8_
            have l8 := lt
            refine hK.out _ _ ⟨b0.c0, b0.c1, b1.c0, b1.c1⟩ (fun hHeld => ?_)
            clear hK K
            generalize w3_.alloc (.cells #[.int .u64 0, .int .u64 0] 24) = w4_ at *
            generalize w3_.heap.size = g8 at *
            refine onlyL 6 rfl (by kernel_rfl) (by rfl) (fun K hK => ?_)
            refine wp_app1 (.tmp 18) (.tmp 20) rfl W0.heap.size k18 n c18 f rfl own18 g20 p rfl box20 (by omega) hz (fun v21 w5_ own21 hg => ?_)
            have hk18 := (own18.lt k18 rfl).1
            have hW2 : Below W0.heap.size w4_ w5_ := (Below.refl _ _).grown hg hz (fun k e => by
              obtain rfl : k18 = k := by simpa using e
              exact hk18)
            replace b0 := b0.below hW2 hb0
            replace b1 := b1.below hW2 hb1
            replace hW := hW.trans hW2
            replace box8 := box8.kept hg (fun e => n18 (by simpa using e.symm))
            replace l8 := Nat.lt_of_lt_of_le l8 hg.size
            replace hz := Nat.le_trans hz hg.size
            clear own18 box20 hW2 hg hk18
            obtain ⟨x21, c21, rfl, row21⟩ := own_prow own21
            clear own21
            refine hK.out _ _ ⟨b0.c0, b0.c1, b1.c0, b1.c1⟩ (fun hHeld => ?_)
            clear hK K
            simp only [Act.put, List.setIfInBounds_toArray]
            refine onlyL 7 rfl (by kernel_rfl) (by rfl) (fun K hK => ?_)
            go_wp2_with fail
            refine (eval_is hE h (fun i => if i < n then f i else p) x21 (n + 1) c21 (by omega) _ row21 HQ2.out).mono ?_
            rintro e w6_ ⟨rfl, hb⟩
            replace b0 := b0.grown hb
            replace b1 := b1.grown hb
            replace box8 := box8.grown hb
            replace l8 := Nat.lt_of_lt_of_le l8 hb.size
            replace hW := hW.trans (hb.mono hz)
            replace hz := Nat.le_trans hz hb.size
            clear hb row21
            refine hK.out _ _ ⟨b0.c0, b0.c1, b1.c0, b1.c1⟩ (fun hHeld => ?_)
            clear hK K
            refine onlyL 9 rfl (by kernel_rfl) (by rfl) (fun K hK => ?_)
            have k0 := box8.c0
            have k1 := box8.c1
            have k2 := box8.frozen 0
            have k3 := box8.frozen 1
            go_wp2_with fail
            clear k0 k1 k2 k3
            replace b0 := b0.set2 (o := g8) (by omega) (.int .u64 (nv q2.1)) (.int .u64 (nv q2.2))
            replace b1 := b1.set2 (o := g8) (by omega) (.int .u64 (nv q2.1)) (.int .u64 (nv q2.2))
            replace box8 := box8.put2 (nv q2.1) (nv q2.2)
            replace hW := (hW.setCell (p := ⟨g8, 0, none⟩) z8 (.int .u64 (nv q2.1))).setCell (p := ⟨g8, 1, none⟩) z8 (.int .u64 (nv q2.2))
            refine hK.out _ _ ⟨b0.c0, b0.c1, b1.c0, b1.c1⟩ (fun hHeld => ?_)
            clear hK K
            refine wpAnyH_done (by kernel_rfl) ?_ _
            go_wp2_with fail
            go_meet
            exact ⟨g8, rfl, box8, hW⟩
        · go_wp2_with fail
          have box8_ := Box.new w2_ 0 0
          have hb : Below w2_.heap.size w2_ (w2_.alloc (.cells #[.int .u64 0, .int .u64 0] 24)) := (Below.refl _ _).alloc (Nat.le_refl _) _
          have lt : w2_.heap.size < (w2_.alloc (.cells #[.int .u64 0, .int .u64 0] 24)).heap.size := by rw [World.size_alloc]; omega
          have n16 : g16 ≠ w2_.heap.size := Nat.ne_of_lt l16
          have z8 := hz
          replace b0 := b0.grown hb
          replace b1 := b1.grown hb
          replace own16 := own_grown own16 hb
          replace l16 := Nat.lt_of_lt_of_le l16 hb.size
          replace box20 := box20.grown hb
          replace hW := hW.trans (hb.mono hz)
          replace hz := Nat.le_trans hz hb.size
          clear hb
          have box8 := box8_
          clear box8_
          have l8 := lt
          refine hK.out _ _ ⟨b0.c0, b0.c1, b1.c0, b1.c1⟩ (fun hHeld => ?_)
          clear hK K
          generalize w2_.alloc (.cells #[.int .u64 0, .int .u64 0] 24) = w3_ at *
          generalize w2_.heap.size = g8 at *
          refine onlyL 3 rfl (by kernel_rfl) (by rfl) (fun K hK => ?_)
          refine wp_app0 (.tmp 16) (.tmp 17) rfl W0.heap.size g16 rfl own16 x n cap f rfl (hx.below (Nat.le_refl _) hW) (by omega) hz (fun k18 c18 w4_ own18 hb hk => ?_)
          have n18 : k18 ≠ g8 := by
            rcases hk with rfl | hk
            · exact n16
            · omega
          replace b0 := b0.grown hb
          replace b1 := b1.grown hb
          replace box20 := box20.grown hb
          replace box8 := box8.grown hb
          replace l8 := Nat.lt_of_lt_of_le l8 hb.size
          replace hW := hW.trans (hb.mono hz)
          replace hz := Nat.le_trans hz hb.size
          have l18 : k18 < w4_.heap.size := (own18.lt k18 rfl).2
          clear hb hk own16
          refine hK.out _ _ ⟨b0.c0, b0.c1, b1.c0, b1.c1⟩ (fun hHeld => ?_)
          clear hK K
          simp only [Act.put, List.setIfInBounds_toArray]
          refine onlyL 6 rfl (by kernel_rfl) (by rfl) (fun K hK => ?_)
          refine wp_app1 (.tmp 18) (.tmp 20) rfl W0.heap.size k18 n c18 f rfl own18 g20 p rfl box20 (by omega) hz (fun v21 w5_ own21 hg => ?_)
          have hk18 := (own18.lt k18 rfl).1
          have hW2 : Below W0.heap.size w4_ w5_ := (Below.refl _ _).grown hg hz (fun k e => by
            obtain rfl : k18 = k := by simpa using e
            exact hk18)
          replace b0 := b0.below hW2 hb0
          replace b1 := b1.below hW2 hb1
          replace hW := hW.trans hW2
          replace box8 := box8.kept hg (fun e => n18 (by simpa using e.symm))
          replace l8 := Nat.lt_of_lt_of_le l8 hg.size
          replace hz := Nat.le_trans hz hg.size
          clear own18 box20 hW2 hg hk18
          obtain ⟨x21, c21, rfl, row21⟩ := own_prow own21
          clear own21
          refine hK.out _ _ ⟨b0.c0, b0.c1, b1.c0, b1.c1⟩ (fun hHeld => ?_)
          clear hK K
          simp only [Act.put, List.setIfInBounds_toArray]
          refine onlyL 7 rfl (by kernel_rfl) (by rfl) (fun K hK => ?_)
          go_wp2_with fail
          refine (eval_is hE h (fun i => if i < n then f i else p) x21 (n + 1) c21 (by omega) _ row21 HQ2.out).mono ?_
          rintro e w6_ ⟨rfl, hb⟩
          replace b0 := b0.grown hb
          replace b1 := b1.grown hb
          replace box8 := box8.grown hb
          replace l8 := Nat.lt_of_lt_of_le l8 hb.size
          replace hW := hW.trans (hb.mono hz)
          replace hz := Nat.le_trans hz hb.size
          clear hb row21
          refine hK.out _ _ ⟨b0.c0, b0.c1, b1.c0, b1.c1⟩ (fun hHeld => ?_)
          clear hK K
          refine onlyL 9 rfl (by kernel_rfl) (by rfl) (fun K hK => ?_)
          have k0 := box8.c0
          have k1 := box8.c1
          have k2 := box8.frozen 0
          have k3 := box8.frozen 1
          go_wp2_with fail
          clear k0 k1 k2 k3
          replace b0 := b0.set2 (o := g8) (by omega) (.int .u64 (nv q2.1)) (.int .u64 (nv q2.2))
          replace b1 := b1.set2 (o := g8) (by omega) (.int .u64 (nv q2.1)) (.int .u64 (nv q2.2))
          replace box8 := box8.put2 (nv q2.1) (nv q2.2)
          replace hW := (hW.setCell (p := ⟨g8, 0, none⟩) z8 (.int .u64 (nv q2.1))).setCell (p := ⟨g8, 1, none⟩) z8 (.int .u64 (nv q2.2))
          refine hK.out _ _ ⟨b0.c0, b0.c1, b1.c0, b1.c1⟩ (fun hHeld => ?_)
          clear hK K
          refine wpAnyH_done (by kernel_rfl) ?_ _
          go_wp2_with fail
          go_meet
          exact ⟨g8, rfl, box8, hW⟩
      · go_wp2_with fail
        have box8_ := Box.new w1_ 0 0
        have hb : Below w1_.heap.size w1_ (w1_.alloc (.cells #[.int .u64 0, .int .u64 0] 24)) := (Below.refl _ _).alloc (Nat.le_refl _) _
        have lt : w1_.heap.size < (w1_.alloc (.cells #[.int .u64 0, .int .u64 0] 24)).heap.size := by rw [World.size_alloc]; omega
        have z8 := hz
        replace b0 := b0.grown hb
        replace b1 := b1.grown hb
        replace box20 := box20.grown hb
        replace hW := hW.trans (hb.mono hz)
        replace hz := Nat.le_trans hz hb.size
        clear hb
        have box8 := box8_
        clear box8_
        have l8 := lt
        refine hK.out _ _ ⟨b0.c0, b0.c1, b1.c0, b1.c1⟩ (fun hHeld => ?_)
        clear hK K
        generalize w1_.alloc (.cells #[.int .u64 0, .int .u64 0] 24) = w2_ at *
        generalize w1_.heap.size = g8 at *
        refine onlyL 1 rfl (by kernel_rfl) (by rfl) (fun K hK => ?_)
        go_wp2_with fail
        have own16_ := World.ownsRow_made (base := W0.heap.size) (e := 24) (size := 2) w2_ #[] 0 hz (by decide) rfl
        have hb : Below w2_.heap.size w2_ (w2_.alloc (.cells #[] 24)) := (Below.refl _ _).alloc (Nat.le_refl _) _
        have lt : w2_.heap.size < (w2_.alloc (.cells #[] 24)).heap.size := by rw [World.size_alloc]; omega
        have n16 : w2_.heap.size ≠ g8 := Nat.ne_of_gt l8
        replace b0 := b0.grown hb
        replace b1 := b1.grown hb
        replace box20 := box20.grown hb
        replace box8 := box8.grown hb
        replace l8 := Nat.lt_of_lt_of_le l8 hb.size
        replace hW := hW.trans (hb.mono hz)
        replace hz := Nat.le_trans hz hb.size
        clear hb
        have own16 := own16_
        clear own16_
        have l16 := lt
        refine hK.out _ _ ⟨b0.c0, b0.c1, b1.c0, b1.c1⟩ (fun hHeld => ?_)
        clear hK K
        generalize w2_.alloc (.cells #[] 24) = w3_ at *
        generalize w2_.heap.size = g16 at *
        refine onlyL 3 rfl (by kernel_rfl) (by rfl) (fun K hK => ?_)
        refine wp_app0 (.tmp 16) (.tmp 17) rfl W0.heap.size g16 rfl own16 x n cap f rfl (hx.below (Nat.le_refl _) hW) (by omega) hz (fun k18 c18 w4_ own18 hb hk => ?_)
        have n18 : k18 ≠ g8 := by
          rcases hk with rfl | hk
          · exact n16
          · omega
        replace b0 := b0.grown hb
        replace b1 := b1.grown hb
        replace box20 := box20.grown hb
        replace box8 := box8.grown hb
        replace l8 := Nat.lt_of_lt_of_le l8 hb.size
        replace hW := hW.trans (hb.mono hz)
        replace hz := Nat.le_trans hz hb.size
        have l18 : k18 < w4_.heap.size := (own18.lt k18 rfl).2
        clear hb hk own16
        refine hK.out _ _ ⟨b0.c0, b0.c1, b1.c0, b1.c1⟩ (fun hHeld => ?_)
        clear hK K
        simp only [Act.put, List.setIfInBounds_toArray]
        refine onlyL 6 rfl (by kernel_rfl) (by rfl) (fun K hK => ?_)
        refine wp_app1 (.tmp 18) (.tmp 20) rfl W0.heap.size k18 n c18 f rfl own18 g20 p rfl box20 (by omega) hz (fun v21 w5_ own21 hg => ?_)
        have hk18 := (own18.lt k18 rfl).1
        have hW2 : Below W0.heap.size w4_ w5_ := (Below.refl _ _).grown hg hz (fun k e => by
          obtain rfl : k18 = k := by simpa using e
          exact hk18)
        replace b0 := b0.below hW2 hb0
        replace b1 := b1.below hW2 hb1
        replace hW := hW.trans hW2
        replace box8 := box8.kept hg (fun e => n18 (by simpa using e.symm))
        replace l8 := Nat.lt_of_lt_of_le l8 hg.size
        replace hz := Nat.le_trans hz hg.size
        clear own18 box20 hW2 hg hk18
        obtain ⟨x21, c21, rfl, row21⟩ := own_prow own21
        clear own21
        refine hK.out _ _ ⟨b0.c0, b0.c1, b1.c0, b1.c1⟩ (fun hHeld => ?_)
        clear hK K
        simp only [Act.put, List.setIfInBounds_toArray]
        refine onlyL 7 rfl (by kernel_rfl) (by rfl) (fun K hK => ?_)
        go_wp2_with fail
        refine (eval_is hE h (fun i => if i < n then f i else p) x21 (n + 1) c21 (by omega) _ row21 HQ2.out).mono ?_
        rintro e w6_ ⟨rfl, hb⟩
        replace b0 := b0.grown hb
        replace b1 := b1.grown hb
        replace box8 := box8.grown hb
        replace l8 := Nat.lt_of_lt_of_le l8 hb.size
        replace hW := hW.trans (hb.mono hz)
        replace hz := Nat.le_trans hz hb.size
        clear hb row21
        refine hK.out _ _ ⟨b0.c0, b0.c1, b1.c0, b1.c1⟩ (fun hHeld => ?_)
        clear hK K
        refine onlyL 9 rfl (by kernel_rfl) (by rfl) (fun K hK => ?_)
        have k0 := box8.c0
        have k1 := box8.c1
        have k2 := box8.frozen 0
        have k3 := box8.frozen 1
        go_wp2_with fail
        clear k0 k1 k2 k3
        replace b0 := b0.set2 (o := g8) (by omega) (.int .u64 (nv q2.1)) (.int .u64 (nv q2.2))
        replace b1 := b1.set2 (o := g8) (by omega) (.int .u64 (nv q2.1)) (.int .u64 (nv q2.2))
        replace box8 := box8.put2 (nv q2.1) (nv q2.2)
        replace hW := (hW.setCell (p := ⟨g8, 0, none⟩) z8 (.int .u64 (nv q2.1))).setCell (p := ⟨g8, 1, none⟩) z8 (.int .u64 (nv q2.2))
        refine hK.out _ _ ⟨b0.c0, b0.c1, b1.c0, b1.c1⟩ (fun hHeld => ?_)
        clear hK K
        refine wpAnyH_done (by kernel_rfl) ?_ _
        go_wp2_with fail
        go_meet
        exact ⟨g8, rfl, box8, hW⟩
    · go_wp2_with fail
      have box8_ := Box.new w0_ 0 0
      have hb : Below w0_.heap.size w0_ (w0_.alloc (.cells #[.int .u64 0, .int .u64 0] 24)) := (Below.refl _ _).alloc (Nat.le_refl _) _
      have lt : w0_.heap.size < (w0_.alloc (.cells #[.int .u64 0, .int .u64 0] 24)).heap.size := by rw [World.size_alloc]; omega
      have z8 := hz
      replace b0 := b0.grown hb
      replace b1 := b1.grown hb
      replace hW := hW.trans (hb.mono hz)
      replace hz := Nat.le_trans hz hb.size
      clear hb
      have box8 := box8_
      clear box8_
      have l8 := lt
      refine hK.out _ _ ⟨b0.c0, b0.c1, b1.c0, b1.c1⟩ (fun hHeld => ?_)
      clear hK K
      generalize w0_.alloc (.cells #[.int .u64 0, .int .u64 0] 24) = w1_ at *
      generalize w0_.heap.size = g8 at *
      refine twoL 1 5 rfl rfl (by kernel_rfl) (by rfl) (by rfl) (fun K hK => ?_) (fun K hK => ?_)
      · go_wp2_with fail
        have own16_ := World.ownsRow_made (base := W0.heap.size) (e := 24) (size := 2) w1_ #[] 0 hz (by decide) rfl
        have hb : Below w1_.heap.size w1_ (w1_.alloc (.cells #[] 24)) := (Below.refl _ _).alloc (Nat.le_refl _) _
        have lt : w1_.heap.size < (w1_.alloc (.cells #[] 24)).heap.size := by rw [World.size_alloc]; omega
        have n16 : w1_.heap.size ≠ g8 := Nat.ne_of_gt l8
        replace b0 := b0.grown hb
        replace b1 := b1.grown hb
        replace box8 := box8.grown hb
        replace l8 := Nat.lt_of_lt_of_le l8 hb.size
        replace hW := hW.trans (hb.mono hz)
        replace hz := Nat.le_trans hz hb.size
        clear hb
        have own16 := own16_
        clear own16_
        have l16 := lt
        refine hK.out _ _ ⟨b0.c0, b0.c1, b1.c0, b1.c1⟩ (fun hHeld => ?_)
        clear hK K
        generalize w1_.alloc (.cells #[] 24) = w2_ at *
        generalize w1_.heap.size = g16 at *
        refine twoL 3 5 rfl rfl (by kernel_rfl) (by rfl) (by rfl) (fun K hK => ?_) (fun K hK => ?_)
        · refine wp_app0 (.tmp 16) (.tmp 17) rfl W0.heap.size g16 rfl own16 x n cap f rfl (hx.below (Nat.le_refl _) hW) (by omega) hz (fun k18 c18 w3_ own18 hb hk => ?_)
          have n18 : k18 ≠ g8 := by
            rcases hk with rfl | hk
            · exact n16
            · omega
          replace b0 := b0.grown hb
          replace b1 := b1.grown hb
          replace box8 := box8.grown hb
          replace l8 := Nat.lt_of_lt_of_le l8 hb.size
          replace hW := hW.trans (hb.mono hz)
          replace hz := Nat.le_trans hz hb.size
          have l18 : k18 < w3_.heap.size := (own18.lt k18 rfl).2
          clear hb hk own16
          refine hK.out _ _ ⟨b0.c0, b0.c1, b1.c0, b1.c1⟩ (fun hHeld => ?_)
          clear hK K
          simp only [Act.put, List.setIfInBounds_toArray]
          refine onlyL 5 rfl (by kernel_rfl) (by rfl) (fun K hK => ?_)
          go_wp2_with fail
          have box20_ := Box.new w3_ (nv p.1) (nv p.2)
          have hb : Below w3_.heap.size w3_ (w3_.alloc (.cells #[.int .u64 (nv p.1), .int .u64 (nv p.2)] 24)) := (Below.refl _ _).alloc (Nat.le_refl _) _
          have lt : w3_.heap.size < (w3_.alloc (.cells #[.int .u64 (nv p.1), .int .u64 (nv p.2)] 24)).heap.size := by rw [World.size_alloc]; omega
          replace b0 := b0.grown hb
          replace b1 := b1.grown hb
          replace own18 := own_grown own18 hb
          replace l18 := Nat.lt_of_lt_of_le l18 hb.size
          replace box8 := box8.grown hb
          replace l8 := Nat.lt_of_lt_of_le l8 hb.size
          replace hW := hW.trans (hb.mono hz)
          replace hz := Nat.le_trans hz hb.size
          clear hb
          have box20 := box20_
          clear box20_
          refine hK.out _ _ ⟨b0.c0, b0.c1, b1.c0, b1.c1⟩ (fun hHeld => ?_)
          clear hK K
          generalize w3_.alloc (.cells #[.int .u64 (nv p.1), .int .u64 (nv p.2)] 24) = w4_ at *
          generalize w3_.heap.size = g20 at *
          refine onlyL 6 rfl (by kernel_rfl) (by rfl) (fun K hK => ?_)
          refine wp_app1 (.tmp 18) (.tmp 20) rfl W0.heap.size k18 n c18 f rfl own18 g20 p rfl box20 (by omega) hz (fun v21 w5_ own21 hg => ?_)
          have hk18 := (own18.lt k18 rfl).1
          have hW2 : Below W0.heap.size w4_ w5_ := (Below.refl _ _).grown hg hz (fun k e => by
            obtain rfl : k18 = k := by simpa using e
            exact hk18)
          replace b0 := b0.below hW2 hb0
          replace b1 := b1.below hW2 hb1
          replace hW := hW.trans hW2
          replace box8 := box8.kept hg (fun e => n18 (by simpa using e.symm))
          replace l8 := Nat.lt_of_lt_of_le l8 hg.size
          replace hz := Nat.le_trans hz hg.size
          clear own18 box20 hW2 hg hk18
          obtain ⟨x21, c21, rfl, row21⟩ := own_prow own21
          clear own21
          refine hK.out _ _ ⟨b0.c0, b0.c1, b1.c0, b1.c1⟩ (fun hHeld => ?_)
          clear hK K
          simp only [Act.put, List.setIfInBounds_toArray]
          refine onlyL 7 rfl (by kernel_rfl) (by rfl) (fun K hK => ?_)
          go_wp2_with fail
          refine (eval_is hE h (fun i => if i < n then f i else p) x21 (n + 1) c21 (by omega) _ row21 HQ2.out).mono ?_
          rintro e w6_ ⟨rfl, hb⟩
          replace b0 := b0.grown hb
          replace b1 := b1.grown hb
          replace box8 := box8.grown hb
          replace l8 := Nat.lt_of_lt_of_le l8 hb.size
          replace hW := hW.trans (hb.mono hz)
          replace hz := Nat.le_trans hz hb.size
          clear hb row21
          refine hK.out _ _ ⟨b0.c0, b0.c1, b1.c0, b1.c1⟩ (fun hHeld => ?_)
          clear hK K
          refine onlyL 9 rfl (by kernel_rfl) (by rfl) (fun K hK => ?_)
          have k0 := box8.c0
          have k1 := box8.c1
          have k2 := box8.frozen 0
          have k3 := box8.frozen 1
          go_wp2_with fail
          clear k0 k1 k2 k3
          replace b0 := b0.set2 (o := g8) (by omega) (.int .u64 (nv q2.1)) (.int .u64 (nv q2.2))
          replace b1 := b1.set2 (o := g8) (by omega) (.int .u64 (nv q2.1)) (.int .u64 (nv q2.2))
          replace box8 := box8.put2 (nv q2.1) (nv q2.2)
          replace hW := (hW.setCell (p := ⟨g8, 0, none⟩) z8 (.int .u64 (nv q2.1))).setCell (p := ⟨g8, 1, none⟩) z8 (.int .u64 (nv q2.2))
          refine hK.out _ _ ⟨b0.c0, b0.c1, b1.c0, b1.c1⟩ (fun hHeld => ?_)
          clear hK K
          refine wpAnyH_done (by kernel_rfl) ?_ _
          go_wp2_with fail
          go_meet
          exact ⟨g8, rfl, box8, hW⟩
        · go_wp2_with fail
          have box20_ := Box.new w2_ (nv p.1) (nv p.2)
          have hb : Below w2_.heap.size w2_ (w2_.alloc (.cells #[.int .u64 (nv p.1), .int .u64 (nv p.2)] 24)) := (Below.refl _ _).alloc (Nat.le_refl _) _
          have lt : w2_.heap.size < (w2_.alloc (.cells #[.int .u64 (nv p.1), .int .u64 (nv p.2)] 24)).heap.size := by rw [World.size_alloc]; omega
          replace b0 := b0.grown hb
          replace b1 := b1.grown hb
          replace own16 := own_grown own16 hb
          replace l16 := Nat.lt_of_lt_of_le l16 hb.size
          replace box8 := box8.grown hb
          replace l8 := Nat.lt_of_lt_of_le l8 hb.size
          replace hW := hW.trans (hb.mono hz)
          replace hz := Nat.le_trans hz hb.size
          clear hb
          have box20 := box20_
          clear box20_
          refine hK.out _ _ ⟨b0.c0, b0.c1, b1.c0, b1.c1⟩ (fun hHeld => ?_)
          clear hK K
          generalize w2_.alloc (.cells #[.int .u64 (nv p.1), .int .u64 (nv p.2)] 24) = w3_ at *
          generalize w2_.heap.size = g20 at *
          refine onlyL 3 rfl (by kernel_rfl) (by rfl) (fun K hK => ?_)
          refine wp_app0 (.tmp 16) (.tmp 17) rfl W0.heap.size g16 rfl own16 x n cap f rfl (hx.below (Nat.le_refl _) hW) (by omega) hz (fun k18 c18 w4_ own18 hb hk => ?_)
          have n18 : k18 ≠ g8 := by
            rcases hk with rfl | hk
            · exact n16
            · omega
          replace b0 := b0.grown hb
          replace b1 := b1.grown hb
          replace box20 := box20.grown hb
          replace box8 := box8.grown hb
          replace l8 := Nat.lt_of_lt_of_le l8 hb.size
          replace hW := hW.trans (hb.mono hz)
          replace hz := Nat.le_trans hz hb.size
          have l18 : k18 < w4_.heap.size := (own18.lt k18 rfl).2
          clear hb hk own16
          refine hK.out _ _ ⟨b0.c0, b0.c1, b1.c0, b1.c1⟩ (fun hHeld => ?_)
          clear hK K
          simp only [Act.put, List.setIfInBounds_toArray]
          refine onlyL 6 rfl (by kernel_rfl) (by rfl) (fun K hK => ?_)
          refine wp_app1 (.tmp 18) (.tmp 20) rfl W0.heap.size k18 n c18 f rfl own18 g20 p rfl box20 (by omega) hz (fun v21 w5_ own21 hg => ?_)
          have hk18 := (own18.lt k18 rfl).1
          have hW2 : Below W0.heap.size w4_ w5_ := (Below.refl _ _).grown hg hz (fun k e => by
            obtain rfl : k18 = k := by simpa using e
            exact hk18)
          replace b0 := b0.below hW2 hb0
          replace b1 := b1.below hW2 hb1
          replace hW := hW.trans hW2
          replace box8 := box8.kept hg (fun e => n18 (by simpa using e.symm))
          replace l8 := Nat.lt_of_lt_of_le l8 hg.size
          replace hz := Nat.le_trans hz hg.size
          clear own18 box20 hW2 hg hk18
          obtain ⟨x21, c21, rfl, row21⟩ := own_prow own21
          clear own21
          refine hK.out _ _ ⟨b0.c0, b0.c1, b1.c0, b1.c1⟩ (fun hHeld => ?_)
          clear hK K
          simp only [Act.put, List.setIfInBounds_toArray]
          refine onlyL 7 rfl (by kernel_rfl) (by rfl) (fun K hK => ?_)
          go_wp2_with fail
          refine (eval_is hE h (fun i => if i < n then f i else p) x21 (n + 1) c21 (by omega) _ row21 HQ2.out).mono ?_
          rintro e w6_ ⟨rfl, hb⟩
          replace b0 := b0.grown hb
          replace b1 := b1.grown hb
          replace box8 := box8.grown hb
          replace l8 := Nat.lt_of_lt_of_le l8 hb.size
          replace hW := hW.trans (hb.mono hz)
          replace hz := Nat.le_trans hz hb.size
          clear hb row21
          refine hK.out _ _ ⟨b0.c0, b0.c1, b1.c0, b1.c1⟩ (fun hHeld => ?_)
          clear hK K
          refine onlyL 9 rfl (by kernel_rfl) (by rfl) (fun K hK => ?_)
          have k0 := box8.c0
          have k1 := box8.c1
          have k2 := box8.frozen 0
          have k3 := box8.frozen 1
          go_wp2_with fail
          clear k0 k1 k2 k3
          replace b0 := b0.set2 (o := g8) (by omega) (.int .u64 (nv q2.1)) (.int .u64 (nv q2.2))
          replace b1 := b1.set2 (o := g8) (by omega) (.int .u64 (nv q2.1)) (.int .u64 (nv q2.2))
          replace box8 := box8.put2 (nv q2.1) (nv q2.2)
          replace hW := (hW.setCell (p := ⟨g8, 0, none⟩) z8 (.int .u64 (nv q2.1))).setCell (p := ⟨g8, 1, none⟩) z8 (.int .u64 (nv q2.2))
          refine hK.out _ _ ⟨b0.c0, b0.c1, b1.c0, b1.c1⟩ (fun hHeld => ?_)
          clear hK K
          refine wpAnyH_done (by kernel_rfl) ?_ _
          go_wp2_with fail
          go_meet
          exact ⟨g8, rfl, box8, hW⟩
      · go_wp2_with fail
        have box20_ := Box.new w1_ (nv p.1) (nv p.2)
        have hb : Below w1_.heap.size w1_ (w1_.alloc (.cells #[.int .u64 (nv p.1), .int .u64 (nv p.2)] 24)) := (Below.refl _ _).alloc (Nat.le_refl _) _
        have lt : w1_.heap.size < (w1_.alloc (.cells #[.int .u64 (nv p.1), .int .u64 (nv p.2)] 24)).heap.size := by rw [World.size_alloc]; omega
        replace b0 := b0.grown hb
        replace b1 := b1.grown hb
        replace box8 := box8.grown hb
        replace l8 := Nat.lt_of_lt_of_le l8 hb.size
        replace hW := hW.trans (hb.mono hz)
        replace hz := Nat.le_trans hz hb.size
        clear hb
        have box20 := box20_
        clear box20_
        refine hK.out _ _ ⟨b0.c0, b0.c1, b1.c0, b1.c1⟩ (fun hHeld => ?_)
        clear hK K
        generalize w1_.alloc (.cells #[.int .u64 (nv p.1), .int .u64 (nv p.2)] 24) = w2_ at *
        generalize w1_.heap.size = g20 at *
        refine onlyL 1 rfl (by kernel_rfl) (by rfl) (fun K hK => ?_)
        go_wp2_with fail
        have own16_ := World.ownsRow_made (base := W0.heap.size) (e := 24) (size := 2) w2_ #[] 0 hz (by decide) rfl
        have hb : Below w2_.heap.size w2_ (w2_.alloc (.cells #[] 24)) := (Below.refl _ _).alloc (Nat.le_refl _) _
        have lt : w2_.heap.size < (w2_.alloc (.cells #[] 24)).heap.size := by rw [World.size_alloc]; omega
        have n16 : w2_.heap.size ≠ g8 := Nat.ne_of_gt l8
        replace b0 := b0.grown hb
        replace b1 := b1.grown hb
        replace box20 := box20.grown hb
        replace box8 := box8.grown hb
        replace l8 := Nat.lt_of_lt_of_le l8 hb.size
        replace hW := hW.trans (hb.mono hz)
        replace hz := Nat.le_trans hz hb.size
        clear hb
        have own16 := own16_
        clear own16_
        have l16 := lt
        refine hK.out _ _ ⟨b0.c0, b0.c1, b1.c0, b1.c1⟩ (fun hHeld => ?_)
        clear hK K
        generalize w2_.alloc (.cells #[] 24) = w3_ at *
        generalize w2_.heap.size = g16 at *
        refine onlyL 3 rfl (by kernel_rfl) (by rfl) (fun K hK => ?_)
        refine wp_app0 (.tmp 16) (.tmp 17) rfl W0.heap.size g16 rfl own16 x n cap f rfl (hx.below (Nat.le_refl _) hW) (by omega) hz (fun k18 c18 w4_ own18 hb hk => ?_)
        have n18 : k18 ≠ g8 := by
          rcases hk with rfl | hk
          · exact n16
          · omega
        replace b0 := b0.grown hb
        replace b1 := b1.grown hb
        replace box20 := box20.grown hb
        replace box8 := box8.grown hb
        replace l8 := Nat.lt_of_lt_of_le l8 hb.size
        replace hW := hW.trans (hb.mono hz)
        replace hz := Nat.le_trans hz hb.size
        have l18 : k18 < w4_.heap.size := (own18.lt k18 rfl).2
        clear hb hk own16
        refine hK.out _ _ ⟨b0.c0, b0.c1, b1.c0, b1.c1⟩ (fun hHeld => ?_)
        clear hK K
        simp only [Act.put, List.setIfInBounds_toArray]
        refine onlyL 6 rfl (by kernel_rfl) (by rfl) (fun K hK => ?_)
        refine wp_app1 (.tmp 18) (.tmp 20) rfl W0.heap.size k18 n c18 f rfl own18 g20 p rfl box20 (by omega) hz (fun v21 w5_ own21 hg => ?_)
        have hk18 := (own18.lt k18 rfl).1
        have hW2 : Below W0.heap.size w4_ w5_ := (Below.refl _ _).grown hg hz (fun k e => by
          obtain rfl : k18 = k := by simpa using e
          exact hk18)
        replace b0 := b0.below hW2 hb0
        replace b1 := b1.below hW2 hb1
        replace hW := hW.trans hW2
        replace box8 := box8.kept hg (fun e => n18 (by simpa using e.symm))
        replace l8 := Nat.lt_of_lt_of_le l8 hg.size
        replace hz := Nat.le_trans hz hg.size
        clear own18 box20 hW2 hg hk18
        obtain ⟨x21, c21, rfl, row21⟩ := own_prow own21
        clear own21
        refine hK.out _ _ ⟨b0.c0, b0.c1, b1.c0, b1.c1⟩ (fun hHeld => ?_)
        clear hK K
        simp only [Act.put, List.setIfInBounds_toArray]
        refine onlyL 7 rfl (by kernel_rfl) (by rfl) (fun K hK => ?_)
        go_wp2_with fail
        refine (eval_is hE h (fun i => if i < n then f i else p) x21 (n + 1) c21 (by omega) _ row21 HQ2.out).mono ?_
        rintro e w6_ ⟨rfl, hb⟩
        replace b0 := b0.grown hb
        replace b1 := b1.grown hb
        replace box8 := box8.grown hb
        replace l8 := Nat.lt_of_lt_of_le l8 hb.size
        replace hW := hW.trans (hb.mono hz)
        replace hz := Nat.le_trans hz hb.size
        clear hb row21
        refine hK.out _ _ ⟨b0.c0, b0.c1, b1.c0, b1.c1⟩ (fun hHeld => ?_)
        clear hK K
        refine onlyL 9 rfl (by kernel_rfl) (by rfl) (fun K hK => ?_)
        have k0 := box8.c0
        have k1 := box8.c1
        have k2 := box8.frozen 0
        have k3 := box8.frozen 1
        go_wp2_with fail
        clear k0 k1 k2 k3
        replace b0 := b0.set2 (o := g8) (by omega) (.int .u64 (nv q2.1)) (.int .u64 (nv q2.2))
        replace b1 := b1.set2 (o := g8) (by omega) (.int .u64 (nv q2.1)) (.int .u64 (nv q2.2))
        replace box8 := box8.put2 (nv q2.1) (nv q2.2)
        replace hW := (hW.setCell (p := ⟨g8, 0, none⟩) z8 (.int .u64 (nv q2.1))).setCell (p := ⟨g8, 1, none⟩) z8 (.int .u64 (nv q2.2))
        refine hK.out _ _ ⟨b0.c0, b0.c1, b1.c0, b1.c1⟩ (fun hHeld => ?_)
        clear hK K
        refine wpAnyH_done (by kernel_rfl) ?_ _
        go_wp2_with fail
        go_meet
        exact ⟨g8, rfl, box8, hW⟩

  case rest =>
    obtain ⟨g8, rfl, b3, hW⟩ := hcut
    replace b0 := b0.grown hW
    replace b1 := b1.grown hW
    have b2 := b2.grown hW
    have hB := hB.trans (hW.mono hB.size)
    go_wp2_with fail
    refine wp_region_held_drew (S := fun w' => w'.cell? ⟨w.heap.size, 0, none⟩ = some (.int .u64 (nv h.1)) ∧ w'.cell? ⟨w.heap.size, 1, none⟩ = some (.int .u64 (nv h.2)) ∧ w'.cell? ⟨w.heap.size + 1, 0, none⟩ = some (.int .u64 (nv p.1)) ∧ w'.cell? ⟨w.heap.size + 1, 1, none⟩ = some (.int .u64 (nv p.2)) ∧ w'.cell? ⟨A, 0, none⟩ = some (.int .u64 (nv q.1)) ∧ w'.cell? ⟨A, 1, none⟩ = some (.int .u64 (nv q.2)) ∧ w'.cell? ⟨g8, 0, none⟩ = some (.int .u64 (nv q2.1)) ∧ w'.cell? ⟨g8, 1, none⟩ = some (.int .u64 (nv q2.2))) (by kernel_rfl) ⟨b0.c0, b0.c1, b1.c0, b1.c1, b2.c0, b2.c1, b3.c0, b3.c1⟩ (fun hHeld => ?_)
    refine takeL 0 23 (v := ?_) rfl rfl (by kernel_rfl) (by kernel_rfl) (by kernel_rfl) (fun _ _ _ h => h) (by rfl) hHeld (fun w hSw => ?_) ?_
    rotate_left 1
    · (try dsimp only at hSw); go_simp; try with_reducible rfl
    simp only [List.set_cons_succ, List.set_cons_zero]
    refine takeL 1 24 (v := ?_) rfl rfl (by kernel_rfl) (by kernel_rfl) (by kernel_rfl) (fun _ _ _ h => h) (by rfl) hHeld (fun w hSw => ?_) ?_
    rotate_left 1
    · (try dsimp only at hSw); go_simp; try with_reducible rfl
    simp only [List.set_cons_succ, List.set_cons_zero]
    refine takeM 2 25 1 rfl rfl rfl (by kernel_rfl) (by kernel_rfl) (by kernel_rfl) (fun _ _ _ h => h) (by rfl) hHeld rfl ?_
    simp only [List.set_cons_succ, List.set_cons_zero]
    refine onlyL 3 rfl (by kernel_rfl) (by rfl) (fun K hK => ?_)
    go_wp2_with fail
    refine (reval_is h f x n cap (by omega) _ (hx.below (Nat.le_refl _) hW.drew) HQ.out).mono ?_
    rintro e wn ⟨rfl, hbn⟩
    have hbn := (Below.refl _ _).drew.trans hbn
    have b0 := b0.grown hbn
    have b1 := b1.grown hbn
    have b2 := b2.grown hbn
    have b3 := b3.grown hbn
    have hB := hB.trans (hbn.mono hB.size)
    refine hK.out _ _ ⟨b0.c0, b0.c1, b1.c0, b1.c1, b2.c0, b2.c1, b3.c0, b3.c1⟩ (fun hHeld => ?_)
    clear hK K hbn
    refine takeL 4 27 (v := ?_) rfl rfl (by kernel_rfl) (by kernel_rfl) (by kernel_rfl) (fun _ _ _ h => h) (by rfl) hHeld (fun w hSw => ?_) ?_
    rotate_left 1
    · (try dsimp only at hSw); go_simp; try with_reducible rfl
    simp only [List.set_cons_succ, List.set_cons_zero]
    refine takeM 5 28 27 rfl rfl rfl (by kernel_rfl) (by kernel_rfl) (by kernel_rfl) (fun _ _ _ h => h) (by rfl) hHeld rfl ?_
    simp only [List.set_cons_succ, List.set_cons_zero]
    refine takeL 6 29 (v := ?_) rfl rfl (by kernel_rfl) (by kernel_rfl) (by kernel_rfl) (fun _ _ _ h => h) (by rfl) hHeld (fun w hSw => ?_) ?_
    rotate_left 1
    · (try dsimp only at hSw); go_simp; try with_reducible rfl
    simp only [List.set_cons_succ, List.set_cons_zero]
    refine takeL 7 30 (v := ?_) rfl rfl (by kernel_rfl) (by kernel_rfl) (by kernel_rfl) (fun _ _ _ h => h) (by rfl) hHeld (fun w hSw => ?_) ?_
    rotate_left 1
    · (try dsimp only at hSw); go_simp; try with_reducible rfl
    simp only [List.set_cons_succ, List.set_cons_zero]
    refine takeL 8 31 (v := ?_) rfl rfl (by kernel_rfl) (by kernel_rfl) (by kernel_rfl) (fun _ _ _ h => h) (by rfl) hHeld (fun w hSw => ?_) ?_
    rotate_left 1
    · (try dsimp only at hSw); go_simp; try with_reducible rfl
    simp only [List.set_cons_succ, List.set_cons_zero]
    refine takeL 10 33 (v := ?_) rfl rfl (by kernel_rfl) (by kernel_rfl) (by kernel_rfl) (fun _ _ _ h => h) (by rfl) hHeld (fun w hSw => ?_) ?_
    rotate_left 1
    · (try dsimp only at hSw); go_simp; try with_reducible rfl
    simp only [List.set_cons_succ, List.set_cons_zero]
    refine onlyL 9 rfl (by kernel_rfl) (by rfl) (fun K hK => ?_)
    go_wp2_with fail
    refine (hA q p _).mono ?_
    rintro e wn ⟨rfl, hbn⟩
    have b0 := b0.grown hbn
    have b1 := b1.grown hbn
    have b2 := b2.grown hbn
    have b3 := b3.grown hbn
    have hB := hB.trans (hbn.mono hB.size)
    refine hK.out _ _ ⟨b0.c0, b0.c1, b1.c0, b1.c1, b2.c0, b2.c1, b3.c0, b3.c1⟩ (fun hHeld => ?_)
    clear hK K hbn
    refine onlyL 11 rfl (by kernel_rfl) (by rfl) (fun K hK => ?_)
    go_wp2_with fail
    refine (mul_is hM (addP q p) h HM.out _).mono ?_
    rintro e wn ⟨rfl, hbn⟩
    have b0 := b0.grown hbn
    have b1 := b1.grown hbn
    have b2 := b2.grown hbn
    have b3 := b3.grown hbn
    have hB := hB.trans (hbn.mono hB.size)
    refine hK.out _ _ ⟨b0.c0, b0.c1, b1.c0, b1.c1, b2.c0, b2.c1, b3.c0, b3.c1⟩ (fun hHeld => ?_)
    clear hK K hbn
    refine takeL 12 35 (v := ?_) rfl rfl (by kernel_rfl) (by kernel_rfl) (by kernel_rfl) (fun _ _ _ h => h) (by rfl) hHeld (fun w hSw => ?_) ?_
    rotate_left 1
    · (try dsimp only at hSw); go_simp; try with_reducible rfl
    simp only [List.set_cons_succ, List.set_cons_zero]
    refine takeL 13 36 (v := ?_) rfl rfl (by kernel_rfl) (by kernel_rfl) (by kernel_rfl) (fun _ _ _ h => h) (by rfl) hHeld (fun w hSw => ?_) ?_
    rotate_left 1
    · (try dsimp only at hSw); go_simp; try with_reducible rfl
    simp only [List.set_cons_succ, List.set_cons_zero]
    refine takeM 14 37 36 rfl rfl rfl (by kernel_rfl) (by kernel_rfl) (by kernel_rfl) (fun _ _ _ h => h) (by rfl) hHeld rfl ?_
    simp only [List.set_cons_succ, List.set_cons_zero]
    refine onlyL 15 rfl (by kernel_rfl) (by rfl) (fun K hK => ?_)
    go_wp2_with fail
    refine (known_true hM _).mono ?_
    rintro e wn ⟨rfl, hbn⟩
    have b0 := b0.grown hbn
    have b1 := b1.grown hbn
    have b2 := b2.grown hbn
    have b3 := b3.grown hbn
    have hB := hB.trans (hbn.mono hB.size)
    refine hK.out _ _ ⟨b0.c0, b0.c1, b1.c0, b1.c1, b2.c0, b2.c1, b3.c0, b3.c1⟩ (fun hHeld => ?_)
    clear hK K hbn
    refine takeL 16 39 (v := ?_) rfl rfl (by kernel_rfl) (by kernel_rfl) (by kernel_rfl) (fun _ _ _ h => h) (by rfl) hHeld (fun w hSw => ?_) ?_
    rotate_left 1
    · (try dsimp only at hSw); go_simp; try with_reducible rfl
    simp only [List.set_cons_succ, List.set_cons_zero]
    refine takeA 17 6 39 rfl rfl rfl (by kernel_rfl) (by kernel_rfl) (by kernel_rfl) (fun _ _ _ h => h) (by rfl) hHeld rfl ?_
    simp only [List.set_cons_succ, List.set_cons_zero]
    refine wpAnyH_done (by kernel_rfl) ?_ _
    go_wp2
    go_ret
    exact ⟨rfl, hB⟩

end Go.Proofs.Ytmkkcplkpajjfaa
