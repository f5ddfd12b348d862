/- OracleOwn's walk. -/
import Derived.Test.YtfgigbecmhmidaaOrcLaws
import Derived.Test.YtfgigbecmhmidaaRegion
namespace Go.Proofs.Ytfgigbecmhmidaa
open Go.RowKit

variable {Inv : (Nat → Prop) → World → Value → OSt → Prop}
/-- What was sealed, where it is one thing. -/
theorem issued_one (hO : OrcIs Inv) (F : Nat → Prop) (v : Value) (E : Iss) (S : List (List Int)) (n : Nat) (hn : E.data.length = n) (w : World) (hI : Inv F w v ([E], S)) :
    Calls Try.prog 19 #[v] w fun e w' => ∃ g o cz F' d dc u uc, e = .returned (.slice (some ⟨g, o, none⟩) 1 cz) ∧ 1 ≤ cz ∧ Kept Inv F w v F' w' ([E], S) ∧ g < w'.heap.size ∧ (w.heap.size ≤ g ∧ ¬ F' g) ∧ w'.cell? ⟨g, o + 6, none⟩ = some (.slice d n dc) ∧ w'.cell? ⟨g, o + 7, none⟩ = some (.slice u n uc) ∧
      SIn (fun k => w.heap.size ≤ k ∧ ¬ F' k) w' d n E.data ∧ SIn (fun k => w.heap.size ≤ k ∧ ¬ F' k) w' u n (outB 1 n) ∧ ∀ k i, w.heap.size ≤ k → w'.frozen? ⟨k, i, none⟩ = false := by
  subst hn
  refine (hO.issued F v ([E], S) (by simp) w hI).mono ?_
  rintro e w' ⟨z, cz, F', rfl, hK, rd, hcl, hfr⟩
  obtain ⟨g, o, rfl, hgl, hgG, hr⟩ := rd.2 (by simp)
  obtain ⟨C, hin, hcells⟩ := hr 0 (by simp)
  simp only [Nat.zero_mul, Nat.add_zero] at hcells
  exact ⟨g, o, cz, F', C.d, C.dc, C.o, C.oc, rfl, hcl, hK, hgl, hgG, hcells 6 _ rfl, hcells 7 _ rfl, hin.ds, hin.os, hfr⟩
set_option maxRecDepth 10000 in
set_option maxHeartbeats 4000000 in
theorem own_in (hO : OrcIs Inv) (xs : List Int) (x : Option Addr) (n c : Nat) (h1 : 1 ≤ n) (h2 : n ≤ 100) (bx : Bytes xs) (fx : Fit x n c) (w : World) (sx : SAt w x n xs) :
    Calls Try.prog 7 #[.slice x n c] w fun e w' => e = .returned (.bool true) ∧ Below w.heap.size w w' := by
  have heq := eq32
  have hxl := sx.1
  go_enter Try.func7, Try.ntmps7
  go_wp2_with fail
  refine (hO.make _).mono ?_
  rintro e w1 ⟨o1, F1, rfl, hI, hF1, hB⟩
  obtain ⟨a1, rfl⟩ := hO.ptr hI
  have hlt1 := hO.lt hI
  have hw1s := hB.size
  have s1 := sx.below hB
  have hb : Below w1.heap.size w1 (w1.alloc (.cells #[] 5)) := (Below.refl _ _).alloc (Nat.le_refl _) _
  have hlit : (w1.alloc (.cells #[] 5)).ownsRow w1.heap.size 5 1 (.slice (some ⟨w1.heap.size, 0, none⟩) 0 0) 0 (([] : List Int).map (Value.int .u8)) :=
    World.ownsRow_lit (base := w1.heap.size) (e := 5) (size := 1) w1 #[] 0 (Nat.le_refl _) (by decide) rfl
  go_wp2_with (at_builtin; refine wpList_app rfl _ _ rfl w1.heap.size _ 0 [] rfl hlit x n c xs rfl (s1.below hb) fx.2.2 (by omega) hb.size ?_)
  intro v2 w2 own2 hb2 hv2
  replace hv2 := own_not_nil own2 (by omega)
  replace hb := hb.trans hb2
  obtain ⟨gi, ci, rfl, hgi, hgil, hgic, hgicm, hati⟩ := own_bytes hxl own2 hv2
  have fri := own_frozen own2
  have hgF : ¬ F1 gi := fun h => by have := hlt1 gi h; omega
  replace hI := hO.below hI hb
  replace hB := hB.trans (hb.mono hB.size)
  have hw2 := hb.size
  clear hb hb2 hlit s1 own2 hv2
  go_wp2_with fail
  refine (oseal_at hO F1 _ [] [] (0#64, 0#64) (0#32, 0#32, 0#64) rfl rfl rfl rfl rfl [] xs none (some ⟨gi, 0, none⟩) 0 n 0 ci (by decide) (by omega) (by decide) bytes_none bx fit_none ⟨hgic, hgicm, fun e => by cases e⟩ _ hI (SIn.none _ _ _) ⟨hxl, fun _ => ⟨gi, 0, rfl, hgil, hgF, hati⟩⟩ (i := 1) rfl).mono ?_
  rintro e w3 ⟨z, cz, F2, rfl, hK, sz, fz⟩
  have hgF2 : ¬ F2 gi := fun h => (hK.sub gi h).elim hgF (fun h => by omega)
  have hF2 : ∀ k, F2 k → w.heap.size ≤ k := fun k hk => (hK.sub k hk).elim (hF1 k) (fun h => Nat.le_trans hB.size h)
  replace hati := hati.off hK.off hgil hgF
  have fr0 := (hK.off.frozen (p := ⟨gi, 0, none⟩) hgil hgF).trans (fri 0)
  replace hB := hB.trans (hK.off.below hF1 hB.size)
  have hgz : gi < w2.heap.size := hgil
  replace hgil := Nat.lt_of_lt_of_le hgil hK.off.size
  replace hI : Inv F2 w3 (.pointer (some a1)) ([⟨(0#64, 0#64), (0#32, 0#32, 0#64), [], xs⟩], []) := hK.inv
  clear hK hF1 fri
  have hb : Below w3.heap.size w3 (w3.alloc (.cells #[.slice z n cz, .int .u64 18446744073709551615, .int .u64 1] 41)) := (Below.refl _ _).alloc (Nat.le_refl _) _
  have fr1 := (hb.frozen (p := ⟨gi, 0, none⟩) hgil).trans fr0
  have hc1 := (hati.below hb hgil) 0 (by omega)
  rw [Nat.zero_add] at hc1
  generalize xs.getD 0 0 = x0 at hc1
  clear hb
  go_wp2_with fail
  clear fr1 hc1 fr0
  generalize bits BinOp.xor IntKind.u8 x0 255 = u0
  have hot : Off (fun k => k = gi) w3 (w3.setCell ⟨gi, 0, none⟩ (.int .u8 u0)) := Off.one _ _ _ _
  have hw3 : (w3.setCell ⟨gi, 0, none⟩ (.int .u8 u0)).heap.size = w3.heap.size := by simp
  replace hI := hO.keep hI hot (fun k h e => by subst e; exact hgF2 h)
  replace sz := sz.off hot (fun k _ h e => by have := h.1; omega)
  replace hB := hB.trans (hot.below (fun k h => by omega) hB.size)
  clear hot hati
  generalize w3.setCell ⟨gi, 0, none⟩ (.int .u8 u0) = w4 at *
  have bS := SBox.new w4 (.slice z n cz) 18446744073709551615 1
  have hb : Below w4.heap.size w4 (w4.alloc (.cells #[.slice z n cz, .int .u64 18446744073709551615, .int .u64 1] 41)) := (Below.refl _ _).alloc (Nat.le_refl _) _
  have hAF : ¬ F2 w4.heap.size := fun h => Nat.lt_irrefl _ (hO.lt hI _ h)
  rw [hw3] at bS hAF
  replace hI := hO.below hI hb
  replace sz := sz.off (Off.of_below (F := fun _ => False) hb) (fun _ _ _ h => h)
  replace hB := hB.trans (hb.mono hB.size)
  clear hb hw3
  generalize w4.alloc (.cells #[.slice z n cz, .int .u64 18446744073709551615, .int .u64 1] 41) = w5 at *
  generalize w3.heap.size = A at *
  refine (issued_one hO F2 _ ⟨(0#64, 0#64), (0#32, 0#32, 0#64), [], xs⟩ [] n hxl _ hI).mono ?_
  rintro e w6 ⟨g, o, cl, F3, d, dc, u, uc, rfl, hcl, hK, hgl, hgG, hc6, hc7, ds, us, hfr⟩
  have hF3 : ∀ k, F3 k → w.heap.size ≤ k := fun k hk => (hK.sub k hk).elim (hF2 k) (fun h => Nat.le_trans hB.size h)
  have hA5 := bS.lt
  replace bS : SBox w6 A (.slice z n cz) 18446744073709551615 1 := off_block bS hK.off hAF
  have hsz : ∀ k, k < w5.heap.size → ¬ F2 k → ¬ F3 k := fun k h1 h2 h3 => (hK.sub k h3).elim h2 (fun h => by omega)
  replace sz := (sz.mono (G' := fun k => k < w5.heap.size ∧ ¬ F2 k) (fun k h1 h => ⟨h1, h.2⟩)).off hK.off (fun k _ h => h.2)
  have hB5 := hB.size
  replace hB := hB.trans (hK.off.below hF2 hB.size)
  replace hI := hK.inv
  clear hK
  go_wp2_with fail
  have s6 := sx.below hB
  --<region10
  refine wp_region_held_drew (S := fun w' => Below w6.heap.size w6 w') (by kernel_rfl) (Below.refl _ _).drew (fun hHeld => ?_)
  refine takeM 0 44 7 rfl rfl rfl (by kernel_rfl) (by kernel_rfl) (by kernel_rfl) (fun _ _ _ h => h) (by rfl) hHeld rfl ?_
  simp only [List.set_cons_succ, List.set_cons_zero]
  refine takeL 1 45 (v := ?_) rfl rfl (by kernel_rfl) (by kernel_rfl) (by kernel_rfl) (fun _ _ _ h => h) (by rfl) hHeld (fun w hSw => ?_) ?_
  rotate_left 1
  · (try dsimp only at hSw)
    clear hSw
    go_simp
    try with_reducible rfl
  simp only [List.set_cons_succ, List.set_cons_zero]
  refine takeL 2 46 (v := ?_) rfl rfl (by kernel_rfl) (by kernel_rfl) (by kernel_rfl) (fun _ _ _ h => h) (by rfl) hHeld (fun w hSw => ?_) ?_
  rotate_left 1
  · (try dsimp only at hSw)
    clear hSw
    go_simp
    try with_reducible rfl
  simp only [List.set_cons_succ, List.set_cons_zero]
  refine takeM 3 47 46 rfl rfl rfl (by kernel_rfl) (by kernel_rfl) (by kernel_rfl) (fun _ _ _ h => h) (by rfl) hHeld rfl ?_
  simp only [List.set_cons_succ, List.set_cons_zero]
  refine takeM 4 48 7 rfl rfl rfl (by kernel_rfl) (by kernel_rfl) (by kernel_rfl) (fun _ _ _ h => h) (by rfl) hHeld rfl ?_
  simp only [List.set_cons_succ, List.set_cons_zero]
  refine takeL 5 49 (v := ?_) rfl rfl (by kernel_rfl) (by kernel_rfl) (by kernel_rfl) (fun _ _ _ h => h) (by rfl) hHeld (fun w hSw => ?_) ?_
  rotate_left 1
  · (try dsimp only at hSw)
    clear hSw
    go_simp
    try with_reducible rfl
  simp only [List.set_cons_succ, List.set_cons_zero]
  refine takeL 6 50 (v := ?_) rfl rfl (by kernel_rfl) (by kernel_rfl) (by kernel_rfl) (fun _ _ _ h => h) (by rfl) hHeld (fun w hSw => ?_) ?_
  rotate_left 1
  · (try dsimp only at hSw)
    clear hSw
    go_simp
    try with_reducible rfl
  simp only [List.set_cons_succ, List.set_cons_zero]
  refine takeL 7 51 (v := ?_) rfl rfl (by kernel_rfl) (by kernel_rfl) (by kernel_rfl) (fun _ _ _ h => h) (by rfl) hHeld (fun w hSw => ?_) ?_
  rotate_left 1
  · (try dsimp only at hSw)
    have e0_ := (hSw.cell (p := ⟨g, o + 6, none⟩) hgl).trans hc6
    clear hSw
    go_simp
    try with_reducible rfl
  simp only [List.set_cons_succ, List.set_cons_zero]
  refine takeL 8 52 (v := ?_) rfl rfl (by kernel_rfl) (by kernel_rfl) (by kernel_rfl) (fun _ _ _ h => h) (by rfl) hHeld (fun w hSw => ?_) ?_
  rotate_left 1
  · (try dsimp only at hSw)
    have e0_ := fun c => (ds.sat.below hSw).conv (c := c)
    clear hSw
    go_simp
    try with_reducible rfl
  simp only [List.set_cons_succ, List.set_cons_zero]
  refine takeM 9 53 0 rfl rfl rfl (by kernel_rfl) (by kernel_rfl) (by kernel_rfl) (fun _ _ _ h => h) (by rfl) hHeld rfl ?_
  simp only [List.set_cons_succ, List.set_cons_zero]
  refine takeL 10 54 (v := ?_) rfl rfl (by kernel_rfl) (by kernel_rfl) (by kernel_rfl) (fun _ _ _ h => h) (by rfl) hHeld (fun w hSw => ?_) ?_
  rotate_left 1
  · (try dsimp only at hSw)
    have e0_ := fun c => (s6.below hSw).conv (c := c)
    clear hSw
    go_simp
    try with_reducible rfl
  simp only [List.set_cons_succ, List.set_cons_zero]
  refine takeL 11 55 (v := ?_) rfl rfl (by kernel_rfl) (by kernel_rfl) (by kernel_rfl) (fun _ _ _ h => h) (by rfl) hHeld (fun w hSw => ?_) ?_
  rotate_left 1
  · (try dsimp only at hSw)
    clear hSw
    go_simp
    try with_reducible rfl
  simp only [List.set_cons_succ, List.set_cons_zero]
  refine takeL 12 56 (v := ?_) rfl rfl (by kernel_rfl) (by kernel_rfl) (by kernel_rfl) (fun _ _ _ h => h) (by rfl) hHeld (fun w hSw => ?_) ?_
  rotate_left 1
  · (try dsimp only at hSw)
    clear hSw
    go_simp
    try with_reducible rfl
  simp only [List.set_cons_succ, List.set_cons_zero]
  refine takeM 13 57 56 rfl rfl rfl (by kernel_rfl) (by kernel_rfl) (by kernel_rfl) (fun _ _ _ h => h) (by rfl) hHeld rfl ?_
  simp only [List.set_cons_succ, List.set_cons_zero]
  refine takeM 14 58 7 rfl rfl rfl (by kernel_rfl) (by kernel_rfl) (by kernel_rfl) (fun _ _ _ h => h) (by rfl) hHeld rfl ?_
  simp only [List.set_cons_succ, List.set_cons_zero]
  refine takeL 15 59 (v := ?_) rfl rfl (by kernel_rfl) (by kernel_rfl) (by kernel_rfl) (fun _ _ _ h => h) (by rfl) hHeld (fun w hSw => ?_) ?_
  rotate_left 1
  · (try dsimp only at hSw)
    clear hSw
    go_simp
    try with_reducible rfl
  simp only [List.set_cons_succ, List.set_cons_zero]
  refine takeL 16 60 (v := ?_) rfl rfl (by kernel_rfl) (by kernel_rfl) (by kernel_rfl) (fun _ _ _ h => h) (by rfl) hHeld (fun w hSw => ?_) ?_
  rotate_left 1
  · (try dsimp only at hSw)
    clear hSw
    go_simp
    try with_reducible rfl
  simp only [List.set_cons_succ, List.set_cons_zero]
  refine takeL 17 61 (v := ?_) rfl rfl (by kernel_rfl) (by kernel_rfl) (by kernel_rfl) (fun _ _ _ h => h) (by rfl) hHeld (fun w hSw => ?_) ?_
  rotate_left 1
  · (try dsimp only at hSw)
    clear hSw
    go_simp
    try with_reducible rfl
  simp only [List.set_cons_succ, List.set_cons_zero]
  refine takeL 18 62 (v := ?_) rfl rfl (by kernel_rfl) (by kernel_rfl) (by kernel_rfl) (fun _ _ _ h => h) (by rfl) hHeld (fun w hSw => ?_) ?_
  rotate_left 1
  · (try dsimp only at hSw)
    have e0_ := (hSw.cell (p := ⟨g, o + 7, none⟩) hgl).trans hc7
    clear hSw
    go_simp
    try with_reducible rfl
  simp only [List.set_cons_succ, List.set_cons_zero]
  refine takeL 19 63 (v := ?_) rfl rfl (by kernel_rfl) (by kernel_rfl) (by kernel_rfl) (fun _ _ _ h => h) (by rfl) hHeld (fun w hSw => ?_) ?_
  rotate_left 1
  · (try dsimp only at hSw)
    clear hSw
    go_simp
    try with_reducible rfl
  simp only [List.set_cons_succ, List.set_cons_zero]
  refine takeM 20 64 0 rfl rfl rfl (by kernel_rfl) (by kernel_rfl) (by kernel_rfl) (fun _ _ _ h => h) (by rfl) hHeld rfl ?_
  simp only [List.set_cons_succ, List.set_cons_zero]
  refine takeL 21 65 (v := ?_) rfl rfl (by kernel_rfl) (by kernel_rfl) (by kernel_rfl) (fun _ _ _ h => h) (by rfl) hHeld (fun w hSw => ?_) ?_
  rotate_left 1
  · (try dsimp only at hSw)
    clear hSw
    go_simp
    try with_reducible rfl
  simp only [List.set_cons_succ, List.set_cons_zero]
  refine takeL 22 66 (v := ?_) rfl rfl (by kernel_rfl) (by kernel_rfl) (by kernel_rfl) (fun _ _ _ h => h) (by rfl) hHeld (fun w hSw => ?_) ?_
  rotate_left 1
  · (try dsimp only at hSw)
    clear hSw
    go_simp
    try with_reducible rfl
  simp only [List.set_cons_succ, List.set_cons_zero]
  refine takeL 23 67 (v := ?_) rfl rfl (by kernel_rfl) (by kernel_rfl) (by kernel_rfl) (fun _ _ _ h => h) (by rfl) hHeld (fun w hSw => ?_) ?_
  rotate_left 1
  · (try dsimp only at hSw)
    clear hSw
    go_simp
    try with_reducible rfl
  simp only [List.set_cons_succ, List.set_cons_zero]
  refine wpAnyH_done (by kernel_rfl) ?_ _
  -->region10
  have hb : Below w6.heap.size w6 w6.drew := (Below.refl _ _).drew
  replace hI := hO.below hI hb
  replace bS := bS.grown hb
  replace sz := sz.off (Off.of_below (F := fun _ => False) hb) (fun _ _ _ h => h)
  replace ds := ds.off (Off.of_below (F := fun _ => False) hb) (fun _ _ _ h => h)
  replace us := us.off (Off.of_below (F := fun _ => False) hb) (fun _ _ _ h => h)
  replace hc6 := (hb.cell (p := ⟨g, o + 6, none⟩) hgl).trans hc6
  replace hc7 := (hb.cell (p := ⟨g, o + 7, none⟩) hgl).trans hc7
  replace hfr : ∀ k i, w5.heap.size ≤ k → w6.drew.frozen? ⟨k, i, none⟩ = false := hfr
  replace hB := hB.trans (hb.mono hB.size)
  clear hb hgl s6 hHeld
  generalize w6.drew = w7 at *
  obtain ⟨bd, od, rfl, hbdl, hbdG, hatd⟩ := ds.2 (by omega)
  obtain ⟨bu, ou, rfl, hbul, hbuG, hatu⟩ := us.2 (by omega)
  have hcd := hatd 0 (by rw [hxl]; omega)
  have hcu := hatu 0 (by rw [outB_length]; omega)
  rw [Nat.add_zero] at hcd hcu
  generalize hd0 : xs.getD 0 0 = d0 at hcd
  generalize he0 : (outB 1 n).getD 0 0 = e0 at hcu
  clear hd0 he0
  obtain ⟨U, HU⟩ : ∃ U, bits BinOp.xor IntKind.u8 d0 255 = U := ⟨_, rfl⟩
  have hne : (⟨bd, od, none⟩ : Addr) ≠ ⟨g, o + 7, none⟩ := fun e => by
    rw [e, hc7] at hcd
    simp at hcd
  have hX : (w7.setCell ⟨bd, od, none⟩ (.int .u8 U)).cell? ⟨g, o + 7, none⟩ = some (.slice (some ⟨bu, ou, none⟩) n uc) := by rw [World.cell?_setCell_other _ _ _ _ hne, hc7]
  obtain ⟨e1, hY⟩ : ∃ e1, (w7.setCell ⟨bd, od, none⟩ (.int .u8 U)).cell? ⟨bu, ou, none⟩ = some (.int .u8 e1) := by
    by_cases e : (⟨bd, od, none⟩ : Addr) = ⟨bu, ou, none⟩
    · exact ⟨U, by rw [← e]; exact World.cell?_setCell_same _ _ _ hcd⟩
    · exact ⟨e0, by rw [World.cell?_setCell_other _ _ _ _ e, hcu]⟩
  have hf1 := hfr bd od hbdG.1
  have hf2 := hfr bu ou hbuG.1
  obtain ⟨U2, HU2⟩ : ∃ U2, bits BinOp.xor IntKind.u8 e1 255 = U2 := ⟨_, rfl⟩
  have hot : Off (fun k => k = bd ∨ k = bu) w7 ((w7.setCell ⟨bd, od, none⟩ (.int .u8 U)).setCell ⟨bu, ou, none⟩ (.int .u8 U2)) := ((Off.refl (fun k => k = bd ∨ k = bu) w7).setCell (p := ⟨bd, od, none⟩) (Or.inl (Or.inl rfl)) _).setCell (p := ⟨bu, ou, none⟩) (Or.inl (Or.inr rfl)) _
  have hbd5 := hbdG.1
  have hbu5 := hbuG.1
  have hw5 : w.heap.size ≤ w5.heap.size := hB5
  replace hI := hO.keep hI hot (fun k h e => by rcases e with rfl | rfl; exact hbdG.2 h; exact hbuG.2 h)
  replace bS : SBox _ A (.slice z n cz) 18446744073709551615 1 := off_block bS hot (fun e => by omega)
  replace sz := sz.off hot (fun k _ h e => by have := h.1; omega)
  replace hB := hB.trans (hot.below (fun k h => by omega) hB.size)
  have q0 := bS.c0
  have q1 := bS.c1
  have q2 := bS.c2
  clear ds us hatd hatu hcu hot
  go_wp2_with fail
  clear q0 q1 q2 hX hY hcd hf1 hf2 hc6 hc7 hne HU HU2 hfr
  generalize (w7.setCell ⟨bd, od, none⟩ (.int .u8 U)).setCell ⟨bu, ou, none⟩ (.int .u8 U2) = w8 at *
  refine (oopen_yes hO F3 _ ([⟨(0#64, 0#64), (0#32, 0#32, 0#64), [], xs⟩], []) ⟨(0#64, 0#64), (0#32, 0#32, 0#64), [], outB 1 n, tagI 1⟩ 0 rfl rfl rfl rfl rfl rfl rfl rfl rfl (ds := xs) rfl hxl none z 0 n 0 cz (by simp) bytes_none (outB_bytes _ _) fit_none fz ⟨by simp, rfl, rfl, rfl, by rw [show (([⟨(0#64, 0#64), (0#32, 0#32, 0#64), [], xs⟩] : List Iss).getD 0 default).data.length = n from hxl], rfl⟩ _ hI (SIn.none _ _ _) (sz.mono (fun k _ h => hsz k h.1 h.2))).mono ?_
  rintro e w9 ⟨zo, co, F4, rfl, hK, so⟩
  replace bS : SBox w9 A (.slice z n cz) 18446744073709551615 1 := off_block bS hK.off (hsz A hA5 hAF)
  replace hB := hB.trans (hK.off.below hF3 hB.size)
  replace so := so.sat
  clear hK sz hI
  go_wp2_with fail
  refine (hO.sealNil (0#64, 0#64) (0#32, 0#32, 0#64) none x 0 n 0 c _).mono ?_
  rintro e w10 ⟨⟨zn, cn, u1, u2, rfl⟩, hb⟩
  replace bS := bS.grown hb
  replace so := so.below hb
  replace hB := hB.trans (hb.mono hB.size)
  clear hb
  have hb : Below w10.heap.size w10 (w10.alloc (.cells #[.slice zn 0 cn, .int .u64 u1, .int .u64 u2] 41)) := (Below.refl _ _).alloc (Nat.le_refl _) _
  replace bS := bS.grown hb
  replace so := so.below hb
  replace hB := hB.trans (hb.mono hB.size)
  clear hb
  have q0 := bS.c0
  have q1 := bS.c1
  have q2 := bS.c2
  go_wp2_with fail
  clear q0 q1 q2
  refine (hO.openNil (0#64, 0#64) (0#32, 0#32, 0#64) none z 0 n 0 cz _ _ _).mono ?_
  rintro e w11 ⟨⟨zm, cm, rfl⟩, hb⟩
  replace so := so.below hb
  replace hB := hB.trans (hb.mono hB.size)
  clear hb bS
  have e0_ := fun c => so.conv (c := c)
  have e1_ := fun c => (sx.below hB).conv (c := c)
  go_wp2_with fail
  clear e0_ e1_ so
  have hb : Below w11.heap.size w11 (w11.alloc (.cells #[.slice x n c] 37)) := (Below.refl _ _).alloc (Nat.le_refl _) _
  replace hB := hB.trans (hb.mono hB.size)
  clear hb
  refine (hO.sumNil _ 1 1 _).mono ?_
  rintro e w12 ⟨rfl, hb⟩
  replace hB := hB.trans (hb.mono hB.size)
  clear hb
  go_wp2_with fail
  refine (hO.issuedNil _).mono ?_
  rintro e w13 ⟨⟨zi, cci, rfl⟩, hb⟩
  replace hB := hB.trans (hb.mono hB.size)
  clear hb
  go_wp2_with fail
  refine (hO.twiceNil _).mono ?_
  rintro e w14 ⟨rfl, hb⟩
  replace hB := hB.trans (hb.mono hB.size)
  clear hb
  go_wp2_with fail
  refine (oknown hO _).mono ?_
  rintro e w15 ⟨rfl, hb⟩
  replace hB := hB.trans (hb.mono hB.size)
  clear hb
  go_wp2
  go_ret
  exact ⟨rfl, hB⟩

set_option maxHeartbeats 400000 in
theorem own_any (hO : OrcIs Inv) (xs : List Int) (x : Option Addr) (n c : Nat) (bx : Bytes xs) (fx : Fit x n c) (w : World) (sx : SAt w x n xs) :
    Calls Try.prog 7 #[.slice x n c] w fun e w' => e = .returned (.bool true) ∧ Below w.heap.size w w' := by
  by_cases h1 : n < 1
  · go_enter Try.func7, Try.ntmps7
    go_wp2
    go_ret
    exact ⟨rfl, Below.refl _ _⟩
  · by_cases h2 : 100 < n
    · go_enter Try.func7, Try.ntmps7
      go_wp2
      go_ret
      exact ⟨rfl, Below.refl _ _⟩
    · exact own_in hO xs x n c (by omega) (by omega) bx fx w sx
end Go.Proofs.Ytfgigbecmhmidaa
