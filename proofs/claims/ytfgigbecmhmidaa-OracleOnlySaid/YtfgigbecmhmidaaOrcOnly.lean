/- OracleOnly's walk. -/
import Derived.Test.YtfgigbecmhmidaaOrcRow
import Derived.Test.YtfgigbecmhmidaaRegionM
import Derived.Test.YtfgigbecmhmidaaByt
namespace Go.Proofs.Ytfgigbecmhmidaa
open Go.RowKit

variable {Inv : (Nat → Prop) → World → Value → OSt → Prop}
theorem NBox.put3 {w : World} {b : Nat} {n : Nn} (h : NBox w b n) (m : Nn) : NBox (((w.setCell ⟨b, 0, none⟩ (.int .u32 (nv32 m.1))).setCell ⟨b, 1, none⟩ (.int .u32 (nv32 m.2.1))).setCell ⟨b, 2, none⟩ (.int .u64 (nv m.2.2))) b m := by
  unfold NBox at h ⊢
  simp [World.setCell, Array.getElem?_modify, h]
theorem set_self (xs : List Int) : xs = xs.set 0 (xs.getD 0 0) := by cases xs <;> rfl
theorem set_back {xs : List Int} {u : Int} (h0 : 0 < xs.length) (h : xs = xs.set 0 u) : u = xs.getD 0 0 := by
  cases xs with
  | nil => simp at h0
  | cons a xs => simp at h; simp [h]
def onlySlot : Nat → Nat
  | 2 => 68
  | 4 => 70
  | 5 => 71
  | 8 => 74
  | 11 => 77
  | 12 => 16
  | 13 => 17
  | 14 => 19
  | _ => 0
def onlyDep : Nat → List Nat
  | 4 => [2]
  | 8 => [5, 4]
  | 11 => [8]
  | _ => []
/-- What the operations of k, m, h, t := .. make. -/
def onlyA (B nx n : Nat) (hs : List Int) : Nat → List Value → World → Prop
  | 2 => Sl 68 (fun v w => ∃ g, v = .slice (some ⟨g, 0, none⟩) 0 0 ∧ w.ownsRow B 5 1 v 0 [])
  | 4 => Sl 70 (fun v w => v ≠ .slice none 0 0 ∧ w.ownsRow B 5 1 v nx (hs.map (Value.int .u8)))
  | 5 => Sl 71 (fun v w => ∃ g, v = .slice (some ⟨g, 0, none⟩) 0 0 ∧ w.ownsRow B 5 1 v 0 [])
  | 8 => fun t w => ∃ u v, t[70]? = some u ∧ t[74]? = some v ∧ v ≠ .slice none 0 0 ∧ w.ownsRow B 5 1 v n ((outB 1 n).map (Value.int .u8)) ∧ ∀ k, v.ownBlock = some k → u.ownBlock ≠ some k
  | 11 => fun t _ => ∃ u v, t[74]? = some u ∧ t[77]? = some v ∧ v = .agg #[u, .int .u64 18446744073709551615, .int .u64 1]
  | 12 => Sl 16 (fun v w => ∃ b, v = .pointer (some ⟨b, 0, none⟩) ∧ B ≤ b ∧ Box w b 0 0)
  | 13 => Sl 17 (fun v w => ∃ b, v = .pointer (some ⟨b, 0, none⟩) ∧ B ≤ b ∧ NBox w b (0#32, 0#32, 0#64))
  | 14 => Sl 19 (fun v w => ∃ b, v = .pointer (some ⟨b, 0, none⟩) ∧ B ≤ b ∧ SBox w b (.slice none 0 0) 0 0)
  | _ => fun _ _ => True
theorem onlyA_stay (B nx n : Nat) (hs : List Int) : ∀ i ∈ [2, 4, 5, 8, 12, 13, 14] ++ [11], ∀ t w j v w', onlyA B nx n hs i t w → j ∈ [2, 4, 5, 8, 12, 13, 14] ++ [11] → j ≠ i → j ∉ onlyDep i → Below w.heap.size w w' → onlyA B nx n hs i (t.set (onlySlot j) v) w' := by
  have hsl : ∀ i ∈ [2, 4, 5, 8, 12, 13, 14] ++ [11], ∀ j ∈ [2, 4, 5, 8, 12, 13, 14] ++ [11], j ≠ i → onlySlot j ≠ onlySlot i := by decide
  intro i hi t w j v w' h hj hne hd hb
  have hs0 := hsl i hi j hj hne
  have hs4 := hsl 4 (by decide) j hj
  have hs8 := hsl 8 (by decide) j hj
  simp only [List.cons_append, List.nil_append, List.mem_cons, List.not_mem_nil, or_false] at hi
  rcases hi with rfl | rfl | rfl | rfl | rfl | rfl | rfl | rfl
  · obtain ⟨u, h1, g, e, ho⟩ := h
    exact ⟨u, (List.getElem?_set_ne hs0).trans h1, g, e, own_grown ho hb⟩
  · obtain ⟨u, h1, e, ho⟩ := h
    exact ⟨u, (List.getElem?_set_ne hs0).trans h1, e, own_grown ho hb⟩
  · obtain ⟨u, h1, g, e, ho⟩ := h
    exact ⟨u, (List.getElem?_set_ne hs0).trans h1, g, e, own_grown ho hb⟩
  · obtain ⟨a, b, h1, h2, h3, h4, h5⟩ := h
    exact ⟨a, b, (List.getElem?_set_ne (hs4 (fun e => hd (by subst e; decide)))).trans h1, (List.getElem?_set_ne hs0).trans h2, h3, own_grown h4 hb, h5⟩
  · obtain ⟨u, h1, b, e, hB, hx⟩ := h
    exact ⟨u, (List.getElem?_set_ne hs0).trans h1, b, e, hB, hx.grown hb⟩
  · obtain ⟨u, h1, b, e, hB, hx⟩ := h
    exact ⟨u, (List.getElem?_set_ne hs0).trans h1, b, e, hB, hx.grown hb⟩
  · obtain ⟨u, h1, b, e, hB, hx⟩ := h
    exact ⟨u, (List.getElem?_set_ne hs0).trans h1, b, e, hB, hx.grown hb⟩
  · obtain ⟨a, b, h1, h2, h3⟩ := h
    exact ⟨a, b, (List.getElem?_set_ne (hs8 (fun e => hd (by subst e; decide)))).trans h1, (List.getElem?_set_ne hs0).trans h2, h3⟩
set_option maxRecDepth 10000 in
set_option maxHeartbeats 8000000 in
theorem only_in (hO : OrcIs Inv) (key : BitVec 64 × BitVec 64) (nn : Nn) (hs ds : List Int) (x y : Option Addr) (nx n cx cy : Nat) (way : Int) (vb : BitVec 8) (hnx : nx ≤ 100) (hn1 : 1 ≤ n) (hn2 : n ≤ 100) (hway : 0 ≤ way ∧ way ≤ 6) (bh : Bytes hs) (bd : Bytes ds) (fx : Fit x nx cx) (fy : Fit y n cy) (w : World) (sx : SAt w x nx hs) (sy : SAt w y n ds) :
    Calls Try.prog 4 #[.agg #[.int .u64 (nv key.1), .int .u64 (nv key.2)], .agg #[.int .u32 (nv32 nn.1), .int .u32 (nv32 nn.2.1), .int .u64 (nv nn.2.2)], .slice x nx cx, .slice y n cy, .int .i64 way, .int .u8 (nv8 vb)] w fun e w' => e = .returned (.bool true) ∧ Below w.heap.size w w' := by
  have heq := eq32
  have hxl := sx.1
  have hyl := sy.1
  have hw0 : ¬ way < 0 := by omega
  have hw6 : ¬ 6 < way := by omega
  have hvr := nv8_range vb
  go_enter Try.func4, Try.ntmps4
  go_wp2_with fail
  have b4 := (Box.new w (nv key.1) (nv key.2)).alloc (.cells #[.int .u32 (nv32 nn.1), .int .u32 (nv32 nn.2.1), .int .u64 (nv nn.2.2)] 36)
  have b5 := NBox.new (w.alloc (.cells #[.int .u64 (nv key.1), .int .u64 (nv key.2)] 33)) nn
  have hB : Below w.heap.size w ((w.alloc (.cells #[.int .u64 (nv key.1), .int .u64 (nv key.2)] 33)).alloc (.cells #[.int .u32 (nv32 nn.1), .int .u32 (nv32 nn.2.1), .int .u64 (nv nn.2.2)] 36)) := by go_grown
  simp only [World.size_alloc] at b5
  generalize (w.alloc (.cells #[.int .u64 (nv key.1), .int .u64 (nv key.2)] 33)).alloc (.cells #[.int .u32 (nv32 nn.1), .int .u32 (nv32 nn.2.1), .int .u64 (nv nn.2.2)] 36) = W1 at *
  refine (hO.make _).mono ?_
  rintro e w1 ⟨o1, F1, rfl, hI, hF1, hb⟩
  obtain ⟨a1, rfl⟩ := hO.ptr hI
  have hW1 : w.heap.size + 1 < W1.heap.size := b5.lt
  replace b4 := b4.grown hb
  replace b5 := b5.grown hb
  replace hB := hB.trans (hb.mono hB.size)
  replace hF1 : ∀ k, F1 k → w.heap.size + 1 < k := fun k hk => Nat.lt_of_lt_of_le hW1 (hF1 k hk)
  clear hb hW1
  have k0 := b4.c0
  have k1 := b4.c1
  have k2 := b5.c0
  have k3 := b5.c1
  have k4 := b5.c2
  have hGF : ∀ k, k ≤ w.heap.size + 1 → ¬ F1 k := fun k hk h => by have := hF1 k h; omega
  have sh := (sx.inn.off (Off.of_below (F := fun _ => False) hB) (fun _ _ _ h => h)).mono (G' := fun k => ¬ F1 k) (fun k _ h h1 => by have := hF1 k h1; omega)
  have sd := (sy.inn.off (Off.of_below (F := fun _ => False) hB) (fun _ _ _ h => h)).mono (G' := fun k => ¬ F1 k) (fun k _ h h1 => by have := hF1 k h1; omega)
  go_wp2_with fail
  clear k0 k1 k2 k3 k4
  refine (oseal_at hO F1 _ [] [] key nn rfl rfl rfl rfl rfl hs ds x y nx n cx cy (by omega) (by omega) (by decide) bh bd fx fy _ hI sh sd (i := 1) rfl).mono ?_
  rintro e w2 ⟨z, cz, F2, rfl, hK, sz, fz⟩
  have hF2 : ∀ k, F2 k → w.heap.size + 1 < k := fun k hk => (hK.sub k hk).elim (hF1 k) (fun h => Nat.lt_of_lt_of_le b5.lt h)
  replace b4 : Box w2 w.heap.size (nv key.1) (nv key.2) := off_block b4 hK.off (hGF _ (Nat.le_succ _))
  replace b5 : NBox w2 (w.heap.size + 1) nn := off_block b5 hK.off (hGF _ (Nat.le_refl _))
  replace hB := hB.trans (hK.off.below (fun k h => by have := hF1 k h; omega) hB.size)
  replace hI : Inv F2 w2 (.pointer (some a1)) ([⟨key, nn, hs, ds⟩], []) := hK.inv
  clear hK sh sd hF1 hGF
  have bS := SBox.new w2 (.slice z n cz) 18446744073709551615 1
  have hb : Below w2.heap.size w2 (w2.alloc (.cells #[.slice z n cz, .int .u64 18446744073709551615, .int .u64 1] 41)) := (Below.refl _ _).alloc (Nat.le_refl _) _
  replace hI := hO.below hI hb
  replace b4 := b4.grown hb
  replace b5 := b5.grown hb
  replace sz := sz.off (Off.of_below (F := fun _ => False) hb) (fun _ _ _ h => h)
  replace hB := hB.trans (hb.mono hB.size)
  clear hb
  have q0 := bS.c0
  go_wp2_with fail
  clear q0
  generalize w2.alloc (.cells #[.slice z n cz, .int .u64 18446744073709551615, .int .u64 1] 41) = wq at *
  have hBq0 := hB.size
  generalize w2.heap.size = A at *
  refine wp_region_held_drew (S := fun w' => Below wq.heap.size wq w') (by kernel_rfl) (Below.refl _ _).drew (fun hHeld => ?_)
  refine takeL 0 66 (v := ?_) rfl rfl (by kernel_rfl) (by kernel_rfl) (by kernel_rfl) (fun _ _ _ h => h) (by rfl) hHeld (fun w hSw => ?_) ?_
  rotate_left 1
  · (try dsimp only at hSw)
    have hx_ := b4.grown hSw
    have e0_ := hx_.c0
    have e1_ := hx_.c1
    clear hx_
    clear hSw
    go_simp
    try with_reducible rfl
  simp only [List.set_cons_succ, List.set_cons_zero]
  refine takeL 1 67 (v := ?_) rfl rfl (by kernel_rfl) (by kernel_rfl) (by kernel_rfl) (fun _ _ _ h => h) (by rfl) hHeld (fun w hSw => ?_) ?_
  rotate_left 1
  · (try dsimp only at hSw)
    have hx_ := b5.grown hSw
    have e0_ := hx_.c0
    have e1_ := hx_.c1
    have e2_ := hx_.c2
    clear hx_
    clear hSw
    go_simp
    try with_reducible rfl
  simp only [List.set_cons_succ, List.set_cons_zero]
  refine takeM 3 69 2 rfl rfl rfl (by kernel_rfl) (by kernel_rfl) (by kernel_rfl) (fun _ _ _ h => h) (by rfl) hHeld rfl ?_
  simp only [List.set_cons_succ, List.set_cons_zero]
  refine takeL 6 72 (v := ?_) rfl rfl (by kernel_rfl) (by kernel_rfl) (by kernel_rfl) (fun _ _ _ h => h) (by rfl) hHeld (fun w hSw => ?_) ?_
  rotate_left 1
  · (try dsimp only at hSw)
    clear hSw
    go_simp
    try with_reducible rfl
  simp only [List.set_cons_succ, List.set_cons_zero]
  refine takeL 7 73 (v := ?_) rfl rfl (by kernel_rfl) (by kernel_rfl) (by kernel_rfl) (fun _ _ _ h => h) (by rfl) hHeld (fun w hSw => ?_) ?_
  rotate_left 1
  · (try dsimp only at hSw)
    have hx_ := bS.grown hSw
    have e0_ := hx_.c0
    have e1_ := hx_.c1
    have e2_ := hx_.c2
    clear hx_
    clear hSw
    go_simp
    try with_reducible rfl
  simp only [List.set_cons_succ, List.set_cons_zero]
  refine takeL 9 75 (v := ?_) rfl rfl (by kernel_rfl) (by kernel_rfl) (by kernel_rfl) (fun _ _ _ h => h) (by rfl) hHeld (fun w hSw => ?_) ?_
  rotate_left 1
  · (try dsimp only at hSw)
    clear hSw
    go_simp
    try with_reducible rfl
  simp only [List.set_cons_succ, List.set_cons_zero]
  refine takeL 10 76 (v := ?_) rfl rfl (by kernel_rfl) (by kernel_rfl) (by kernel_rfl) (fun _ _ _ h => h) (by rfl) hHeld (fun w hSw => ?_) ?_
  rotate_left 1
  · (try dsimp only at hSw)
    have hx_ := bS.grown hSw
    have e0_ := hx_.c0
    have e1_ := hx_.c1
    have e2_ := hx_.c2
    clear hx_
    clear hSw
    go_simp
    try with_reducible rfl
  simp only [List.set_cons_succ, List.set_cons_zero]
  have h69 : ∀ i ∈ [2, 4, 5, 8, 12, 13, 14] ++ [11], 69 ≠ onlySlot i := by decide
  have h73 : ∀ i ∈ [2, 4, 5, 8, 12, 13, 14] ++ [11], 73 ≠ onlySlot i := by decide
  have h76 : ∀ i ∈ [2, 4, 5, 8, 12, 13, 14] ++ [11], 76 ≠ onlySlot i := by decide
  refine startMq (Gr := fun a b => Below a.heap.size a b) (slot := onlySlot) (A := onlyA wq.heap.size nx n hs) (dep := onlyDep) [2, 4, 5, 8, 12, 13, 14] 11 4 #[true, true, true, true, true, true, true, true, true, true, true, false, true, true, true, false, false, false, false] rfl rfl rfl (by decide) (by kernel_rfl) (by kernel_rfl) (by kernel_rfl) (fun _ _ _ _ h => h) (by decide) (Below.refl _ _) (by kernel_rfl) (by kernel_rfl) (fun _ _ _ h k => h.trans (k.mono h.size)) (fun _ => Below.refl _ _) (fun w' h => below_drew h) (by decide) ?_ (by kernel_rfl) (onlyA_stay _ _ _ _) ?_ ?_ ?_
  · intro i hi
    simp only [List.cons_append, List.nil_append, List.mem_cons, List.not_mem_nil, or_false] at hi
    rcases hi with rfl | rfl | rfl | rfl | rfl | rfl | rfl | rfl <;> simp [onlySlot]
  · intro i hi
    simp only [List.cons_append, List.nil_append, List.mem_cons, List.not_mem_nil, or_false] at hi
    rcases hi with rfl | rfl | rfl | rfl | rfl | rfl | rfl | rfl
    · refine ⟨_, rfl, fun l t' w' K hr hm => ⟨wanted_plain rfl _, fun hK => ?_⟩⟩
      refine wp_lit0L (k := 68) rfl rfl ?_
      exact hK _ _ ((Below.refl _ _).alloc (Nat.le_refl _) _) (⟨_, List.getElem?_set_self (by rw [hm.len]; simp [onlySlot]), _, rfl, World.ownsRow_lit (base := wq.heap.size) (e := 5) (size := 1) w' #[] 0 hm.gr.size (by decide) rfl⟩)
    · refine ⟨_, rfl, fun l t' w' K hr hm => ⟨wanted_plain rfl _, fun hK => ?_⟩⟩
      obtain ⟨v1, hv1, g, rfl, own⟩ := (hm.made 2 (by decide) (ready_dep hr rfl 2 (by kernel_rfl))).2
      refine wp_app0B (.tmp 68) (.tmp 69) rfl wq.heap.size g (eval_slot hv1) own x nx cx hs (eval_slot ((hm.old 69 (fun i hi _ => h69 i hi)).trans rfl)) (sx.below (hB.trans ((below_drew hm.gr).mono hB.size))) (by omega) hm.gr.size (fun k c' w'' ow hb _ => ?_)
      rw [put_slot (k := 70) rfl]
      exact hK _ _ hb ⟨_, List.getElem?_set_self (by rw [hm.len]; simp [onlySlot]), fun e => (by cases e), ow⟩
    · refine ⟨_, rfl, fun l t' w' K hr hm => ⟨wanted_plain rfl _, fun hK => ?_⟩⟩
      refine wp_lit0L (k := 71) rfl rfl ?_
      exact hK _ _ ((Below.refl _ _).alloc (Nat.le_refl _) _) (⟨_, List.getElem?_set_self (by rw [hm.len]; simp [onlySlot]), _, rfl, World.ownsRow_lit (base := wq.heap.size) (e := 5) (size := 1) w' #[] 0 hm.gr.size (by decide) rfl⟩)
    · refine ⟨_, rfl, fun l t' w' K hr hm => ⟨wanted_plain rfl _, fun hK => ?_⟩⟩
      obtain ⟨v1, hv1, g, rfl, own⟩ := (hm.made 5 (by decide) (ready_dep hr rfl 5 (by kernel_rfl))).2
      obtain ⟨u1, hu1, _, ou⟩ := (hm.made 4 (by decide) (ready_dep hr rfl 4 (by kernel_rfl))).2
      refine wp_app0B (.tmp 71) (.tmp 73) rfl wq.heap.size g (eval_slot hv1) own z n cz (outB 1 n) (eval_slot ((hm.old 73 (fun i hi _ => h73 i hi)).trans rfl)) (sz.sat.below (below_drew hm.gr)) (by omega) hm.gr.size (fun k c' w'' ow hb hk => ?_)
      rw [put_slot (k := 74) rfl]
      refine hK _ _ hb ⟨u1, _, (List.getElem?_set_ne (by decide)).trans hu1, List.getElem?_set_self (by rw [hm.len]; simp [onlySlot]), fun e => (by cases e), ow, fun q hq hu => ?_⟩
      obtain ⟨cur, hh⟩ := own_type ou hu
      obtain ⟨hl, _⟩ := Array.getElem?_eq_some_iff.1 hh
      have h1 := hk (by omega)
      simp [Value.ownBlock] at hq
      omega
    · refine ⟨_, rfl, fun l t' w' K hr hm => ⟨wanted_plain rfl _, fun hK => ?_⟩⟩
      refine wp_allocL (k := 16) rfl rfl (alloc_pair w') ?_
      exact hK _ _ ((Below.refl _ _).alloc (Nat.le_refl _) _) (⟨_, List.getElem?_set_self (by rw [hm.len]; simp [onlySlot]), _, rfl, hm.gr.size, Box.new _ _ _⟩)
    · refine ⟨_, rfl, fun l t' w' K hr hm => ⟨wanted_plain rfl _, fun hK => ?_⟩⟩
      refine wp_allocL (k := 17) rfl rfl (alloc_nonce w') ?_
      exact hK _ _ ((Below.refl _ _).alloc (Nat.le_refl _) _) (⟨_, List.getElem?_set_self (by rw [hm.len]; simp [onlySlot]), _, rfl, hm.gr.size, NBox.new _ (0#32, 0#32, 0#64)⟩)
    · refine ⟨_, rfl, fun l t' w' K hr hm => ⟨wanted_plain rfl _, fun hK => ?_⟩⟩
      refine wp_allocL (k := 19) rfl rfl (alloc_sealed w') ?_
      exact hK _ _ ((Below.refl _ _).alloc (Nat.le_refl _) _) (⟨_, List.getElem?_set_self (by rw [hm.len]; simp [onlySlot]), _, rfl, hm.gr.size, SBox.new _ _ _ _⟩)
    · refine ⟨_, rfl, fun l t' w' K hr hm => ⟨wanted_plain rfl _, fun hK => ?_⟩⟩
      obtain ⟨u, v, _, hv, hvn, own, _⟩ := (hm.made 8 (by decide) (ready_dep hr rfl 8 (by kernel_rfl))).2
      obtain ⟨g, cap, rfl, _⟩ := own_bytes (outB_length _ _) own hvn
      refine wp_valueL (k := 77) rfl (run_buildS rfl hv ((hm.old 76 (fun i hi _ => h76 i hi)).trans rfl) w') ?_
      exact hK _ _ (Below.refl _ _) ⟨_, _, (List.getElem?_set_ne (by decide)).trans hv, List.getElem?_set_self (by rw [hm.len]; simp [onlySlot]), rfl⟩
  · intro vs w' hg hA
    obtain ⟨u, v, _, hv, hvn, own, _⟩ := hA 8 (by decide)
    obtain ⟨g, cap, rfl, _⟩ := own_bytes (outB_length _ _) own hvn
    exact ⟨_, fun w'' _ => run_buildS rfl hv rfl w'', _, _, (List.getElem?_set_ne (by decide)).trans hv, List.getElem?_set_self (by simp [onlySlot]), rfl⟩
  intro vs w5 hg hA
  obtain ⟨vh, eh, hhn, oh⟩ := hA 4 (by decide)
  obtain ⟨uh, vt, eu, et, htn, ot, hdis⟩ := hA 8 (by decide)
  obtain ⟨v12, e12, bk, rfl, hbk, bK⟩ := hA 12 (by decide)
  obtain ⟨v13, e13, bn, rfl, hbn, bN⟩ := hA 13 (by decide)
  obtain ⟨v14, e14, bt, rfl, hbt, bT⟩ := hA 14 (by decide)
  obtain ⟨v8, v11, e8, e11, rfl⟩ := hA 11 (by decide)
  obtain rfl : v8 = vt := Option.some.inj (e8.symm.trans et)
  obtain rfl : uh = vh := Option.some.inj (eu.symm.trans eh)
  have e4' : vs 4 = uh := Option.some.inj eu
  have e8' : vs 8 = v8 := Option.some.inj et
  have e11' : vs 11 = .agg #[v8, .int .u64 18446744073709551615, .int .u64 1] := Option.some.inj e11
  have e12' : vs 12 = .pointer (some ⟨bk, 0, none⟩) := Option.some.inj e12
  have e13' : vs 13 = .pointer (some ⟨bn, 0, none⟩) := Option.some.inj e13
  have e14' : vs 14 = .pointer (some ⟨bt, 0, none⟩) := Option.some.inj e14
  clear eh eu et e12 e13 e14 e8 e11 hA
  simp only [List.cons_append, List.nil_append, List.foldl_cons, List.foldl_nil, onlySlot, List.set_cons_succ, List.set_cons_zero, e4', e8', e11', e12', e13', e14']
  clear e4' e8' e11' e12' e13' e14'
  have hlt2 := hO.lt hI
  have hg' := below_drew hg
  replace hI := hO.below hI hg'
  replace hB := hB.trans (hg'.mono hB.size)
  have hHeld : Below wq.heap.size wq w5 := hg'
  have hzq := hg'.size
  clear hg hg' sz bS b4 b5
  obtain ⟨gt, ct, rfl, hgt, hgtl, hgtc, hgtm, hatt⟩ := own_bytes (outB_length _ _) ot htn
  obtain ⟨gh, ch, rfl, hgh, hghl, hghc, hghm, hath⟩ := own_bytes hxl oh hhn
  have hne : gh ≠ gt := fun e => hdis gt rfl (by rw [e]; rfl)
  obtain ⟨curt, hgtb⟩ := own_type ot (k := gt) rfl
  obtain ⟨curh, hghb⟩ := own_type oh (k := gh) rfl
  have nkn : bk ≠ bn := fun e => by subst e; unfold Box at bK; unfold NBox at bN; rw [bK] at bN; simp at bN
  have nkt : bk ≠ bt := fun e => by subst e; unfold Box at bK; unfold SBox at bT; rw [bK] at bT; simp at bT
  have nnt : bn ≠ bt := fun e => by subst e; unfold NBox at bN; unfold SBox at bT; rw [bN] at bT; simp at bT
  have tk : gt ≠ bk := fun e => by subst e; unfold Box at bK; rw [bK] at hgtb; simp at hgtb
  have tn : gt ≠ bn := fun e => by subst e; unfold NBox at bN; rw [bN] at hgtb; simp at hgtb
  have tt : gt ≠ bt := fun e => by subst e; unfold SBox at bT; rw [bT] at hgtb; simp at hgtb
  have hk' : gh ≠ bk := fun e => by subst e; unfold Box at bK; rw [bK] at hghb; simp at hghb
  have hn' : gh ≠ bn := fun e => by subst e; unfold NBox at bN; rw [bN] at hghb; simp at hghb
  have ht' : gh ≠ bt := fun e => by subst e; unfold SBox at bT; rw [bT] at hghb; simp at hghb
  clear hgtb hghb curt curh hdis htn hhn hatt hath
  have hBq : w.heap.size ≤ wq.heap.size := hBq0
  have q0 := bK.c0
  have q1 := bK.c1
  have f0 := bK.frozen 0
  have f1 := bK.frozen 1
  refine onlyL 15 rfl (by kernel_rfl) (by rfl) (fun K hK => ?_)
  go_wp2_with fail
  clear q0 f0 q1 f1
  have hot : Off (fun k => k = bk) w5 ((w5.setCell ⟨bk, 0, none⟩ (.int .u64 (nv key.1))).setCell ⟨bk, 1, none⟩ (.int .u64 (nv key.2))) := (((Off.refl (fun k => k = bk) w5).setCell (p := ⟨bk, 0, none⟩) (Or.inl rfl) (.int .u64 (nv key.1))).setCell (p := ⟨bk, 1, none⟩) (Or.inl rfl) (.int .u64 (nv key.2)))
  replace bK := bK.put2 (nv key.1) (nv key.2)
  replace hHeld : Below wq.heap.size wq ((w5.setCell ⟨bk, 0, none⟩ (.int .u64 (nv key.1))).setCell ⟨bk, 1, none⟩ (.int .u64 (nv key.2))) := hHeld.trans (hot.below (fun k h => by omega) hHeld.size)
  refine hK.out _ _ hHeld (fun _ => ?_)
  clear hK K
  replace hI := hO.keep hI hot (fun k h e => by have := hlt2 k h; omega)
  replace hB := hB.trans (hot.below (fun k h => by have := hBq; omega) hB.size)
  replace ot := own_off ot hot (fun k hk e => by simp [Value.ownBlock] at hk; omega)
  replace oh := own_off oh hot (fun k hk e => by simp [Value.ownBlock] at hk; omega)
  replace bN : NBox _ bn (0#32, 0#32, 0#64) := off_block bN hot (fun e => by omega)
  replace bT : SBox _ bt (.slice none 0 0) 0 0 := off_block bT hot (fun e => by omega)
  clear hot
  generalize ((w5.setCell ⟨bk, 0, none⟩ (.int .u64 (nv key.1))).setCell ⟨bk, 1, none⟩ (.int .u64 (nv key.2))) = w6 at *
  have q0 := bN.c0
  have q1 := bN.c1
  have q2 := bN.c2
  have f0 := bN.frozen 0
  have f1 := bN.frozen 1
  have f2 := bN.frozen 2
  refine onlyL 16 rfl (by kernel_rfl) (by rfl) (fun K hK => ?_)
  go_wp2_with fail
  clear q0 f0 q1 f1 q2 f2
  have hot : Off (fun k => k = bn) w6 (((w6.setCell ⟨bn, 0, none⟩ (.int .u32 (nv32 nn.1))).setCell ⟨bn, 1, none⟩ (.int .u32 (nv32 nn.2.1))).setCell ⟨bn, 2, none⟩ (.int .u64 (nv nn.2.2))) := ((((Off.refl (fun k => k = bn) w6).setCell (p := ⟨bn, 0, none⟩) (Or.inl rfl) (.int .u32 (nv32 nn.1))).setCell (p := ⟨bn, 1, none⟩) (Or.inl rfl) (.int .u32 (nv32 nn.2.1))).setCell (p := ⟨bn, 2, none⟩) (Or.inl rfl) (.int .u64 (nv nn.2.2)))
  replace bN := bN.put3 nn
  replace hHeld : Below wq.heap.size wq (((w6.setCell ⟨bn, 0, none⟩ (.int .u32 (nv32 nn.1))).setCell ⟨bn, 1, none⟩ (.int .u32 (nv32 nn.2.1))).setCell ⟨bn, 2, none⟩ (.int .u64 (nv nn.2.2))) := hHeld.trans (hot.below (fun k h => by omega) hHeld.size)
  refine hK.out _ _ hHeld (fun _ => ?_)
  clear hK K
  replace hI := hO.keep hI hot (fun k h e => by have := hlt2 k h; omega)
  replace hB := hB.trans (hot.below (fun k h => by have := hBq; omega) hB.size)
  replace ot := own_off ot hot (fun k hk e => by simp [Value.ownBlock] at hk; omega)
  replace oh := own_off oh hot (fun k hk e => by simp [Value.ownBlock] at hk; omega)
  replace bK : Box _ bk (nv key.1) (nv key.2) := off_block bK hot (fun e => by omega)
  replace bT : SBox _ bt (.slice none 0 0) 0 0 := off_block bT hot (fun e => by omega)
  clear hot
  generalize (((w6.setCell ⟨bn, 0, none⟩ (.int .u32 (nv32 nn.1))).setCell ⟨bn, 1, none⟩ (.int .u32 (nv32 nn.2.1))).setCell ⟨bn, 2, none⟩ (.int .u64 (nv nn.2.2))) = w7 at *
  refine takeA 17 18 70 rfl rfl rfl (by kernel_rfl) (by kernel_rfl) (by kernel_rfl) (fun _ _ _ h => h) (by rfl) hHeld rfl ?_
  simp only [List.set_cons_succ, List.set_cons_zero]
  have q0 := bT.c0
  have q1 := bT.c1
  have q2 := bT.c2
  have f0 := bT.frozen 0
  have f1 := bT.frozen 1
  have f2 := bT.frozen 2
  refine onlyL 18 rfl (by kernel_rfl) (by rfl) (fun K hK => ?_)
  go_wp2_with fail
  clear q0 f0 q1 f1 q2 f2
  have hot : Off (fun k => k = bt) w7 (((w7.setCell ⟨bt, 0, none⟩ (.slice (some ⟨gt, 0, none⟩) n ct)).setCell ⟨bt, 1, none⟩ (.int .u64 18446744073709551615)).setCell ⟨bt, 2, none⟩ (.int .u64 1)) := ((((Off.refl (fun k => k = bt) w7).setCell (p := ⟨bt, 0, none⟩) (Or.inl rfl) (.slice (some ⟨gt, 0, none⟩) n ct)).setCell (p := ⟨bt, 1, none⟩) (Or.inl rfl) (.int .u64 18446744073709551615)).setCell (p := ⟨bt, 2, none⟩) (Or.inl rfl) (.int .u64 1))
  replace bT := bT.put3 (.slice (some ⟨gt, 0, none⟩) n ct) 18446744073709551615 1
  replace hHeld : Below wq.heap.size wq (((w7.setCell ⟨bt, 0, none⟩ (.slice (some ⟨gt, 0, none⟩) n ct)).setCell ⟨bt, 1, none⟩ (.int .u64 18446744073709551615)).setCell ⟨bt, 2, none⟩ (.int .u64 1)) := hHeld.trans (hot.below (fun k h => by omega) hHeld.size)
  refine hK.out _ _ hHeld (fun _ => ?_)
  clear hK K
  replace hI := hO.keep hI hot (fun k h e => by have := hlt2 k h; omega)
  replace hB := hB.trans (hot.below (fun k h => by have := hBq; omega) hB.size)
  replace ot := own_off ot hot (fun k hk e => by simp [Value.ownBlock] at hk; omega)
  replace oh := own_off oh hot (fun k hk e => by simp [Value.ownBlock] at hk; omega)
  replace bK : Box _ bk (nv key.1) (nv key.2) := off_block bK hot (fun e => by omega)
  replace bN : NBox _ bn nn := off_block bN hot (fun e => by omega)
  clear hot
  generalize (((w7.setCell ⟨bt, 0, none⟩ (.slice (some ⟨gt, 0, none⟩) n ct)).setCell ⟨bt, 1, none⟩ (.int .u64 18446744073709551615)).setCell ⟨bt, 2, none⟩ (.int .u64 1)) = w8 at *
  refine wpAnyH_done (by kernel_rfl) ?_ _
  clear hHeld h69 h73 h76 hzq
  have hFq : ∀ k, wq.heap.size ≤ k → ¬ F2 k := fun k hk h => by have := hlt2 k h; omega
  have hFw : ∀ k, F2 k → w.heap.size ≤ k := fun k hk => by have := hF2 k hk; omega
  obtain ⟨W, hW⟩ : ∃ W : Nat, way = (W : Int) := ⟨way.toNat, by omega⟩
  subst hW
  have hW7 : W < 7 := by omega
  clear hw0 hw6 hway hF2 hlt2
  match W, hW7 with
  | 0, _ =>
    -- way 0
    obtain ⟨gh2, ch2, eh2, _, hghl9, _, _, hath9⟩ := own_bytes hxl oh (fun e => by cases e)
    simp at eh2
    obtain ⟨rfl, rfl⟩ := eh2
    obtain ⟨gt2, ct2, et2, _, hgtl9, _, _, hatt9⟩ := own_bytes (outB_length _ _) ot (fun e => by cases e)
    simp at et2
    obtain ⟨rfl, rfl⟩ := et2
    have shq : SIn (fun k => ¬ F2 k) _ (some ⟨gh, 0, none⟩) nx hs := ⟨hxl, fun _ => ⟨gh, 0, rfl, hghl9, hFq gh hgh, hath9⟩⟩
    have bhq := bh
    have fhq : Fit (some ⟨gh, 0, none⟩) nx ch := ⟨hghc, hghm, fun e => by cases e⟩
    have sbq : SIn (fun k => ¬ F2 k) _ (some ⟨gt, 0, none⟩) n (outB 1 n) := ⟨outB_length _ _, fun _ => ⟨gt, 0, rfl, hgtl9, hFq gt hgt, hatt9⟩⟩
    have bbq := outB_bytes 1 n
    have fbq : Fit (some ⟨gt, 0, none⟩) n ct := ⟨hgtc, hgtm, fun e => by cases e⟩
    have k0 := bK.c0
    have k1 := bK.c1
    have k2 := bN.c0
    have k3 := bN.c1
    have k4 := bN.c2
    have k5 := bT.c0
    have k6 := bT.c1
    have k7 := bT.c2
    go_wp2_with fail
    clear k0 k1 k2 k3 k4 k5 k6 k7
    refine (oopen_yes hO F2 _ ([⟨key, nn, hs, ds⟩], []) ⟨key, nn, hs, outB 1 n, tagI 1⟩ 0 rfl rfl rfl rfl rfl rfl rfl rfl rfl (ds := ds) rfl hyl _ _ _ _ _ _ (by simp) bhq bbq fhq fbq (hit_of rfl rfl rfl (by rw [hyl]) rfl) _ hI shq sbq).mono ?_
    rintro e w20 ⟨zo, co, F4, rfl, hK, so⟩
    replace hB := hB.trans (hK.off.below hFw hB.size)
    replace so := so.sat
    clear hK
    have e0_ := fun c => so.conv (c := c)
    have e1_ := fun c => (sy.below hB).conv (c := c)
    go_wp2_with fail
    clear e0_ e1_
    refine (oknown hO _).mono ?_
    rintro e w21 ⟨rfl, hb⟩
    replace hB := hB.trans (hb.mono hB.size)
    go_wp2
    go_ret
    exact ⟨rfl, hB⟩
  | 1, _ =>
    have HX := xor_byte key.1 vb
    have q0 := bK.c0
    have f0 := bK.frozen 0
    have hot : Off (fun k => k = bk) w8 (w8.setCell ⟨bk, 0, none⟩ (.int .u64 (nv (key.1 ^^^ vb.setWidth 64)))) := Off.one _ _ _ _
    replace bK := bK.put0 (nv (key.1 ^^^ vb.setWidth 64))
    replace bN : NBox _ bn nn := off_block bN hot (fun e => by omega)
    replace bT : SBox _ bt (.slice (some ⟨gt, 0, none⟩) n ct) 18446744073709551615 1 := off_block bT hot (fun e => by omega)
    have k0 := bK.c0
    have k1 := bK.c1
    have k2 := bN.c0
    have k3 := bN.c1
    have k4 := bN.c2
    have k5 := bT.c0
    have k6 := bT.c1
    have k7 := bT.c2
    go_wp2_with fail
    clear k0 k1 k2 k3 k4 k5 k6 k7 q0 f0 HX
    replace hI := hO.keep hI hot (fun k h e => by subst e; exact hFq _ (by omega) h)
    replace hB := hB.trans (hot.below (fun k h => by omega) hB.size)
    replace oh := own_off oh hot (fun k hk e => by simp [Value.ownBlock] at hk; omega)
    replace ot := own_off ot hot (fun k hk e => by simp [Value.ownBlock] at hk; omega)
    clear hot
    generalize w8.setCell ⟨bk, 0, none⟩ (.int .u64 (nv (key.1 ^^^ vb.setWidth 64))) = w9 at *
    obtain ⟨gh2, ch2, eh2, _, hghl9, _, _, hath9⟩ := own_bytes hxl oh (fun e => by cases e)
    simp at eh2
    obtain ⟨rfl, rfl⟩ := eh2
    obtain ⟨gt2, ct2, et2, _, hgtl9, _, _, hatt9⟩ := own_bytes (outB_length _ _) ot (fun e => by cases e)
    simp at et2
    obtain ⟨rfl, rfl⟩ := et2
    have shq : SIn (fun k => ¬ F2 k) _ (some ⟨gh, 0, none⟩) nx hs := ⟨hxl, fun _ => ⟨gh, 0, rfl, hghl9, hFq gh hgh, hath9⟩⟩
    have bhq := bh
    have fhq : Fit (some ⟨gh, 0, none⟩) nx ch := ⟨hghc, hghm, fun e => by cases e⟩
    have sbq : SIn (fun k => ¬ F2 k) _ (some ⟨gt, 0, none⟩) n (outB 1 n) := ⟨outB_length _ _, fun _ => ⟨gt, 0, rfl, hgtl9, hFq gt hgt, hatt9⟩⟩
    have bbq := outB_bytes 1 n
    have fbq : Fit (some ⟨gt, 0, none⟩) n ct := ⟨hgtc, hgtm, fun e => by cases e⟩
    by_cases hv0 : vb = 0#8
    · have hv : nv8 vb = 0 := by rw [hv0]; rfl
      have hvd : decide (nv8 vb = 0) = true := decide_eq_true hv
      refine (oopen_yes hO F2 _ ([⟨key, nn, hs, ds⟩], []) ⟨(key.1 ^^^ vb.setWidth 64, key.2), nn, hs, outB 1 n, tagI 1⟩ 0 rfl rfl rfl rfl rfl rfl rfl rfl rfl (ds := ds) rfl hyl _ _ _ _ _ _ (by simp) bhq bbq fhq fbq (hit_of (by rw [hv0]; simp) rfl rfl (by rw [hyl]) rfl) _ hI shq sbq).mono ?_
      rintro e w20 ⟨zo, co, F4, rfl, hK, so⟩
      replace hB := hB.trans (hK.off.below hFw hB.size)
      replace so := so.sat
      clear hK
      have e0_ := fun c => so.conv (c := c)
      have e1_ := fun c => (sy.below hB).conv (c := c)
      go_wp2_with fail
      clear e0_ e1_
      refine (oknown hO _).mono ?_
      rintro e w21 ⟨rfl, hb⟩
      replace hB := hB.trans (hb.mono hB.size)
      go_wp2
      go_ret
      exact ⟨rfl, hB⟩
    · have hv : ¬ nv8 vb = 0 := fun e => hv0 (nv8_inj e)
      have hvd : decide (nv8 vb = 0) = false := decide_eq_false hv
      refine (oopen_no hO F2 _ ([⟨key, nn, hs, ds⟩], []) ⟨(key.1 ^^^ vb.setWidth 64, key.2), nn, hs, outB 1 n, tagI 1⟩ rfl rfl rfl rfl rfl rfl rfl rfl rfl _ _ _ _ _ _ (by simp) bhq bbq fhq fbq (fun i hi => turn_1 key vb hv0 (hit_one hi).1) _ hI shq sbq).mono ?_
      rintro e w20 ⟨zo, co, F4, rfl, hK⟩
      replace hB := hB.trans (hK.off.below hFw hB.size)
      clear hK
      go_wp2_with fail
      refine (oknown hO _).mono ?_
      rintro e w21 ⟨rfl, hb⟩
      replace hB := hB.trans (hb.mono hB.size)
      go_wp2
      go_ret
      exact ⟨rfl, hB⟩
  | 2, _ =>
    have HX := xor_byte nn.2.2 vb
    have q0 := bN.c2
    have f0 := bN.frozen 2
    have hot : Off (fun k => k = bn) w8 (w8.setCell ⟨bn, 2, none⟩ (.int .u64 (nv (nn.2.2 ^^^ vb.setWidth 64)))) := Off.one _ _ _ _
    replace bK : Box _ bk (nv key.1) (nv key.2) := off_block bK hot (fun e => by omega)
    replace bN := bN.put2 (nn.2.2 ^^^ vb.setWidth 64)
    replace bT : SBox _ bt (.slice (some ⟨gt, 0, none⟩) n ct) 18446744073709551615 1 := off_block bT hot (fun e => by omega)
    have k0 := bK.c0
    have k1 := bK.c1
    have k2 := bN.c0
    have k3 := bN.c1
    have k4 := bN.c2
    have k5 := bT.c0
    have k6 := bT.c1
    have k7 := bT.c2
    go_wp2_with fail
    clear k0 k1 k2 k3 k4 k5 k6 k7 q0 f0 HX
    replace hI := hO.keep hI hot (fun k h e => by subst e; exact hFq _ (by omega) h)
    replace hB := hB.trans (hot.below (fun k h => by omega) hB.size)
    replace oh := own_off oh hot (fun k hk e => by simp [Value.ownBlock] at hk; omega)
    replace ot := own_off ot hot (fun k hk e => by simp [Value.ownBlock] at hk; omega)
    clear hot
    generalize w8.setCell ⟨bn, 2, none⟩ (.int .u64 (nv (nn.2.2 ^^^ vb.setWidth 64))) = w9 at *
    obtain ⟨gh2, ch2, eh2, _, hghl9, _, _, hath9⟩ := own_bytes hxl oh (fun e => by cases e)
    simp at eh2
    obtain ⟨rfl, rfl⟩ := eh2
    obtain ⟨gt2, ct2, et2, _, hgtl9, _, _, hatt9⟩ := own_bytes (outB_length _ _) ot (fun e => by cases e)
    simp at et2
    obtain ⟨rfl, rfl⟩ := et2
    have shq : SIn (fun k => ¬ F2 k) _ (some ⟨gh, 0, none⟩) nx hs := ⟨hxl, fun _ => ⟨gh, 0, rfl, hghl9, hFq gh hgh, hath9⟩⟩
    have bhq := bh
    have fhq : Fit (some ⟨gh, 0, none⟩) nx ch := ⟨hghc, hghm, fun e => by cases e⟩
    have sbq : SIn (fun k => ¬ F2 k) _ (some ⟨gt, 0, none⟩) n (outB 1 n) := ⟨outB_length _ _, fun _ => ⟨gt, 0, rfl, hgtl9, hFq gt hgt, hatt9⟩⟩
    have bbq := outB_bytes 1 n
    have fbq : Fit (some ⟨gt, 0, none⟩) n ct := ⟨hgtc, hgtm, fun e => by cases e⟩
    by_cases hv0 : vb = 0#8
    · have hv : nv8 vb = 0 := by rw [hv0]; rfl
      have hvd : decide (nv8 vb = 0) = true := decide_eq_true hv
      refine (oopen_yes hO F2 _ ([⟨key, nn, hs, ds⟩], []) ⟨key, (nn.1, nn.2.1, nn.2.2 ^^^ vb.setWidth 64), hs, outB 1 n, tagI 1⟩ 0 rfl rfl rfl rfl rfl rfl rfl rfl rfl (ds := ds) rfl hyl _ _ _ _ _ _ (by simp) bhq bbq fhq fbq (hit_of rfl (by rw [hv0]; simp) rfl (by rw [hyl]) rfl) _ hI shq sbq).mono ?_
      rintro e w20 ⟨zo, co, F4, rfl, hK, so⟩
      replace hB := hB.trans (hK.off.below hFw hB.size)
      replace so := so.sat
      clear hK
      have e0_ := fun c => so.conv (c := c)
      have e1_ := fun c => (sy.below hB).conv (c := c)
      go_wp2_with fail
      clear e0_ e1_
      refine (oknown hO _).mono ?_
      rintro e w21 ⟨rfl, hb⟩
      replace hB := hB.trans (hb.mono hB.size)
      go_wp2
      go_ret
      exact ⟨rfl, hB⟩
    · have hv : ¬ nv8 vb = 0 := fun e => hv0 (nv8_inj e)
      have hvd : decide (nv8 vb = 0) = false := decide_eq_false hv
      refine (oopen_no hO F2 _ ([⟨key, nn, hs, ds⟩], []) ⟨key, (nn.1, nn.2.1, nn.2.2 ^^^ vb.setWidth 64), hs, outB 1 n, tagI 1⟩ rfl rfl rfl rfl rfl rfl rfl rfl rfl _ _ _ _ _ _ (by simp) bhq bbq fhq fbq (fun i hi => byte_ne hv0 (congrArg (fun p : Nn => p.2.2) (hit_one hi).2.1)) _ hI shq sbq).mono ?_
      rintro e w20 ⟨zo, co, F4, rfl, hK⟩
      replace hB := hB.trans (hK.off.below hFw hB.size)
      clear hK
      go_wp2_with fail
      refine (oknown hO _).mono ?_
      rintro e w21 ⟨rfl, hb⟩
      replace hB := hB.trans (hb.mono hB.size)
      go_wp2
      go_ret
      exact ⟨rfl, hB⟩
  | 3, _ =>
    have HX := xor_byte32 nn.2.1 vb
    have q0 := bN.c1
    have f0 := bN.frozen 1
    have hot : Off (fun k => k = bn) w8 (w8.setCell ⟨bn, 1, none⟩ (.int .u32 (nv32 (nn.2.1 ^^^ vb.setWidth 32)))) := Off.one _ _ _ _
    replace bK : Box _ bk (nv key.1) (nv key.2) := off_block bK hot (fun e => by omega)
    replace bN := bN.put1 (nn.2.1 ^^^ vb.setWidth 32)
    replace bT : SBox _ bt (.slice (some ⟨gt, 0, none⟩) n ct) 18446744073709551615 1 := off_block bT hot (fun e => by omega)
    have k0 := bK.c0
    have k1 := bK.c1
    have k2 := bN.c0
    have k3 := bN.c1
    have k4 := bN.c2
    have k5 := bT.c0
    have k6 := bT.c1
    have k7 := bT.c2
    go_wp2_with fail
    clear k0 k1 k2 k3 k4 k5 k6 k7 q0 f0 HX
    replace hI := hO.keep hI hot (fun k h e => by subst e; exact hFq _ (by omega) h)
    replace hB := hB.trans (hot.below (fun k h => by omega) hB.size)
    replace oh := own_off oh hot (fun k hk e => by simp [Value.ownBlock] at hk; omega)
    replace ot := own_off ot hot (fun k hk e => by simp [Value.ownBlock] at hk; omega)
    clear hot
    generalize w8.setCell ⟨bn, 1, none⟩ (.int .u32 (nv32 (nn.2.1 ^^^ vb.setWidth 32))) = w9 at *
    obtain ⟨gh2, ch2, eh2, _, hghl9, _, _, hath9⟩ := own_bytes hxl oh (fun e => by cases e)
    simp at eh2
    obtain ⟨rfl, rfl⟩ := eh2
    obtain ⟨gt2, ct2, et2, _, hgtl9, _, _, hatt9⟩ := own_bytes (outB_length _ _) ot (fun e => by cases e)
    simp at et2
    obtain ⟨rfl, rfl⟩ := et2
    have shq : SIn (fun k => ¬ F2 k) _ (some ⟨gh, 0, none⟩) nx hs := ⟨hxl, fun _ => ⟨gh, 0, rfl, hghl9, hFq gh hgh, hath9⟩⟩
    have bhq := bh
    have fhq : Fit (some ⟨gh, 0, none⟩) nx ch := ⟨hghc, hghm, fun e => by cases e⟩
    have sbq : SIn (fun k => ¬ F2 k) _ (some ⟨gt, 0, none⟩) n (outB 1 n) := ⟨outB_length _ _, fun _ => ⟨gt, 0, rfl, hgtl9, hFq gt hgt, hatt9⟩⟩
    have bbq := outB_bytes 1 n
    have fbq : Fit (some ⟨gt, 0, none⟩) n ct := ⟨hgtc, hgtm, fun e => by cases e⟩
    by_cases hv0 : vb = 0#8
    · have hv : nv8 vb = 0 := by rw [hv0]; rfl
      have hvd : decide (nv8 vb = 0) = true := decide_eq_true hv
      refine (oopen_yes hO F2 _ ([⟨key, nn, hs, ds⟩], []) ⟨key, (nn.1, nn.2.1 ^^^ vb.setWidth 32, nn.2.2), hs, outB 1 n, tagI 1⟩ 0 rfl rfl rfl rfl rfl rfl rfl rfl rfl (ds := ds) rfl hyl _ _ _ _ _ _ (by simp) bhq bbq fhq fbq (hit_of rfl (by rw [hv0]; simp) rfl (by rw [hyl]) rfl) _ hI shq sbq).mono ?_
      rintro e w20 ⟨zo, co, F4, rfl, hK, so⟩
      replace hB := hB.trans (hK.off.below hFw hB.size)
      replace so := so.sat
      clear hK
      have e0_ := fun c => so.conv (c := c)
      have e1_ := fun c => (sy.below hB).conv (c := c)
      go_wp2_with fail
      clear e0_ e1_
      refine (oknown hO _).mono ?_
      rintro e w21 ⟨rfl, hb⟩
      replace hB := hB.trans (hb.mono hB.size)
      go_wp2
      go_ret
      exact ⟨rfl, hB⟩
    · have hv : ¬ nv8 vb = 0 := fun e => hv0 (nv8_inj e)
      have hvd : decide (nv8 vb = 0) = false := decide_eq_false hv
      refine (oopen_no hO F2 _ ([⟨key, nn, hs, ds⟩], []) ⟨key, (nn.1, nn.2.1 ^^^ vb.setWidth 32, nn.2.2), hs, outB 1 n, tagI 1⟩ rfl rfl rfl rfl rfl rfl rfl rfl rfl _ _ _ _ _ _ (by simp) bhq bbq fhq fbq (fun i hi => byte_ne32 hv0 (congrArg (fun p : Nn => p.2.1) (hit_one hi).2.1)) _ hI shq sbq).mono ?_
      rintro e w20 ⟨zo, co, F4, rfl, hK⟩
      replace hB := hB.trans (hK.off.below hFw hB.size)
      clear hK
      go_wp2_with fail
      refine (oknown hO _).mono ?_
      rintro e w21 ⟨rfl, hb⟩
      replace hB := hB.trans (hb.mono hB.size)
      go_wp2
      go_ret
      exact ⟨rfl, hB⟩
  | 4, _ =>
    have hz8 : wq.heap.size ≤ w8.heap.size := by have := bT.lt; omega
    go_wp2_with (at_builtin; refine wpList_appG rfl _ _ rfl wq.heap.size _ nx hs rfl (oh.alloc _) (some ⟨w8.heap.size, 0, none⟩) 1 1 [nv8 vb] rfl ((At.one w8 (nv8 vb)).sat (by rw [World.size_alloc]; omega) rfl) (fun e => by cases e) (by omega) (by rw [World.size_alloc]; omega) ?_)
    intro v9 w9 own9 hgr
    have hot : Off (fun k => k = gh) w8 w9 := ((Off.refl (fun k => k = gh) w8).alloc _).grown hgr (fun k hk => Or.inl (by simp [Value.ownBlock] at hk; omega))
    replace bK : Box _ bk (nv key.1) (nv key.2) := off_block bK hot (fun e => by omega)
    replace bN : NBox _ bn nn := off_block bN hot (fun e => by omega)
    replace bT : SBox _ bt (.slice (some ⟨gt, 0, none⟩) n ct) 18446744073709551615 1 := off_block bT hot (fun e => by omega)
    replace hI := hO.keep hI hot (fun k h e => by subst e; exact hFq _ (by omega) h)
    replace hB := hB.trans (hot.below (fun k h => by omega) hB.size)
    replace ot := own_off ot hot (fun k hk e => by simp [Value.ownBlock] at hk; omega)
    clear hot hgr oh
    obtain ⟨g9, c9, rfl, hg9, hg9l, hg9c, hg9m, hat9⟩ := own_bytes (show (hs ++ [nv8 vb]).length = nx + 1 by rw [List.length_append, hxl]; rfl) (by simpa using own9) (own_not_nil own9 (by omega))
    clear own9
    have k0 := bK.c0
    have k1 := bK.c1
    have k2 := bN.c0
    have k3 := bN.c1
    have k4 := bN.c2
    have k5 := bT.c0
    have k6 := bT.c1
    have k7 := bT.c2
    go_wp2_with fail
    clear k0 k1 k2 k3 k4 k5 k6 k7
    have shq : SIn (fun k => ¬ F2 k) w9 (some ⟨g9, 0, none⟩) (nx + 1) (hs ++ [nv8 vb]) := ⟨by rw [List.length_append, hxl]; rfl, fun _ => ⟨g9, 0, rfl, hg9l, hFq g9 hg9, hat9⟩⟩
    have bhq : Bytes (hs ++ [nv8 vb]) := bh.append (fun x hx => by simp at hx; subst hx; exact hvr)
    have fhq : Fit (some ⟨g9, 0, none⟩) (nx + 1) c9 := ⟨hg9c, hg9m, fun e => by cases e⟩
    obtain ⟨gt2, ct2, et2, _, hgtl9, _, _, hatt9⟩ := own_bytes (outB_length _ _) ot (fun e => by cases e)
    simp at et2
    obtain ⟨rfl, rfl⟩ := et2
    have sbq : SIn (fun k => ¬ F2 k) _ (some ⟨gt, 0, none⟩) n (outB 1 n) := ⟨outB_length _ _, fun _ => ⟨gt, 0, rfl, hgtl9, hFq gt hgt, hatt9⟩⟩
    have bbq := outB_bytes 1 n
    have fbq : Fit (some ⟨gt, 0, none⟩) n ct := ⟨hgtc, hgtm, fun e => by cases e⟩
    by_cases hv : nv8 vb = 0
    · have hvd : decide (nv8 vb = 0) = true := decide_eq_true hv
      refine (oopen_no hO F2 _ ([⟨key, nn, hs, ds⟩], []) ⟨key, nn, hs ++ [nv8 vb], outB 1 n, tagI 1⟩ rfl rfl rfl rfl rfl rfl rfl rfl rfl _ _ _ _ _ _ (by simp) bhq bbq fhq fbq (fun i hi => absurd (congrArg List.length (hit_one hi).2.2.1) (by simp)) _ hI shq sbq).mono ?_
      rintro e w20 ⟨zo, co, F4, rfl, hK⟩
      replace hB := hB.trans (hK.off.below hFw hB.size)
      clear hK
      go_wp2_with fail
      refine (oknown hO _).mono ?_
      rintro e w21 ⟨rfl, hb⟩
      replace hB := hB.trans (hb.mono hB.size)
      go_wp2
      go_ret
      exact ⟨rfl, hB⟩
    · have hvd : decide (nv8 vb = 0) = false := decide_eq_false hv
      refine (oopen_no hO F2 _ ([⟨key, nn, hs, ds⟩], []) ⟨key, nn, hs ++ [nv8 vb], outB 1 n, tagI 1⟩ rfl rfl rfl rfl rfl rfl rfl rfl rfl _ _ _ _ _ _ (by simp) bhq bbq fhq fbq (fun i hi => absurd (congrArg List.length (hit_one hi).2.2.1) (by simp)) _ hI shq sbq).mono ?_
      rintro e w20 ⟨zo, co, F4, rfl, hK⟩
      replace hB := hB.trans (hK.off.below hFw hB.size)
      clear hK
      go_wp2_with fail
      refine (oknown hO _).mono ?_
      rintro e w21 ⟨rfl, hb⟩
      replace hB := hB.trans (hb.mono hB.size)
      go_wp2
      go_ret
      exact ⟨rfl, hB⟩
  | 5, _ =>
    obtain ⟨gt2, ct2, et2, _, hgtl9, _, _, hatt9⟩ := own_bytes (outB_length _ _) ot (fun e => by cases e)
    simp at et2
    obtain ⟨rfl, rfl⟩ := et2
    have hc := hatt9 0 (by rw [outB_length]; omega)
    rw [Nat.zero_add] at hc
    obtain ⟨b0, HB0⟩ : ∃ b0, Hid ((outB 1 n).getD 0 0 = b0) := ⟨_, rfl⟩
    rw [HB0.out] at hc
    have hb0r : 0 ≤ b0 ∧ b0 < 256 := by
      rw [← HB0.out, List.getD_eq_getElem?_getD, List.getElem?_eq_getElem (by rw [outB_length]; omega)]
      exact outB_bytes 1 n _ (List.getElem_mem _)
    obtain ⟨u, HX⟩ : ∃ u, bits .xor .u8 b0 (nv8 vb) = u := ⟨_, rfl⟩
    have HU : Hid (xor8 b0 (nv8 vb) = u) := HX
    have f0 := own_frozen ot 0
    have q0 := bT.c0
    have hot : Off (fun k => k = gt) w8 (w8.setCell ⟨gt, 0, none⟩ (.int .u8 u)) := Off.one _ _ _ _
    have hat5 := hatt9.turn0 (by rw [outB_length]; omega) u
    replace bK : Box _ bk (nv key.1) (nv key.2) := off_block bK hot (fun e => by omega)
    replace bN : NBox _ bn nn := off_block bN hot (fun e => by omega)
    replace bT : SBox _ bt (.slice (some ⟨gt, 0, none⟩) n ct) 18446744073709551615 1 := off_block bT hot (fun e => by omega)
    have k0 := bK.c0
    have k1 := bK.c1
    have k2 := bN.c0
    have k3 := bN.c1
    have k4 := bN.c2
    have k5 := bT.c0
    have k6 := bT.c1
    have k7 := bT.c2
    go_wp2_with fail
    clear k0 k1 k2 k3 k4 k5 k6 k7 q0 f0 HX hc
    replace hI := hO.keep hI hot (fun k h e => by subst e; exact hFq _ (by omega) h)
    replace hB := hB.trans (hot.below (fun k h => by omega) hB.size)
    replace oh := own_off oh hot (fun k hk e => by simp [Value.ownBlock] at hk; omega)
    replace hgtl9 := Nat.lt_of_lt_of_le hgtl9 hot.size
    clear hot hatt9
    generalize w8.setCell ⟨gt, 0, none⟩ (.int .u8 u) = w9 at *
    obtain ⟨gh2, ch2, eh2, _, hghl9, _, _, hath9⟩ := own_bytes hxl oh (fun e => by cases e)
    simp at eh2
    obtain ⟨rfl, rfl⟩ := eh2
    have shq : SIn (fun k => ¬ F2 k) _ (some ⟨gh, 0, none⟩) nx hs := ⟨hxl, fun _ => ⟨gh, 0, rfl, hghl9, hFq gh hgh, hath9⟩⟩
    have bhq := bh
    have fhq : Fit (some ⟨gh, 0, none⟩) nx ch := ⟨hghc, hghm, fun e => by cases e⟩
    have sbq : SIn (fun k => ¬ F2 k) _ (some ⟨gt, 0, none⟩) n ((outB 1 n).set 0 u) := ⟨by rw [List.length_set, outB_length], fun _ => ⟨gt, 0, rfl, hgtl9, hFq gt hgt, hat5⟩⟩
    have bbq := bytes_set (outB_bytes 1 n) 0 (v := u) (by rw [← HU.out]; exact xor8_range hb0r hvr)
    have fbq : Fit (some ⟨gt, 0, none⟩) n ct := ⟨hgtc, hgtm, fun e => by cases e⟩
    by_cases hv0 : vb = 0#8
    · have hv : nv8 vb = 0 := by rw [hv0]; rfl
      have hvd : decide (nv8 vb = 0) = true := decide_eq_true hv
      refine (oopen_yes hO F2 _ ([⟨key, nn, hs, ds⟩], []) ⟨key, nn, hs, (outB 1 n).set 0 u, tagI 1⟩ 0 rfl rfl rfl rfl rfl rfl rfl rfl rfl (ds := ds) rfl hyl _ _ _ _ _ _ (by simp) bhq bbq fhq fbq (hit_of rfl rfl rfl (by rw [hyl, ← HU.out, hv, xor8_zero hb0r, ← HB0.out]; exact set_self _) rfl) _ hI shq sbq).mono ?_
      rintro e w20 ⟨zo, co, F4, rfl, hK, so⟩
      replace hB := hB.trans (hK.off.below hFw hB.size)
      replace so := so.sat
      clear hK
      have e0_ := fun c => so.conv (c := c)
      have e1_ := fun c => (sy.below hB).conv (c := c)
      go_wp2_with fail
      clear e0_ e1_
      refine (oknown hO _).mono ?_
      rintro e w21 ⟨rfl, hb⟩
      replace hB := hB.trans (hb.mono hB.size)
      go_wp2
      go_ret
      exact ⟨rfl, hB⟩
    · have hv : ¬ nv8 vb = 0 := fun e => hv0 (nv8_inj e)
      have hvd : decide (nv8 vb = 0) = false := decide_eq_false hv
      refine (oopen_no hO F2 _ ([⟨key, nn, hs, ds⟩], []) ⟨key, nn, hs, (outB 1 n).set 0 u, tagI 1⟩ rfl rfl rfl rfl rfl rfl rfl rfl rfl _ _ _ _ _ _ (by simp) bhq bbq fhq fbq (fun i hi => xor8_ne hb0r hvr hv (by rw [HU.out, ← HB0.out]; exact set_back (by rw [outB_length]; omega) (by have := (hit_one hi).2.2.2.1; rw [hyl] at this; exact this))) _ hI shq sbq).mono ?_
      rintro e w20 ⟨zo, co, F4, rfl, hK⟩
      replace hB := hB.trans (hK.off.below hFw hB.size)
      clear hK
      go_wp2_with fail
      refine (oknown hO _).mono ?_
      rintro e w21 ⟨rfl, hb⟩
      replace hB := hB.trans (hb.mono hB.size)
      go_wp2
      go_ret
      exact ⟨rfl, hB⟩
  | 6, _ =>
    have HX : bits .xor .u64 1 (nv8 vb) = nv (1#64 ^^^ vb.setWidth 64) := xor_byte 1#64 vb
    have q0 := bT.c2
    have f0 := bT.frozen 2
    have hot : Off (fun k => k = bt) w8 (w8.setCell ⟨bt, 2, none⟩ (.int .u64 (nv (1#64 ^^^ vb.setWidth 64)))) := Off.one _ _ _ _
    replace bK : Box _ bk (nv key.1) (nv key.2) := off_block bK hot (fun e => by omega)
    replace bN : NBox _ bn nn := off_block bN hot (fun e => by omega)
    replace bT := bT.put2 (nv (1#64 ^^^ vb.setWidth 64))
    have k0 := bK.c0
    have k1 := bK.c1
    have k2 := bN.c0
    have k3 := bN.c1
    have k4 := bN.c2
    have k5 := bT.c0
    have k6 := bT.c1
    have k7 := bT.c2
    go_wp2_with fail
    clear k0 k1 k2 k3 k4 k5 k6 k7 q0 f0 HX
    replace hI := hO.keep hI hot (fun k h e => by subst e; exact hFq _ (by omega) h)
    replace hB := hB.trans (hot.below (fun k h => by omega) hB.size)
    replace oh := own_off oh hot (fun k hk e => by simp [Value.ownBlock] at hk; omega)
    replace ot := own_off ot hot (fun k hk e => by simp [Value.ownBlock] at hk; omega)
    clear hot
    generalize w8.setCell ⟨bt, 2, none⟩ (.int .u64 (nv (1#64 ^^^ vb.setWidth 64))) = w9 at *
    obtain ⟨gh2, ch2, eh2, _, hghl9, _, _, hath9⟩ := own_bytes hxl oh (fun e => by cases e)
    simp at eh2
    obtain ⟨rfl, rfl⟩ := eh2
    obtain ⟨gt2, ct2, et2, _, hgtl9, _, _, hatt9⟩ := own_bytes (outB_length _ _) ot (fun e => by cases e)
    simp at et2
    obtain ⟨rfl, rfl⟩ := et2
    have shq : SIn (fun k => ¬ F2 k) _ (some ⟨gh, 0, none⟩) nx hs := ⟨hxl, fun _ => ⟨gh, 0, rfl, hghl9, hFq gh hgh, hath9⟩⟩
    have bhq := bh
    have fhq : Fit (some ⟨gh, 0, none⟩) nx ch := ⟨hghc, hghm, fun e => by cases e⟩
    have sbq : SIn (fun k => ¬ F2 k) _ (some ⟨gt, 0, none⟩) n (outB 1 n) := ⟨outB_length _ _, fun _ => ⟨gt, 0, rfl, hgtl9, hFq gt hgt, hatt9⟩⟩
    have bbq := outB_bytes 1 n
    have fbq : Fit (some ⟨gt, 0, none⟩) n ct := ⟨hgtc, hgtm, fun e => by cases e⟩
    by_cases hv0 : vb = 0#8
    · have hv : nv8 vb = 0 := by rw [hv0]; rfl
      have hvd : decide (nv8 vb = 0) = true := decide_eq_true hv
      refine (oopen_yes hO F2 _ ([⟨key, nn, hs, ds⟩], []) ⟨key, nn, hs, outB 1 n, (18446744073709551615#64, 1#64 ^^^ vb.setWidth 64)⟩ 0 rfl rfl rfl rfl rfl rfl rfl rfl rfl (ds := ds) rfl hyl _ _ _ _ _ _ (by simp) bhq bbq fhq fbq (hit_of rfl rfl rfl (by rw [hyl]) (by rw [hv0]; rfl)) _ hI shq sbq).mono ?_
      rintro e w20 ⟨zo, co, F4, rfl, hK, so⟩
      replace hB := hB.trans (hK.off.below hFw hB.size)
      replace so := so.sat
      clear hK
      have e0_ := fun c => so.conv (c := c)
      have e1_ := fun c => (sy.below hB).conv (c := c)
      go_wp2_with fail
      clear e0_ e1_
      refine (oknown hO _).mono ?_
      rintro e w21 ⟨rfl, hb⟩
      replace hB := hB.trans (hb.mono hB.size)
      go_wp2
      go_ret
      exact ⟨rfl, hB⟩
    · have hv : ¬ nv8 vb = 0 := fun e => hv0 (nv8_inj e)
      have hvd : decide (nv8 vb = 0) = false := decide_eq_false hv
      refine (oopen_no hO F2 _ ([⟨key, nn, hs, ds⟩], []) ⟨key, nn, hs, outB 1 n, (18446744073709551615#64, 1#64 ^^^ vb.setWidth 64)⟩ rfl rfl rfl rfl rfl rfl rfl rfl rfl _ _ _ _ _ _ (by simp) bhq bbq fhq fbq (fun i hi => byte_ne hv0 (congrArg Prod.snd (hit_one hi).2.2.2.2)) _ hI shq sbq).mono ?_
      rintro e w20 ⟨zo, co, F4, rfl, hK⟩
      replace hB := hB.trans (hK.off.below hFw hB.size)
      clear hK
      go_wp2_with fail
      refine (oknown hO _).mono ?_
      rintro e w21 ⟨rfl, hb⟩
      replace hB := hB.trans (hb.mono hB.size)
      go_wp2
      go_ret
      exact ⟨rfl, hB⟩
  | (W + 7), h => exact absurd h (by omega)

set_option maxRecDepth 10000 in
set_option maxHeartbeats 1000000 in
theorem only_any (hO : OrcIs Inv) (key : BitVec 64 × BitVec 64) (nn : Nn) (hs ds : List Int) (x y : Option Addr) (nx n cx cy : Nat) (way : Int) (vb : BitVec 8) (bh : Bytes hs) (bd : Bytes ds) (fx : Fit x nx cx) (fy : Fit y n cy) (w : World) (sx : SAt w x nx hs) (sy : SAt w y n ds) :
    Calls Try.prog 4 #[.agg #[.int .u64 (nv key.1), .int .u64 (nv key.2)], .agg #[.int .u32 (nv32 nn.1), .int .u32 (nv32 nn.2.1), .int .u64 (nv nn.2.2)], .slice x nx cx, .slice y n cy, .int .i64 way, .int .u8 (nv8 vb)] w fun e w' => e = .returned (.bool true) ∧ Below w.heap.size w w' := by
  by_cases h1 : 100 < nx
  · go_enter Try.func4, Try.ntmps4
    go_wp2
    go_ret
    exact ⟨rfl, by go_grown⟩
  · by_cases h2 : n < 1
    · go_enter Try.func4, Try.ntmps4
      go_wp2
      go_ret
      exact ⟨rfl, by go_grown⟩
    · by_cases h3 : 100 < n
      · go_enter Try.func4, Try.ntmps4
        go_wp2
        go_ret
        exact ⟨rfl, by go_grown⟩
      · by_cases h4 : way < 0
        · go_enter Try.func4, Try.ntmps4
          go_wp2
          go_ret
          exact ⟨rfl, by go_grown⟩
        · by_cases h5 : 6 < way
          · go_enter Try.func4, Try.ntmps4
            go_wp2
            go_ret
            exact ⟨rfl, by go_grown⟩
          · exact only_in hO key nn hs ds x y nx n cx cy way vb (by omega) (by omega) (by omega) ⟨by omega, by omega⟩ bh bd fx fy w sx sy
end Go.Proofs.Ytfgigbecmhmidaa
