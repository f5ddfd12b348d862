/- Stage 5's walks. -/
import Derived.Test.YtafjhidkhboaiaaGcmFlw
import Derived.Laws.OwnMore
namespace Go.Proofs.Ytafjhidkhboaiaa
open Go.RowKit

/-- A byte as the walks have it. -/
def nv8 (x : BitVec 8) : Int := (x.toNat : Int)
theorem nv8_range (x : BitVec 8) : 0 ≤ nv8 x ∧ nv8 x < 256 := by
  have := x.isLt
  unfold nv8
  omega
theorem nv8_inj {x y : BitVec 8} (h : nv8 x = nv8 y) : x = y := BitVec.eq_of_toNat_eq (by unfold nv8 at h; omega)
theorem i64_mask (n : Int) (k : Nat) (hk : k < 63) (M : Int) (hM : (BitVec.ofInt 64 M).toNat = 2 ^ k - 1) : bits .and .i64 n M = (((n % ((2 ^ 64 : Nat) : Int)).toNat % 2 ^ k : Nat) : Int) := by
  have key : (BitVec.ofInt 64 n &&& BitVec.ofInt 64 M).toNat = (n % ((2 ^ 64 : Nat) : Int)).toNat % 2 ^ k := by
    rw [BitVec.toNat_and, BitVec.toNat_ofInt, hM, Nat.and_two_pow_sub_one_eq_mod]
  show IntKind.i64.wrap ((BitVec.ofInt 64 n &&& BitVec.ofInt 64 M).toNat : Nat) = _
  rw [key, IntKind.wrap_i64]
  have h1 : (n % ((2 ^ 64 : Nat) : Int)).toNat % 2 ^ k < 2 ^ k := Nat.mod_lt _ (Nat.two_pow_pos k)
  have h2 : 2 ^ k ≤ 2 ^ 62 := Nat.pow_le_pow_right (by decide) (by omega)
  omega
theorem open_no_at {fn : Nat} (hO : OpenNo fn) (key : BitVec 64 × BitVec 64) (n : Nn) (xs ys : List Int) (x y : Option Addr) (nx ny c d : Nat) (t : BitVec 64 × BitVec 64) {t1 t2 : Int} (ht1 : nv t.1 = t1) (ht2 : nv t.2 = t2) (hnx : nx ≤ 4000) (hny : ny ≤ 4000) (ht : tagP (subP key n) xs ys ≠ t)
    (bx : Bytes xs) (by_ : Bytes ys) (hc : nx ≤ c) (hd : ny ≤ d) (xnil : x = none → nx = 0 ∧ c = 0) (ynil : y = none → ny = 0 ∧ d = 0) (w : World) (sx : SAt w x nx xs) (sy : SAt w y ny ys) :
    Calls Try.prog fn #[.agg #[.int .u64 (nv key.1), .int .u64 (nv key.2)], .agg #[.int .u32 (nv32 n.1), .int .u32 (nv32 n.2.1), .int .u64 (nv n.2.2)], .slice x nx c, .agg #[.slice y ny d, .int .u64 t1, .int .u64 t2]] w fun e w' => (∃ z cz, e = .returned (.tuple #[.slice z 0 cz, .bool false])) ∧ Below w.heap.size w w' := by
  subst ht1 ht2
  exact hO key n xs ys x y nx ny c d t hnx hny ht bx by_ hc hd xnil ynil w sx sy
theorem bytes_set {xs : List Int} (h : Bytes xs) (i : Nat) {v : Int} (hv : 0 ≤ v ∧ v < 256) : Bytes (xs.set i v) := fun x hx => by
  rcases List.mem_or_eq_of_mem_set hx with hx | rfl
  · exact h x hx
  · exact hv
theorem xor_byte (a : BitVec 64) (b : BitVec 8) : bits .xor .u64 (nv a) (nv8 b) = nv (a ^^^ b.setWidth 64) := by
  have e : nv8 b = nv (b.setWidth 64) := by
    have := b.isLt
    unfold nv nv8
    rw [BitVec.toNat_setWidth]
    omega
  rw [← nv_xor, e]
theorem byte_ne {a : BitVec 64} {b : BitVec 8} (hb : b ≠ 0#8) : a ≠ a ^^^ b.setWidth 64 := fun e => hb (by
  have h0 : (b.setWidth 64 : BitVec 64) = 0#64 := by
    have h1 : a ^^^ (a ^^^ b.setWidth 64) = a ^^^ a := by rw [← e]
    rw [← BitVec.xor_assoc, BitVec.xor_self, BitVec.zero_xor] at h1
    exact h1
  apply BitVec.eq_of_toNat_eq
  have h2 : (b.setWidth 64 : BitVec 64).toNat = 0 := by rw [h0]; rfl
  have := b.isLt
  rw [BitVec.toNat_setWidth] at h2
  show b.toNat = 0
  omega)
theorem turn_1 (t : BitVec 64 × BitVec 64) (b : BitVec 8) (hb : b ≠ 0#8) : t ≠ (t.1 ^^^ b.setWidth 64, t.2) := fun e => byte_ne hb (congrArg Prod.fst e)
theorem turn_2 (t : BitVec 64 × BitVec 64) (b : BitVec 8) (hb : b ≠ 0#8) : t ≠ (t.1, t.2 ^^^ b.setWidth 64) := fun e => byte_ne hb (congrArg Prod.snd e)
theorem SBox.setOther {w : World} {b : Nat} {v : Value} {t1 t2 : Int} (h : SBox w b v t1 t2) {a : Addr} (ha : b ≠ a.block) (u : Value) : SBox (w.setCell a u) b v t1 t2 := (Below.heap_setCell w a u b ha).trans h
theorem open_any {fn : Nat} (hOy : OpenYes fn) (hOn : OpenNo fn) (key : BitVec 64 × BitVec 64) (n : Nn) (xs ys : List Int) (x y : Option Addr) (nx ny c d : Nat) (t : BitVec 64 × BitVec 64) (hnx : nx ≤ 4000) (hny : ny ≤ 4000) {b : Bool} (hb : decide (tagP (subP key n) xs ys = t) = b)
    (bx : Bytes xs) (by_ : Bytes ys) (hc : nx ≤ c) (hd : ny ≤ d) (xnil : x = none → nx = 0 ∧ c = 0) (ynil : y = none → ny = 0 ∧ d = 0) (w : World) (sx : SAt w x nx xs) (sy : SAt w y ny ys) :
    Calls Try.prog fn #[.agg #[.int .u64 (nv key.1), .int .u64 (nv key.2)], .agg #[.int .u32 (nv32 n.1), .int .u32 (nv32 n.2.1), .int .u64 (nv n.2.2)], .slice x nx c, .agg #[.slice y ny d, .int .u64 (nv t.1), .int .u64 (nv t.2)]] w fun e w' => (∃ z l cz, e = .returned (.tuple #[.slice z l cz, .bool b])) ∧ Below w.heap.size w w' := by
  subst hb
  by_cases h : tagP (subP key n) xs ys = t
  · rw [decide_eq_true h]
    exact (hOy key n xs ys x y nx ny c d t hnx hny h bx by_ hc hd xnil ynil w sx sy).mono fun e w' ⟨z, cz, h1, _, h2⟩ => ⟨⟨z, ny, cz, h1⟩, h2⟩
  · rw [decide_eq_false h]
    exact (hOn key n xs ys x y nx ny c d t hnx hny h bx by_ hc hd xnil ynil w sx sy).mono fun e w' ⟨⟨z, cz, h1⟩, h2⟩ => ⟨⟨z, 0, cz, h1⟩, h2⟩

set_option maxRecDepth 10000 in
set_option maxHeartbeats 2000000 in
theorem turned_0 (hSi : SealIn 9) (hOy : OpenYes 15) (hOn : OpenNo 15) (key : BitVec 64 × BitVec 64) (n : Nn) (xs ys : List Int) (x y : Option Addr) (nx ny c d : Nat) (at_ : Int) (vb : BitVec 8) (hnx : nx ≤ 100) (hny1 : 1 ≤ ny) (hny : ny ≤ 100) (hvb : vb ≠ 0#8) (h2 : bits .and .i64 at_ 1 = 0) (bx : Bytes xs) (by_ : Bytes ys) (hc : nx ≤ c) (hd : ny ≤ d) (xnil : x = none → nx = 0 ∧ c = 0) (ynil : y = none → ny = 0 ∧ d = 0) (w : World) (sx : SAt w x nx xs) (sy : SAt w y ny ys) : Calls Try.prog 6 #[.agg #[.int .u64 (nv key.1), .int .u64 (nv key.2)], .agg #[.int .u32 (nv32 n.1), .int .u32 (nv32 n.2.1), .int .u64 (nv n.2.2)], .slice x nx c, .slice y ny d, .int .i64 at_, .int .u8 (nv8 vb)] w fun e w' => e = .returned (.bool true) ∧ Below w.heap.size w w' := by
  obtain ⟨sub, HS⟩ : ∃ sub, Hid (subP key n = sub) := ⟨_, rfl⟩
  obtain ⟨ms, HM⟩ : ∃ ms, Hid (mixL sub ys = ms) := ⟨_, rfl⟩
  obtain ⟨t, HT⟩ : ∃ t, Hid (tagP sub xs ms = t) := ⟨_, rfl⟩
  have hml : ms.length = ny := by rw [← HM.out, mixL_length, sy.1]
  have hmb : Bytes ms := by rw [← HM.out]; exact mixL_bytes sub by_
  obtain ⟨m1, H1⟩ : ∃ m1 : Nat, Hid (bits .and .i64 at_ 65535 = (m1 : Int)) := ⟨_, i64_mask at_ 16 (by decide) 65535 (by decide)⟩
  have h1 := H1.out
  obtain ⟨i, HI, hi⟩ : ∃ i : Nat, Hid (i = m1 % ny) ∧ i < ny := ⟨_, rfl, Nat.mod_lt _ (by omega)⟩
  have hq : ((m1 : Int).tmod (ny : Int)) = (i : Int) := by rw [HI.out]; exact (Int.ofNat_tmod m1 ny).symm
  have hny0 : ¬ ny = 0 := by omega
  obtain ⟨u, HU⟩ : ∃ u, Hid (xor8 (ms.getD i 0) (nv8 vb) = u) := ⟨_, rfl⟩
  obtain ⟨ms2, HM2⟩ : ∃ ms2, Hid (ms.set i u = ms2) := ⟨_, rfl⟩
  have hml2 : ms2.length = ny := by rw [← HM2.out, List.length_set, hml]
  have hmb2 : Bytes ms2 := by
    rw [← HM2.out, ← HU.out]
    exact bytes_set hmb i (xor8_range (by rw [List.getD_eq_getElem?_getD, List.getElem?_eq_getElem (show i < ms.length by omega)]; exact hmb _ (List.getElem_mem _)) (nv8_range vb))
  obtain ⟨bb, HBB⟩ : ∃ bb, Hid (decide (tagP (subP key n) xs ms2 = t) = bb) := ⟨_, rfl⟩
  have hv0 : (nv8 vb == 0) = false := by
    rw [beq_eq_false_iff_ne]
    exact fun e => hvb (nv8_inj e)
  have HVR := hide' (nv8_range vb)
  have H2 := hide' h2
  clear h2
  have heq := eq32
  go_enter Try.func6, Try.ntmps6
  go_wp2_with fail
  have b0 := (Box.new w (nv key.1) (nv key.2)).alloc (.cells #[.int .u32 (nv32 n.1), .int .u32 (nv32 n.2.1), .int .u64 (nv n.2.2)] 27)
  have b1 := NBox.new (w.alloc (.cells #[.int .u64 (nv key.1), .int .u64 (nv key.2)] 24)) n
  have hB : Below w.heap.size w ((w.alloc (.cells #[.int .u64 (nv key.1), .int .u64 (nv key.2)] 24)).alloc (.cells #[.int .u32 (nv32 n.1), .int .u32 (nv32 n.2.1), .int .u64 (nv n.2.2)] 27)) := by go_grown
  simp only [World.size_alloc] at b1
  generalize (w.alloc (.cells #[.int .u64 (nv key.1), .int .u64 (nv key.2)] 24)).alloc (.cells #[.int .u32 (nv32 n.1), .int .u32 (nv32 n.2.1), .int .u64 (nv n.2.2)] 27) = W1 at *
  replace sx := sx.below hB
  replace sy := sy.below hB
  have hB0 := hB
  have sxo := sx
  have syo := sy
  have b0o := b0
  have b1o := b1
  refine (rseal_own key n xs ys x y nx ny c d (by omega) (by omega) bx by_ hc hd xnil ynil _ sx sy).mono ?_
  rintro e w1 ⟨v, rfl, own, hb⟩
  have hC := hb
  replace b0 := b0.grown hb
  replace b1 := b1.grown hb
  replace sx := sx.below hb
  replace sy := sy.below hb
  replace hB := hB.trans (hb.mono hB.size)
  clear hb
  rw [HS.out, HM.out] at own
  rw [HS.out, HM.out, HT.out]
  obtain ⟨g, cz, rfl, hg, hgl, hgc, hcm, hat⟩ := own_bytes hml own (fun e => by
    rw [e] at own
    obtain ⟨_, ⟨_, h0⟩ | ⟨_, _, _, e2, _⟩⟩ := own
    · omega
    · cases e2)
  have hAg : w1.heap.size ≠ g := Nat.ne_of_gt hgl
  clear hat
  replace hC := hC.alloc hC.size (.cells #[.slice (some ⟨g, 0, none⟩) ny cz, .int .u64 (nv t.1), .int .u64 (nv t.2)] 30)
  have hb : Below w1.heap.size w1 (w1.alloc (.cells #[.slice (some ⟨g, 0, none⟩) ny cz, .int .u64 (nv t.1), .int .u64 (nv t.2)] 30)) := (Below.refl _ _).alloc (Nat.le_refl _) _
  have bS := SBox.new w1 (.slice (some ⟨g, 0, none⟩) ny cz) (nv t.1) (nv t.2)
  replace b0 := b0.grown hb
  replace b1 := b1.grown hb
  replace sx := sx.below hb
  replace sy := sy.below hb
  replace own := own_grown own hb
  replace hB := hB.trans (hb.mono hB.size)
  clear hb
  have ey0 := b0.c0
  have ey1 := b0.c1
  have ey2 := b1.c0
  have ey3 := b1.c1
  have ey4 := b1.c2
  have ey5 := bS.c0
  have ey6 := bS.c1
  have ey7 := bS.c2
  go_wp2_with fail
  clear ey0 ey1 ey2 ey3 ey4 ey5 ey6 ey7
  generalize w1.alloc (.cells #[.slice (some ⟨g, 0, none⟩) ny cz, .int .u64 (nv t.1), .int .u64 (nv t.2)] 30) = W2 at *
  generalize w1.heap.size = A at *
  have cg : W2.drew.cell? ⟨g, i, none⟩ = some (.int .u8 (ms.getD i 0)) := by
    show W2.cell? ⟨g, i, none⟩ = _
    rw [own.cellAt i (by omega)]
    simp [hml, hi]
  have fg : W2.drew.frozen? ⟨g, i, none⟩ = false := own.frozenAt i
  have HUx : Hid (bits .xor .u8 (ms.getD i 0) (nv8 vb) = u) := HU
  refine wp_region_held_drew (S := fun w' => w'.cell? ⟨A, 0, none⟩ = some (.slice (some ⟨g, 0, none⟩) ny cz)) (by kernel_rfl) bS.c0 (fun hHeld => ?_)
  generalize ms.getD i 0 = m0 at *
  refine takeL 0 48 (v := ?_) rfl rfl (by kernel_rfl) (by kernel_rfl) (by kernel_rfl) (fun _ _ _ h => h) (by rfl) hHeld (fun w hSw => ?_) ?_
  rotate_left 1
  · (try dsimp only at hSw)
    clear hSw
    go_simp
    try with_reducible rfl
  simp only [List.set_cons_succ, List.set_cons_zero]
  refine takeM 2 50 4 rfl rfl rfl (by kernel_rfl) (by kernel_rfl) (by kernel_rfl) (fun _ _ _ h => h) (by rfl) hHeld rfl ?_
  simp only [List.set_cons_succ, List.set_cons_zero]
  refine takeL 3 51 (v := ?_) rfl rfl (by kernel_rfl) (by kernel_rfl) (by kernel_rfl) (fun _ _ _ h => h) (by rfl) hHeld (fun w hSw => ?_) ?_
  rotate_left 1
  · (try dsimp only at hSw)
    clear hSw
    go_simp
    try with_reducible rfl
  simp only [List.set_cons_succ, List.set_cons_zero]
  refine takeL 4 52 (v := ?_) rfl rfl (by kernel_rfl) (by kernel_rfl) (by kernel_rfl) (fun _ _ _ h => h) (by rfl) hHeld (fun w hSw => ?_) ?_
  rotate_left 1
  · (try dsimp only at hSw)
    clear hSw
    go_simp
    try with_reducible rfl
  simp only [List.set_cons_succ, List.set_cons_zero]
  refine takeM 10 58 5 rfl rfl rfl (by kernel_rfl) (by kernel_rfl) (by kernel_rfl) (fun _ _ _ h => h) (by rfl) hHeld rfl ?_
  simp only [List.set_cons_succ, List.set_cons_zero]
  refine takeL 1 49 (v := ?_) rfl rfl (by kernel_rfl) (by kernel_rfl) (by kernel_rfl) (fun _ _ _ h => h) (by rfl) hHeld (fun w hSw => ?_) ?_
  rotate_left 1
  · (try dsimp only at hSw)
    have e0_ := hSw
    clear hSw
    go_simp
    try with_reducible rfl
  simp only [List.set_cons_succ, List.set_cons_zero]
  refine takeL 5 53 (v := ?_) rfl rfl (by kernel_rfl) (by kernel_rfl) (by kernel_rfl) (fun _ _ _ h => h) (by rfl) hHeld (fun w hSw => ?_) ?_
  rotate_left 1
  · (try dsimp only at hSw)
    have e0_ := hSw
    clear hSw
    go_simp
    try with_reducible rfl
  simp only [List.set_cons_succ, List.set_cons_zero]
  refine takeL 6 54 (v := ?_) rfl rfl (by kernel_rfl) (by kernel_rfl) (by kernel_rfl) (fun _ _ _ h => h) (by rfl) hHeld (fun w hSw => ?_) ?_
  rotate_left 1
  · (try dsimp only at hSw)
    clear hSw
    go_simp
    try with_reducible rfl
  simp only [List.set_cons_succ, List.set_cons_zero]
  refine takeL 7 55 (v := ?_) rfl rfl (by kernel_rfl) (by kernel_rfl) (by kernel_rfl) (fun _ _ _ h => h) (by rfl) hHeld (fun w hSw => ?_) ?_
  rotate_left 1
  · (try dsimp only at hSw)
    clear hSw
    go_simp
    try with_reducible rfl
  simp only [List.set_cons_succ, List.set_cons_zero]
  refine takeL 8 56 (v := ?_) rfl rfl (by kernel_rfl) (by kernel_rfl) (by kernel_rfl) (fun _ _ _ h => h) (by rfl) hHeld (fun w hSw => ?_) ?_
  rotate_left 1
  · (try dsimp only at hSw)
    clear hSw
    go_simp
    try with_reducible rfl
  simp only [List.set_cons_succ, List.set_cons_zero]
  refine onlyL 9 rfl (by kernel_rfl) (by rfl) (fun K hK => ?_)
  go_wp2_with fail
  refine hK.out _ _ bS.c0 (fun hHeld => ?_)
  clear hK K
  refine takeL 11 59 (v := ?_) rfl rfl (by kernel_rfl) (by kernel_rfl) (by kernel_rfl) (fun _ _ _ h => h) (by rfl) hHeld (fun w hSw => ?_) ?_
  rotate_left 1
  · (try dsimp only at hSw)
    clear hSw
    go_simp
    try with_reducible rfl
  simp only [List.set_cons_succ, List.set_cons_zero]
  refine takeL 12 60 (v := ?_) rfl rfl (by kernel_rfl) (by kernel_rfl) (by kernel_rfl) (fun _ _ _ h => h) (by rfl) hHeld (fun w hSw => ?_) ?_
  rotate_left 1
  · (try dsimp only at hSw)
    clear hSw
    go_simp
    try with_reducible rfl
  simp only [List.set_cons_succ, List.set_cons_zero]
  rw [HUx.out]
  refine onlyL 13 rfl (by kernel_rfl) (by rfl) (fun K hK => ?_)
  go_wp2_with fail
  clear cg fg
  replace hC := hC.drew.setCell (p := ⟨g, i, none⟩) hg (.int .u8 u)
  replace bS := bS.drew.setOther (a := ⟨g, i, none⟩) hAg (.int .u8 u)
  replace own := (own.drew.stored i (.int .u8 u)).1
  skip
  refine hK.out _ _ bS.c0 (fun hHeld => ?_)
  clear hK K
  rw [show W2.drew.setCell ⟨g, i, none⟩ (.int .u8 u) = (W2.setCell ⟨g, i, none⟩ (.int .u8 u)).drew from rfl] at hC bS own
  generalize (W2.setCell ⟨g, i, none⟩ (.int .u8 u)).drew = W3 at *
  replace sx := sxo.below hC
  replace sy := syo.below hC
  replace b0 := b0o.grown hC
  replace b1 := b1o.grown hC
  replace hB := hB0.trans (hC.mono hB0.size)
  clear hC sxo syo b0o b1o
  have own2 : W3.ownsRow W1.heap.size 5 1 (.slice (some ⟨g, 0, none⟩) ny cz) ny (ms2.map (Value.int .u8)) := by
    rw [← HM2.out, List.map_set]
    exact own
  clear own
  have sg : SAt W3 (some ⟨g, 0, none⟩) ny ms2 := by
    obtain ⟨z, c9, e9, sg⟩ := own_sat hml2 own2
    simp only [Value.slice.injEq] at e9
    obtain ⟨rfl, -, rfl⟩ := e9
    exact sg
  clear own2
  refine wpAnyH_done (by kernel_rfl) ?_ _
  have ey0 := b0.c0
  have ey1 := b0.c1
  have ey2 := b1.c0
  have ey3 := b1.c1
  have ey4 := b1.c2
  have ey5 := bS.c0
  have ey6 := bS.c1
  have ey7 := bS.c2
  go_wp2_with fail
  clear ey0 ey1 ey2 ey3 ey4 ey5 ey6 ey7
  refine (open_any ropen_yes ropen_no key n xs ms2 x (some ⟨g, 0, none⟩) nx ny c cz t (by omega) (by omega) HBB.out bx hmb2 hc hgc xnil (fun e => by cases e) _ sx sg).mono ?_
  rintro e w4 ⟨⟨z4, l4, c4, rfl⟩, hb⟩
  replace b0 := b0.grown hb
  replace b1 := b1.grown hb
  replace sx := sx.below hb
  replace sy := sy.below hb
  replace bS := bS.grown hb
  replace sg := sg.below hb
  replace hB := hB.trans (hb.mono hB.size)
  clear hb
  have ey0 := b0.c0
  have ey1 := b0.c1
  have ey2 := b1.c0
  have ey3 := b1.c1
  have ey4 := b1.c2
  have ey5 := bS.c0
  have ey6 := bS.c1
  have ey7 := bS.c2
  go_wp2_with fail
  clear ey0 ey1 ey2 ey3 ey4 ey5 ey6 ey7
  refine (open_any hOy hOn key n xs ms2 x (some ⟨g, 0, none⟩) nx ny c cz t (by omega) (by omega) HBB.out bx hmb2 hc hgc xnil (fun e => by cases e) _ sx sg).mono ?_
  rintro e w5 ⟨⟨z5, l5, c5, rfl⟩, hb⟩
  replace b0 := b0.grown hb
  replace b1 := b1.grown hb
  replace sx := sx.below hb
  replace sy := sy.below hb
  replace bS := bS.grown hb
  replace sg := sg.below hb
  replace hB := hB.trans (hb.mono hB.size)
  clear hb
  have ey0 := b0.c0
  have ey1 := b0.c1
  have ey2 := b1.c0
  have ey3 := b1.c1
  have ey4 := b1.c2
  have ey5 := bS.c0
  have ey6 := bS.c1
  have ey7 := bS.c2
  go_wp2_with fail
  clear ey0 ey1 ey2 ey3 ey4 ey5 ey6 ey7
  refine (seal_at rseal_in key n rfl rfl rfl rfl rfl xs ys x y nx ny c d (by omega) (by omega) HS.out HM.out HT.out bx by_ hc hd xnil ynil _ sx sy).mono ?_
  rintro e w6 ⟨⟨z6, c6, rfl, s6, hc6, -, znil6⟩, hb⟩
  replace b0 := b0.grown hb
  replace b1 := b1.grown hb
  replace sx := sx.below hb
  replace sy := sy.below hb
  replace bS := bS.grown hb
  replace sg := sg.below hb
  replace hB := hB.trans (hb.mono hB.size)
  clear hb bS sg
  obtain ⟨t3, HT3, HN3⟩ : ∃ t3 : BitVec 64 × BitVec 64, Hid (t3 = (t.1 ^^^ vb.setWidth 64, t.2)) ∧ Hid (tagP (subP key n) xs ms ≠ t3) := by
    refine ⟨_, rfl, ?_⟩
    rw [HS.out, HT.out]
    exact hide' (turn_1 t vb hvb)
  have hb : Below w6.heap.size w6 (w6.alloc (.cells #[.slice z6 ny c6, .int .u64 (nv t3.1), .int .u64 (nv t.2)] 30)) := (Below.refl _ _).alloc (Nat.le_refl _) _
  have bT := SBox.new w6 (.slice z6 ny c6) (nv t3.1) (nv t.2)
  replace b0 := b0.grown hb
  replace b1 := b1.grown hb
  replace sx := sx.below hb
  replace sy := sy.below hb
  replace s6 := s6.below hb
  replace hB := hB.trans (hb.mono hB.size)
  clear hb
  have HX1 : bits .xor .u64 (nv t.1) (nv8 vb) = nv t3.1 := by rw [HT3.out]; exact xor_byte t.1 vb
  have HY2 : Hid (nv t3.2 = nv t.2) := by rw [HT3.out]; exact hide' rfl
  have h2 := H2.out
  have hvr := HVR.out
  have ey0 := b0.c0
  have ey1 := b0.c1
  have ey2 := b1.c0
  have ey3 := b1.c1
  have ey4 := b1.c2
  have ey5 := bT.c0
  have ey6 := bT.c1
  have ey7 := bT.c2
  go_wp2_with fail
  clear ey0 ey1 ey2 ey3 ey4 ey5 ey6 ey7 HX1 h2 hvr
  generalize w6.alloc (.cells #[.slice z6 ny c6, .int .u64 (nv t3.1), .int .u64 (nv t.2)] 30) = w7 at *
  generalize w6.heap.size = A7 at *
  refine (open_no_at hOn key n xs ms x z6 nx ny c c6 t3 rfl HY2.out (by omega) (by omega) HN3.out bx hmb hc hc6 xnil znil6 _ sx s6).mono ?_
  rintro e w8 ⟨⟨z8, c8, rfl⟩, hb⟩
  replace hB := hB.trans (hb.mono hB.size)
  clear hb
  go_wp2_with fail
  refine (known_true hSi hOy _).mono ?_
  rintro e w9 ⟨rfl, hb⟩
  replace hB := hB.trans (hb.mono hB.size)
  go_wp2
  go_ret
  exact ⟨rfl, hB⟩

set_option maxRecDepth 10000 in
set_option maxHeartbeats 2000000 in
theorem turned_1 (hSi : SealIn 9) (hOy : OpenYes 15) (hOn : OpenNo 15) (key : BitVec 64 × BitVec 64) (n : Nn) (xs ys : List Int) (x y : Option Addr) (nx ny c d : Nat) (at_ : Int) (vb : BitVec 8) (hnx : nx ≤ 100) (hny1 : 1 ≤ ny) (hny : ny ≤ 100) (hvb : vb ≠ 0#8) (h2 : bits .and .i64 at_ 1 = 1) (bx : Bytes xs) (by_ : Bytes ys) (hc : nx ≤ c) (hd : ny ≤ d) (xnil : x = none → nx = 0 ∧ c = 0) (ynil : y = none → ny = 0 ∧ d = 0) (w : World) (sx : SAt w x nx xs) (sy : SAt w y ny ys) : Calls Try.prog 6 #[.agg #[.int .u64 (nv key.1), .int .u64 (nv key.2)], .agg #[.int .u32 (nv32 n.1), .int .u32 (nv32 n.2.1), .int .u64 (nv n.2.2)], .slice x nx c, .slice y ny d, .int .i64 at_, .int .u8 (nv8 vb)] w fun e w' => e = .returned (.bool true) ∧ Below w.heap.size w w' := by
  obtain ⟨sub, HS⟩ : ∃ sub, Hid (subP key n = sub) := ⟨_, rfl⟩
  obtain ⟨ms, HM⟩ : ∃ ms, Hid (mixL sub ys = ms) := ⟨_, rfl⟩
  obtain ⟨t, HT⟩ : ∃ t, Hid (tagP sub xs ms = t) := ⟨_, rfl⟩
  have hml : ms.length = ny := by rw [← HM.out, mixL_length, sy.1]
  have hmb : Bytes ms := by rw [← HM.out]; exact mixL_bytes sub by_
  obtain ⟨m1, H1⟩ : ∃ m1 : Nat, Hid (bits .and .i64 at_ 65535 = (m1 : Int)) := ⟨_, i64_mask at_ 16 (by decide) 65535 (by decide)⟩
  have h1 := H1.out
  obtain ⟨i, HI, hi⟩ : ∃ i : Nat, Hid (i = m1 % ny) ∧ i < ny := ⟨_, rfl, Nat.mod_lt _ (by omega)⟩
  have hq : ((m1 : Int).tmod (ny : Int)) = (i : Int) := by rw [HI.out]; exact (Int.ofNat_tmod m1 ny).symm
  have hny0 : ¬ ny = 0 := by omega
  obtain ⟨u, HU⟩ : ∃ u, Hid (xor8 (ms.getD i 0) (nv8 vb) = u) := ⟨_, rfl⟩
  obtain ⟨ms2, HM2⟩ : ∃ ms2, Hid (ms.set i u = ms2) := ⟨_, rfl⟩
  have hml2 : ms2.length = ny := by rw [← HM2.out, List.length_set, hml]
  have hmb2 : Bytes ms2 := by
    rw [← HM2.out, ← HU.out]
    exact bytes_set hmb i (xor8_range (by rw [List.getD_eq_getElem?_getD, List.getElem?_eq_getElem (show i < ms.length by omega)]; exact hmb _ (List.getElem_mem _)) (nv8_range vb))
  obtain ⟨bb, HBB⟩ : ∃ bb, Hid (decide (tagP (subP key n) xs ms2 = t) = bb) := ⟨_, rfl⟩
  have hv0 : (nv8 vb == 0) = false := by
    rw [beq_eq_false_iff_ne]
    exact fun e => hvb (nv8_inj e)
  have HVR := hide' (nv8_range vb)
  have H2 := hide' h2
  clear h2
  have heq := eq32
  go_enter Try.func6, Try.ntmps6
  go_wp2_with fail
  have b0 := (Box.new w (nv key.1) (nv key.2)).alloc (.cells #[.int .u32 (nv32 n.1), .int .u32 (nv32 n.2.1), .int .u64 (nv n.2.2)] 27)
  have b1 := NBox.new (w.alloc (.cells #[.int .u64 (nv key.1), .int .u64 (nv key.2)] 24)) n
  have hB : Below w.heap.size w ((w.alloc (.cells #[.int .u64 (nv key.1), .int .u64 (nv key.2)] 24)).alloc (.cells #[.int .u32 (nv32 n.1), .int .u32 (nv32 n.2.1), .int .u64 (nv n.2.2)] 27)) := by go_grown
  simp only [World.size_alloc] at b1
  generalize (w.alloc (.cells #[.int .u64 (nv key.1), .int .u64 (nv key.2)] 24)).alloc (.cells #[.int .u32 (nv32 n.1), .int .u32 (nv32 n.2.1), .int .u64 (nv n.2.2)] 27) = W1 at *
  replace sx := sx.below hB
  replace sy := sy.below hB
  have hB0 := hB
  have sxo := sx
  have syo := sy
  have b0o := b0
  have b1o := b1
  refine (rseal_own key n xs ys x y nx ny c d (by omega) (by omega) bx by_ hc hd xnil ynil _ sx sy).mono ?_
  rintro e w1 ⟨v, rfl, own, hb⟩
  have hC := hb
  replace b0 := b0.grown hb
  replace b1 := b1.grown hb
  replace sx := sx.below hb
  replace sy := sy.below hb
  replace hB := hB.trans (hb.mono hB.size)
  clear hb
  rw [HS.out, HM.out] at own
  rw [HS.out, HM.out, HT.out]
  obtain ⟨g, cz, rfl, hg, hgl, hgc, hcm, hat⟩ := own_bytes hml own (fun e => by
    rw [e] at own
    obtain ⟨_, ⟨_, h0⟩ | ⟨_, _, _, e2, _⟩⟩ := own
    · omega
    · cases e2)
  have hAg : w1.heap.size ≠ g := Nat.ne_of_gt hgl
  clear hat
  replace hC := hC.alloc hC.size (.cells #[.slice (some ⟨g, 0, none⟩) ny cz, .int .u64 (nv t.1), .int .u64 (nv t.2)] 30)
  have hb : Below w1.heap.size w1 (w1.alloc (.cells #[.slice (some ⟨g, 0, none⟩) ny cz, .int .u64 (nv t.1), .int .u64 (nv t.2)] 30)) := (Below.refl _ _).alloc (Nat.le_refl _) _
  have bS := SBox.new w1 (.slice (some ⟨g, 0, none⟩) ny cz) (nv t.1) (nv t.2)
  replace b0 := b0.grown hb
  replace b1 := b1.grown hb
  replace sx := sx.below hb
  replace sy := sy.below hb
  replace own := own_grown own hb
  replace hB := hB.trans (hb.mono hB.size)
  clear hb
  have ey0 := b0.c0
  have ey1 := b0.c1
  have ey2 := b1.c0
  have ey3 := b1.c1
  have ey4 := b1.c2
  have ey5 := bS.c0
  have ey6 := bS.c1
  have ey7 := bS.c2
  go_wp2_with fail
  clear ey0 ey1 ey2 ey3 ey4 ey5 ey6 ey7
  generalize w1.alloc (.cells #[.slice (some ⟨g, 0, none⟩) ny cz, .int .u64 (nv t.1), .int .u64 (nv t.2)] 30) = W2 at *
  generalize w1.heap.size = A at *
  have cg : W2.drew.cell? ⟨g, i, none⟩ = some (.int .u8 (ms.getD i 0)) := by
    show W2.cell? ⟨g, i, none⟩ = _
    rw [own.cellAt i (by omega)]
    simp [hml, hi]
  have fg : W2.drew.frozen? ⟨g, i, none⟩ = false := own.frozenAt i
  have HUx : Hid (bits .xor .u8 (ms.getD i 0) (nv8 vb) = u) := HU
  refine wp_region_held_drew (S := fun w' => w'.cell? ⟨A, 0, none⟩ = some (.slice (some ⟨g, 0, none⟩) ny cz)) (by kernel_rfl) bS.c0 (fun hHeld => ?_)
  generalize ms.getD i 0 = m0 at *
  refine takeL 0 48 (v := ?_) rfl rfl (by kernel_rfl) (by kernel_rfl) (by kernel_rfl) (fun _ _ _ h => h) (by rfl) hHeld (fun w hSw => ?_) ?_
  rotate_left 1
  · (try dsimp only at hSw)
    clear hSw
    go_simp
    try with_reducible rfl
  simp only [List.set_cons_succ, List.set_cons_zero]
  refine takeM 2 50 4 rfl rfl rfl (by kernel_rfl) (by kernel_rfl) (by kernel_rfl) (fun _ _ _ h => h) (by rfl) hHeld rfl ?_
  simp only [List.set_cons_succ, List.set_cons_zero]
  refine takeL 3 51 (v := ?_) rfl rfl (by kernel_rfl) (by kernel_rfl) (by kernel_rfl) (fun _ _ _ h => h) (by rfl) hHeld (fun w hSw => ?_) ?_
  rotate_left 1
  · (try dsimp only at hSw)
    clear hSw
    go_simp
    try with_reducible rfl
  simp only [List.set_cons_succ, List.set_cons_zero]
  refine takeL 4 52 (v := ?_) rfl rfl (by kernel_rfl) (by kernel_rfl) (by kernel_rfl) (fun _ _ _ h => h) (by rfl) hHeld (fun w hSw => ?_) ?_
  rotate_left 1
  · (try dsimp only at hSw)
    clear hSw
    go_simp
    try with_reducible rfl
  simp only [List.set_cons_succ, List.set_cons_zero]
  refine takeM 10 58 5 rfl rfl rfl (by kernel_rfl) (by kernel_rfl) (by kernel_rfl) (fun _ _ _ h => h) (by rfl) hHeld rfl ?_
  simp only [List.set_cons_succ, List.set_cons_zero]
  refine takeL 1 49 (v := ?_) rfl rfl (by kernel_rfl) (by kernel_rfl) (by kernel_rfl) (fun _ _ _ h => h) (by rfl) hHeld (fun w hSw => ?_) ?_
  rotate_left 1
  · (try dsimp only at hSw)
    have e0_ := hSw
    clear hSw
    go_simp
    try with_reducible rfl
  simp only [List.set_cons_succ, List.set_cons_zero]
  refine takeL 5 53 (v := ?_) rfl rfl (by kernel_rfl) (by kernel_rfl) (by kernel_rfl) (fun _ _ _ h => h) (by rfl) hHeld (fun w hSw => ?_) ?_
  rotate_left 1
  · (try dsimp only at hSw)
    have e0_ := hSw
    clear hSw
    go_simp
    try with_reducible rfl
  simp only [List.set_cons_succ, List.set_cons_zero]
  refine takeL 6 54 (v := ?_) rfl rfl (by kernel_rfl) (by kernel_rfl) (by kernel_rfl) (fun _ _ _ h => h) (by rfl) hHeld (fun w hSw => ?_) ?_
  rotate_left 1
  · (try dsimp only at hSw)
    clear hSw
    go_simp
    try with_reducible rfl
  simp only [List.set_cons_succ, List.set_cons_zero]
  refine takeL 7 55 (v := ?_) rfl rfl (by kernel_rfl) (by kernel_rfl) (by kernel_rfl) (fun _ _ _ h => h) (by rfl) hHeld (fun w hSw => ?_) ?_
  rotate_left 1
  · (try dsimp only at hSw)
    clear hSw
    go_simp
    try with_reducible rfl
  simp only [List.set_cons_succ, List.set_cons_zero]
  refine takeL 8 56 (v := ?_) rfl rfl (by kernel_rfl) (by kernel_rfl) (by kernel_rfl) (fun _ _ _ h => h) (by rfl) hHeld (fun w hSw => ?_) ?_
  rotate_left 1
  · (try dsimp only at hSw)
    clear hSw
    go_simp
    try with_reducible rfl
  simp only [List.set_cons_succ, List.set_cons_zero]
  refine onlyL 9 rfl (by kernel_rfl) (by rfl) (fun K hK => ?_)
  go_wp2_with fail
  refine hK.out _ _ bS.c0 (fun hHeld => ?_)
  clear hK K
  refine takeL 11 59 (v := ?_) rfl rfl (by kernel_rfl) (by kernel_rfl) (by kernel_rfl) (fun _ _ _ h => h) (by rfl) hHeld (fun w hSw => ?_) ?_
  rotate_left 1
  · (try dsimp only at hSw)
    clear hSw
    go_simp
    try with_reducible rfl
  simp only [List.set_cons_succ, List.set_cons_zero]
  refine takeL 12 60 (v := ?_) rfl rfl (by kernel_rfl) (by kernel_rfl) (by kernel_rfl) (fun _ _ _ h => h) (by rfl) hHeld (fun w hSw => ?_) ?_
  rotate_left 1
  · (try dsimp only at hSw)
    clear hSw
    go_simp
    try with_reducible rfl
  simp only [List.set_cons_succ, List.set_cons_zero]
  rw [HUx.out]
  refine onlyL 13 rfl (by kernel_rfl) (by rfl) (fun K hK => ?_)
  go_wp2_with fail
  clear cg fg
  replace hC := hC.drew.setCell (p := ⟨g, i, none⟩) hg (.int .u8 u)
  replace bS := bS.drew.setOther (a := ⟨g, i, none⟩) hAg (.int .u8 u)
  replace own := (own.drew.stored i (.int .u8 u)).1
  skip
  refine hK.out _ _ bS.c0 (fun hHeld => ?_)
  clear hK K
  rw [show W2.drew.setCell ⟨g, i, none⟩ (.int .u8 u) = (W2.setCell ⟨g, i, none⟩ (.int .u8 u)).drew from rfl] at hC bS own
  generalize (W2.setCell ⟨g, i, none⟩ (.int .u8 u)).drew = W3 at *
  replace sx := sxo.below hC
  replace sy := syo.below hC
  replace b0 := b0o.grown hC
  replace b1 := b1o.grown hC
  replace hB := hB0.trans (hC.mono hB0.size)
  clear hC sxo syo b0o b1o
  have own2 : W3.ownsRow W1.heap.size 5 1 (.slice (some ⟨g, 0, none⟩) ny cz) ny (ms2.map (Value.int .u8)) := by
    rw [← HM2.out, List.map_set]
    exact own
  clear own
  have sg : SAt W3 (some ⟨g, 0, none⟩) ny ms2 := by
    obtain ⟨z, c9, e9, sg⟩ := own_sat hml2 own2
    simp only [Value.slice.injEq] at e9
    obtain ⟨rfl, -, rfl⟩ := e9
    exact sg
  clear own2
  refine wpAnyH_done (by kernel_rfl) ?_ _
  have ey0 := b0.c0
  have ey1 := b0.c1
  have ey2 := b1.c0
  have ey3 := b1.c1
  have ey4 := b1.c2
  have ey5 := bS.c0
  have ey6 := bS.c1
  have ey7 := bS.c2
  go_wp2_with fail
  clear ey0 ey1 ey2 ey3 ey4 ey5 ey6 ey7
  refine (open_any ropen_yes ropen_no key n xs ms2 x (some ⟨g, 0, none⟩) nx ny c cz t (by omega) (by omega) HBB.out bx hmb2 hc hgc xnil (fun e => by cases e) _ sx sg).mono ?_
  rintro e w4 ⟨⟨z4, l4, c4, rfl⟩, hb⟩
  replace b0 := b0.grown hb
  replace b1 := b1.grown hb
  replace sx := sx.below hb
  replace sy := sy.below hb
  replace bS := bS.grown hb
  replace sg := sg.below hb
  replace hB := hB.trans (hb.mono hB.size)
  clear hb
  have ey0 := b0.c0
  have ey1 := b0.c1
  have ey2 := b1.c0
  have ey3 := b1.c1
  have ey4 := b1.c2
  have ey5 := bS.c0
  have ey6 := bS.c1
  have ey7 := bS.c2
  go_wp2_with fail
  clear ey0 ey1 ey2 ey3 ey4 ey5 ey6 ey7
  refine (open_any hOy hOn key n xs ms2 x (some ⟨g, 0, none⟩) nx ny c cz t (by omega) (by omega) HBB.out bx hmb2 hc hgc xnil (fun e => by cases e) _ sx sg).mono ?_
  rintro e w5 ⟨⟨z5, l5, c5, rfl⟩, hb⟩
  replace b0 := b0.grown hb
  replace b1 := b1.grown hb
  replace sx := sx.below hb
  replace sy := sy.below hb
  replace bS := bS.grown hb
  replace sg := sg.below hb
  replace hB := hB.trans (hb.mono hB.size)
  clear hb
  have ey0 := b0.c0
  have ey1 := b0.c1
  have ey2 := b1.c0
  have ey3 := b1.c1
  have ey4 := b1.c2
  have ey5 := bS.c0
  have ey6 := bS.c1
  have ey7 := bS.c2
  go_wp2_with fail
  clear ey0 ey1 ey2 ey3 ey4 ey5 ey6 ey7
  refine (seal_at rseal_in key n rfl rfl rfl rfl rfl xs ys x y nx ny c d (by omega) (by omega) HS.out HM.out HT.out bx by_ hc hd xnil ynil _ sx sy).mono ?_
  rintro e w6 ⟨⟨z6, c6, rfl, s6, hc6, -, znil6⟩, hb⟩
  replace b0 := b0.grown hb
  replace b1 := b1.grown hb
  replace sx := sx.below hb
  replace sy := sy.below hb
  replace bS := bS.grown hb
  replace sg := sg.below hb
  replace hB := hB.trans (hb.mono hB.size)
  clear hb bS sg
  obtain ⟨t3, HT3, HN3⟩ : ∃ t3 : BitVec 64 × BitVec 64, Hid (t3 = (t.1, t.2 ^^^ vb.setWidth 64)) ∧ Hid (tagP (subP key n) xs ms ≠ t3) := by
    refine ⟨_, rfl, ?_⟩
    rw [HS.out, HT.out]
    exact hide' (turn_2 t vb hvb)
  have hb : Below w6.heap.size w6 (w6.alloc (.cells #[.slice z6 ny c6, .int .u64 (nv t.1), .int .u64 (nv t3.2)] 30)) := (Below.refl _ _).alloc (Nat.le_refl _) _
  have bT := SBox.new w6 (.slice z6 ny c6) (nv t.1) (nv t3.2)
  replace b0 := b0.grown hb
  replace b1 := b1.grown hb
  replace sx := sx.below hb
  replace sy := sy.below hb
  replace s6 := s6.below hb
  replace hB := hB.trans (hb.mono hB.size)
  clear hb
  have HX1 : bits .xor .u64 (nv t.2) (nv8 vb) = nv t3.2 := by rw [HT3.out]; exact xor_byte t.2 vb
  have HY1 : Hid (nv t3.1 = nv t.1) := by rw [HT3.out]; exact hide' rfl
  have h2 := H2.out
  have hvr := HVR.out
  have ey0 := b0.c0
  have ey1 := b0.c1
  have ey2 := b1.c0
  have ey3 := b1.c1
  have ey4 := b1.c2
  have ey5 := bT.c0
  have ey6 := bT.c1
  have ey7 := bT.c2
  go_wp2_with fail
  clear ey0 ey1 ey2 ey3 ey4 ey5 ey6 ey7 HX1 h2 hvr
  generalize w6.alloc (.cells #[.slice z6 ny c6, .int .u64 (nv t.1), .int .u64 (nv t3.2)] 30) = w7 at *
  generalize w6.heap.size = A7 at *
  refine (open_no_at hOn key n xs ms x z6 nx ny c c6 t3 HY1.out rfl (by omega) (by omega) HN3.out bx hmb hc hc6 xnil znil6 _ sx s6).mono ?_
  rintro e w8 ⟨⟨z8, c8, rfl⟩, hb⟩
  replace hB := hB.trans (hb.mono hB.size)
  clear hb
  go_wp2_with fail
  refine (known_true hSi hOy _).mono ?_
  rintro e w9 ⟨rfl, hb⟩
  replace hB := hB.trans (hb.mono hB.size)
  go_wp2
  go_ret
  exact ⟨rfl, hB⟩

end Go.Proofs.Ytafjhidkhboaiaa
