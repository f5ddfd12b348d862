/- What the program's Seal comes to. -/
import Derived.Test.YtkbhkgfchiacbaaM15
namespace Go.Proofs.Ytkbhkgfchiacbaa
open Go.RowKit
set_option maxRecDepth 20000

theorem Try.recInfo : (Try.prog.info? 92).map (fun i => (i.zero, i.size, i.bytes)) = some (some (.agg #[.int .u64 0, .int .u64 0, .int .u32 0, .int .u32 0, .int .u64 0, .slice none 0 0, .slice none 0 0]), 7, 80) := by kernel_rfl
theorem Try.underlyingRecs : Try.prog.underlying 85 = some (.slice 92) := by kernel_rfl
set_option maxRecDepth 10000 in
set_option maxHeartbeats 4000000 in
theorem iseal (F : Nat → Prop) (v : Value) (L : List Iss) (S : List (List Int)) (key : BitVec 64 × BitVec 64) (nn : Nn) (xs ys : List Int) (x y : Option Addr) (nx ny c d : Nat) (hnx : nx ≤ 4000) (hny : ny ≤ 4000) (hL : L.length ≤ 10000) (bx : Bytes xs) (by_ : Bytes ys) (fx : Fit x nx c) (fy : Fit y ny d) (w : World) (hI : PInv F w v (L, S)) (sx : SIn (fun k => ¬ F k) w x nx xs) (sy : SIn (fun k => ¬ F k) w y ny ys) :
    Calls Try.prog 34 #[v, .agg #[.int .u64 (nv key.1), .int .u64 (nv key.2)], .agg #[.int .u32 (nv32 nn.1), .int .u32 (nv32 nn.2.1), .int .u64 (nv nn.2.2)], .slice x nx c, .slice y ny d] w fun e w' => ∃ z cz F', e = .returned (.tuple #[.agg #[.slice z ny cz, .int .u64 18446744073709551615, .int .u64 ((L.length : Int) + 1)], .bool true]) ∧ Kept PInv F w v F' w' (L ++ [⟨key, nn, xs, ys⟩], S) ∧ SIn (fun k => w.heap.size ≤ k ∧ ¬ F' k) w' z ny (outB (L.length + 1) ny) ∧ Fit z ny cz := by
  have hlt0 := hI.lt
  have b0 := ((Box.new w (nv key.1) (nv key.2)).alloc (.cells #[.int .u32 (nv32 nn.1), .int .u32 (nv32 nn.2.1), .int .u64 (nv nn.2.2)] 74)).alloc (.cells #[.slice none 0 0, .int .u64 0, .int .u64 0] 76)
  have bN := (NBox.new (w.alloc (.cells #[.int .u64 (nv key.1), .int .u64 (nv key.2)] 34)) nn).alloc (.cells #[.slice none 0 0, .int .u64 0, .int .u64 0] 76)
  have bR := SBox.new ((w.alloc (.cells #[.int .u64 (nv key.1), .int .u64 (nv key.2)] 34)).alloc (.cells #[.int .u32 (nv32 nn.1), .int .u32 (nv32 nn.2.1), .int .u64 (nv nn.2.2)] 74)) (.slice none 0 0) 0 0
  have hB : Below w.heap.size w (((w.alloc (.cells #[.int .u64 (nv key.1), .int .u64 (nv key.2)] 34)).alloc (.cells #[.int .u32 (nv32 nn.1), .int .u32 (nv32 nn.2.1), .int .u64 (nv nn.2.2)] 74)).alloc (.cells #[.slice none 0 0, .int .u64 0, .int .u64 0] 76)) := by go_grown
  simp only [World.size_alloc] at bN bR
  have hI1 := hI.below hB
  obtain ⟨b, FL, FS, vL, vS, rfl, hA, hF0, -⟩ := hI1
  have HF := hide' hF0
  have HLn : Hid (((L.length : Int) + 1) = ((L.length + 1 : Nat) : Int)) := hide' rfl
  clear hF0 hI
  obtain ⟨yl, cl, rfl, hcl, -, -⟩ := own_is hA.iss.choose_spec.1
  dsimp only at hcl hA ⊢
  replace sx := sx.off (Off.of_below (F := fun _ => False) hB) (fun _ _ _ h => h)
  replace sy := sy.off (Off.of_below (F := fun _ => False) hB) (fun _ _ _ h => h)
  go_enter Try.func34, Try.ntmps34
  go_wp2_with fail
  generalize (((w.alloc (.cells #[.int .u64 (nv key.1), .int .u64 (nv key.2)] 34)).alloc (.cells #[.int .u32 (nv32 nn.1), .int .u32 (nv32 nn.2.1), .int .u64 (nv nn.2.2)] 74)).alloc (.cells #[.slice none 0 0, .int .u64 0, .int .u64 0] 76)) = wq at *
  have hFL : ∀ k, FL k → k < w.heap.size := fun k hk => hlt0 k ((HF.out k).2 (Or.inr (Or.inl hk)))
  have hnF : ∀ k, w.heap.size ≤ k → ¬ FL k := fun k hk h => absurd (hFL k h) (Nat.not_lt.2 hk)
  have hwq : w.heap.size + 1 + 1 < wq.heap.size := bR.lt
  refine startX (S := fun w' => Off FL wq w') 17 (by kernel_rfl) (Off.refl _ _).drew (fun hHeld => ?_)
  refine moveX 0 25 0 rfl rfl rfl (by kernel_rfl) (by kernel_rfl) (by kernel_rfl) (fun _ _ _ h => h) (by rfl) (by kernel_rfl) (by decide) hHeld rfl ?_
  simp only [List.set_cons_succ, List.set_cons_zero]
  refine moveX 1 26 0 rfl rfl rfl (by kernel_rfl) (by kernel_rfl) (by kernel_rfl) (fun _ _ _ h => h) (by rfl) (by kernel_rfl) (by decide) hHeld rfl ?_
  simp only [List.set_cons_succ, List.set_cons_zero]
  refine takeX 2 27 (v := ?_) rfl rfl (by kernel_rfl) (by kernel_rfl) (by kernel_rfl) (fun _ _ _ h => h) (by rfl) (by kernel_rfl) (by decide) hHeld (fun w hSw => ?_) ?_
  rotate_left 1
  · (try dsimp only at hSw)
    clear hSw
    go_simp
    try with_reducible rfl
  simp only [List.set_cons_succ, List.set_cons_zero]
  refine takeX 3 28 (v := ?_) rfl rfl (by kernel_rfl) (by kernel_rfl) (by kernel_rfl) (fun _ _ _ h => h) (by rfl) (by kernel_rfl) (by decide) hHeld (fun w hSw => ?_) ?_
  rotate_left 1
  · (try dsimp only at hSw)
    clear hSw
    go_simp
    try with_reducible rfl
  simp only [List.set_cons_succ, List.set_cons_zero]
  refine takeX 4 29 (v := ?_) rfl rfl (by kernel_rfl) (by kernel_rfl) (by kernel_rfl) (fun _ _ _ h => h) (by rfl) (by kernel_rfl) (by decide) hHeld (fun w hSw => ?_) ?_
  rotate_left 1
  · (try dsimp only at hSw)
    have e0_ := (show PBox w b (.slice yl L.length cl) vS from off_block hA.box hSw hA.nl).c0
    clear hSw
    go_simp
    try with_reducible rfl
  simp only [List.set_cons_succ, List.set_cons_zero]
  refine takeX 5 30 (v := ?_) rfl rfl (by kernel_rfl) (by kernel_rfl) (by kernel_rfl) (fun _ _ _ h => h) (by rfl) (by kernel_rfl) (by decide) hHeld (fun w hSw => ?_) ?_
  rotate_left 1
  · (try dsimp only at hSw)
    have hx_ := (show Box w _ (nv key.1) (nv key.2) from off_block b0 hSw (hnF _ (Nat.le_refl _)))
    have e0_ := hx_.c0
    have e1_ := hx_.c1
    clear hx_
    clear hSw
    go_simp
    try with_reducible rfl
  simp only [List.set_cons_succ, List.set_cons_zero]
  refine takeX 6 31 (v := ?_) rfl rfl (by kernel_rfl) (by kernel_rfl) (by kernel_rfl) (fun _ _ _ h => h) (by rfl) (by kernel_rfl) (by decide) hHeld (fun w hSw => ?_) ?_
  rotate_left 1
  · (try dsimp only at hSw)
    have hx_ := (show NBox w _ nn from off_block bN hSw (hnF _ (Nat.le_succ _)))
    have e0_ := hx_.c0
    have e1_ := hx_.c1
    have e2_ := hx_.c2
    clear hx_
    clear hSw
    go_simp
    try with_reducible rfl
  simp only [List.set_cons_succ, List.set_cons_zero]
  refine takeX 7 32 (v := ?_) rfl rfl (by kernel_rfl) (by kernel_rfl) (by kernel_rfl) (fun _ _ _ h => h) (by rfl) (by kernel_rfl) (by decide) hHeld (fun w hSw => ?_) ?_
  rotate_left 1
  · (try dsimp only at hSw)
    clear hSw
    go_simp
    try with_reducible rfl
  simp only [List.set_cons_succ, List.set_cons_zero]
  refine moveX 8 33 3 rfl rfl rfl (by kernel_rfl) (by kernel_rfl) (by kernel_rfl) (fun _ _ _ h => h) (by rfl) (by kernel_rfl) (by decide) hHeld rfl ?_
  simp only [List.set_cons_succ, List.set_cons_zero]
  refine moveX 10 35 4 rfl rfl rfl (by kernel_rfl) (by kernel_rfl) (by kernel_rfl) (fun _ _ _ h => h) (by rfl) (by kernel_rfl) (by decide) hHeld rfl ?_
  simp only [List.set_cons_succ, List.set_cons_zero]
  refine onlyX 9 rfl (by kernel_rfl) (by rfl) (fun K hK => ?_)
  go_wp2_with fail
  refine (iclone x nx c xs (by omega) fx.2.2 _ sx.sat.drew).mono ?_
  rintro e w3 ⟨v3, rfl, own3, hc3⟩
  have hb3 : Below wq.heap.size wq w3 := below_drew hc3.b
  replace own3 : w3.ownsRow wq.heap.size 5 1 v3 nx (xs.map (Value.int .u8)) := own3
  refine hK.out _ _ (fun _ => Off.of_below hb3) (fun _ => ?_)
  clear hK K hHeld hc3
  refine onlyX 11 rfl (by kernel_rfl) (by rfl) (fun K hK => ?_)
  go_wp2_with fail
  replace sy := sy.off (Off.of_below (F := fun _ => False) hb3) (fun _ _ _ h => h)
  refine (iclone y ny d ys (by omega) fy.2.2 _ sy.sat).mono ?_
  rintro e w4 ⟨v4, rfl, own4, hc4⟩
  have hb34 : Below w3.heap.size w3 w4 := hc4.b
  have hb4 : Below wq.heap.size wq w4 := hb3.trans (hb34.mono hb3.size)
  replace own3 := own_grown own3 hb34
  have hh2 : ∀ q, v3.ownBlock = some q → wq.heap.size ≤ q ∧ q < w4.heap.size := fun q hq => by
    obtain ⟨cur, hh⟩ := own_type own3 hq
    exact ⟨own_block own3 q hq, (Array.getElem?_eq_some_iff.1 hh).1⟩
  have hh3 : ∀ q, v4.ownBlock = some q → wq.heap.size ≤ q ∧ q < w4.heap.size := fun q hq => by
    obtain ⟨cur, hh⟩ := own_type own4 hq
    exact ⟨Nat.le_trans hb3.size (own_block own4 q hq), (Array.getElem?_eq_some_iff.1 hh).1⟩
  have hxl := sx.1
  have hyl := sy.1
  obtain ⟨xh, ch, rfl, sh, hch, hchm, nilh⟩ := own_sin hxl own3
  obtain ⟨xd, cd, rfl, sd, hcd, hcdm, nild⟩ := own_sin hyl own4
  refine hK.out _ _ (fun _ => Off.of_below hb4) (fun _ => ?_)
  clear hK K hc4
  replace bR := bR.grown hb4
  replace hA := hA.below hb4
  replace hB := hB.trans (hb4.mono hB.size)
  have hz4 := hb4.size
  have hHd : Off FL wq w4 := Off.of_below hb4
  clear b0 bN sx sy own3 own4 hb3 hb34 hb4
  refine onlyX 12 rfl (by kernel_rfl) (by rfl) (fun K hK => ?_)
  go_wp2
  refine hK.out _ _ (fun _ => hHd) (fun _ => ?_)
  clear hK K
  refine onlyX 13 rfl (by kernel_rfl) (by rfl) (fun K hK => ?_)
  go_wp2
  have hb : Below w4.heap.size w4 (w4.alloc (.cells #[.int .u64 (nv key.1), .int .u64 (nv key.2), .int .u32 (nv32 nn.1), .int .u32 (nv32 nn.2.1), .int .u64 (nv nn.2.2), .slice xh nx ch, .slice xd ny cd] 92)) := (Below.refl _ _).alloc (Nat.le_refl _) _
  have hof5 : Off FL wq (w4.alloc (.cells #[.int .u64 (nv key.1), .int .u64 (nv key.2), .int .u32 (nv32 nn.1), .int .u32 (nv32 nn.2.1), .int .u64 (nv nn.2.2), .slice xh nx ch, .slice xd ny cd] 92)) := hHd.alloc _
  refine hK.out _ _ (fun _ => hof5) (fun _ => ?_)
  clear hK K hHd
  replace bR := bR.grown hb
  replace hA := hA.below hb
  replace sh := sh.off (Off.of_below (F := fun _ => False) hb) (fun _ _ _ h => h)
  replace sd := sd.off (Off.of_below (F := fun _ => False) hb) (fun _ _ _ h => h)
  replace hB := hB.trans (hb.mono hB.size)
  have hz5 := hb.size
  have hnew : ∀ j u, ([.int .u64 (nv key.1), .int .u64 (nv key.2), .int .u32 (nv32 nn.1), .int .u32 (nv32 nn.2.1), .int .u64 (nv nn.2.2), .slice xh nx ch, .slice xd ny cd] : List Value)[j]? = some u → (w4.alloc (.cells #[.int .u64 (nv key.1), .int .u64 (nv key.2), .int .u32 (nv32 nn.1), .int .u32 (nv32 nn.2.1), .int .u64 (nv nn.2.2), .slice xh nx ch, .slice xd ny cd] 92)).cell? ((⟨w4.heap.size, 0, none⟩ : Addr).add j) = some u := fun j u hj => by
    rw [add_plain', Nat.zero_add, World.cell?_alloc_mark]
    simpa using hj
  clear hb
  generalize w4.alloc (.cells #[.int .u64 (nv key.1), .int .u64 (nv key.2), .int .u32 (nv32 nn.1), .int .u32 (nv32 nn.2.1), .int .u64 (nv nn.2.2), .slice xh nx ch, .slice xd ny cd] 92) = w5 at *
  obtain ⟨C, ownL, hLb, hin⟩ := hA.iss
  obtain ⟨i0, hi, hz0, hz1, hz2⟩ := info_parts Try.recInfo
  refine onlyX 14 rfl (by kernel_rfl) (by rfl) (fun K hK => ?_)
  refine wp_append_at (.tmp 29) (.tmp 38) 85 rfl 0 92 i0 _ 7 80 Try.underlyingRecs hi hz0 hz1 hz2 rfl (by decide) (.slice yl L.length cl) L.length _ rfl ownL ⟨w4.heap.size, 0, none⟩ 1 1 [.int .u64 (nv key.1), .int .u64 (nv key.2), .int .u32 (nv32 nn.1), .int .u32 (nv32 nn.2.1), .int .u64 (nv nn.2.2), .slice xh nx ch, .slice xd ny cd] rfl rfl hnew (fun u hu => ?_) (by unfold maxLen; omega) (by omega) (Nat.zero_le _) ?_
  · simp only [List.mem_cons, List.not_mem_nil, or_false] at hu
    rcases hu with rfl | rfl | rfl | rfl | rfl | rfl | rfl <;> rfl
  intro v6 w6 own6 hg6 hwh
  obtain ⟨y6, c6, rfl, hc6, hm6, nil6⟩ := own_is own6
  have hofR : Off (fun k => (Value.slice yl L.length cl).ownBlock = some k) w5 w6 := (Off.refl _ _).grown hg6 (fun k hk => Or.inl hk)
  have hof6 : Off FL w5 w6 := hofR.mono (fun k hk => Or.inl (hLb k hk))
  have hofS : Off FL wq w6 := hof5.trans hof6 (fun k hk => Or.inl hk)
  refine hK.out _ _ (fun _ => hofS) (fun _ => ?_)
  clear hK K hnew
  simp only [Act.put, List.setIfInBounds_toArray]
  refine onlyX 15 rfl (by kernel_rfl) (by rfl) (fun K hK => ?_)
  go_wp2
  refine hK.out _ _ (fun _ => hofS) (fun _ => ?_)
  clear hK K
  refine onlyX 16 rfl (by kernel_rfl) (by rfl) (fun K hK => ?_)
  go_wp2
  refine hK.out _ _ (fun _ => hofS) (fun _ => ?_)
  clear hK K
  have hT6 : PBox w6 b (.slice yl L.length cl) vS := off_block hA.box hof6 hA.nl
  have k0 := hT6.c0
  have k1 := hT6.frozen 0
  refine onlyX 17 rfl (by kernel_rfl) (by rfl) (fun K hK => ?_)
  go_wp2_with fail
  clear k0 k1
  refine hK.out _ _ (fun h => absurd rfl h) (fun _ => ?_)
  clear hK K
  refine doneX (by kernel_rfl) ?_ _
  have hT7 := hT6.put0 (.slice y6 (L.length + 1) c6)
  have hof7 : Off (fun k => k = b) w6 (w6.setCell ⟨b, 0, none⟩ (.slice y6 (L.length + 1) c6)) := Off.one w6 b 0 _
  have hbl : b < w.heap.size := hlt0 b ((HF.out b).2 (Or.inl rfl))
  have bR7 : SBox _ (w.heap.size + 1 + 1) (.slice none 0 0) 0 0 := off_block (off_block bR hof6 (hnF _ (by omega))) hof7 (fun e => by omega)
  generalize w6.setCell ⟨b, 0, none⟩ (.slice y6 (L.length + 1) c6) = w7 at *
  have k0 := hT7.c0
  go_wp2_with fail
  refine (isealed_at (L.length + 1) ny _ HLn.out (by omega) _).mono ?_
  rintro e w8 ⟨g8, rfl, hg8, row8, hc8⟩
  have bR8 := bR7.grown hc8.b
  have k3 := bR8.c0
  have k4 := bR8.c1
  have k5 := bR8.c2
  have k6 := bR8.frozen 0
  have k7 := bR8.frozen 1
  have k8 := bR8.frozen 2
  go_wp2
  have bR9 := bR8.put3 (.slice (some ⟨g8, 0, none⟩) ny ny) 18446744073709551615 ((L.length : Int) + 1)
  have r0 := bR9.c0
  have r1 := bR9.c1
  have r2 := bR9.c2
  have hof9 : Off (fun k => k = w.heap.size + 1 + 1) w8 (((w8.setCell ⟨w.heap.size + 1 + 1, 0, none⟩ (.slice (some ⟨g8, 0, none⟩) ny ny)).setCell ⟨w.heap.size + 1 + 1, 1, none⟩ (.int .u64 18446744073709551615)).setCell ⟨w.heap.size + 1 + 1, 2, none⟩ (.int .u64 ((L.length : Int) + 1))) := (((Off.refl (fun k => k = w.heap.size + 1 + 1) w8).setCell (p := ⟨w.heap.size + 1 + 1, 0, none⟩) (Or.inl rfl) _).setCell (p := ⟨w.heap.size + 1 + 1, 1, none⟩) (Or.inl rfl) _).setCell (p := ⟨w.heap.size + 1 + 1, 2, none⟩) (Or.inl rfl) _
  have hw7 := hof7.size
  have hw6 := hof6.size
  have hw8 := hc8.b.size
  have hne8 : g8 ≠ w.heap.size + 1 + 1 := by omega
  have row9 := ((row8.setOther (a := ⟨w.heap.size + 1 + 1, 0, none⟩) hne8 (.slice (some ⟨g8, 0, none⟩) ny ny)).setOther (a := ⟨w.heap.size + 1 + 1, 1, none⟩) hne8 (.int .u64 18446744073709551615)).setOther (a := ⟨w.heap.size + 1 + 1, 2, none⟩) hne8 (.int .u64 ((L.length : Int) + 1))
  generalize (((w8.setCell ⟨w.heap.size + 1 + 1, 0, none⟩ (.slice (some ⟨g8, 0, none⟩) ny ny)).setCell ⟨w.heap.size + 1 + 1, 1, none⟩ (.int .u64 18446744073709551615)).setCell ⟨w.heap.size + 1 + 1, 2, none⟩ (.int .u64 ((L.length : Int) + 1))) = w9 at *
  have hw9 := hof9.size
  have hofB : Off (fun k => k = w.heap.size + 1 + 1) w7 w9 := (Off.of_below (F := fun k => k = w.heap.size + 1 + 1) hc8.b).trans hof9 (fun k hk => Or.inl hk)
  clear bR7 bR8 bR9 k0 k3 k4 k5 k6 k7 k8 hof9 row8 hc8
  obtain ⟨N, HN⟩ : ∃ N : Nat → Prop, Hid (∀ k, N k ↔ (Value.slice xh nx ch).ownBlock = some k ∨ (Value.slice xd ny cd).ownBlock = some k) := ⟨_, hide' (fun _ => Iff.rfl)⟩
  have hNr : ∀ k, N k → w.heap.size + 1 + 1 < k ∧ k < w5.heap.size := fun k hk => by
    rcases (HN.out k).1 hk with h | h
    · have := hh2 k h
      omega
    · have := hh3 k h
      omega
  have hFS : ∀ k, FS k → k < w.heap.size := fun k hk => hlt0 k ((HF.out k).2 (Or.inr (Or.inr hk)))
  have hv6 : ∀ k, (Value.slice y6 (L.length + 1) c6).ownBlock = some k → ((Value.slice yl L.length cl).ownBlock = some k ∧ FL k) ∨ (w5.heap.size ≤ k ∧ k < w6.heap.size) := fun k hk => (hwh k hk).imp (fun h => ⟨h, hLb k h⟩) (fun h => ⟨h, by
    obtain ⟨cur, hh⟩ := own_type own6 hk
    exact (Array.getElem?_eq_some_iff.1 hh).1⟩)
  have hw5 : w.heap.size + 1 + 1 < w5.heap.size := by omega
  have carry : ∀ {x : Option Addr} {l : Nat} {zs : List Int} {G : Nat → Prop}, SIn G w5 x l zs → (∀ k, G k → N k) → SIn (fun k => (FL k ∨ (Value.slice y6 (L.length + 1) c6).ownBlock = some k ∨ N k) ∧ (Value.slice y6 (L.length + 1) c6).ownBlock ≠ some k) w9 x l zs := fun {x l zs G} h hG =>
    (((h.off hofR (fun k _ hk e => by have h1 := hNr k (hG k hk); have h2 := hFL k (hLb k e); omega)).off hof7 (fun k _ hk e => by have h1 := hNr k (hG k hk); omega)).off hofB (fun k _ hk e => by have h1 := hNr k (hG k hk); omega)).mono (fun k _ hk => ⟨Or.inr (Or.inr (hG k hk)), fun e => by
      have h1 := hNr k (hG k hk)
      rcases hv6 k e with h | h
      · have := hFL k h.2
        omega
      · omega⟩)
  have own8 := own_off (own_off own6 hof7 (fun k hk e => by
    rcases hv6 k hk with h | h
    · exact hA.nl (e ▸ h.2)
    · omega)) hofB (fun k hk e => by
    rcases hv6 k hk with h | h
    · have := hFL k h.2
      omega
    · omega)
  have hfl : flatG (fun i => recC ((L ++ [(⟨key, nn, xs, ys⟩ : Iss)]).getD i default) (if i < L.length then C i else (⟨xh, ch, xd, cd, none, 0⟩ : SlC))) (L.length + 1) = flatG (fun i => recC (L.getD i default) (C i)) L.length ++ [.int .u64 (nv key.1), .int .u64 (nv key.2), .int .u32 (nv32 nn.1), .int .u32 (nv32 nn.2.1), .int .u64 (nv nn.2.2), .slice xh nx ch, .slice xd ny cd] := by
    rw [flatG, flatG_congr L.length (g := fun i => recC (L.getD i default) (C i)) (fun i hi => by simp [hi, List.getD, List.getElem?_append_left hi])]
    congr 1
    simp [recC, hxl, hyl, List.getD]
  rw [← hfl] at own8
  have hoF : Off F w w9 := (((Off.of_below (F := F) (hB.mono (Nat.le_refl _))).trans hof6 (fun k hk => Or.inl ((HF.out k).2 (Or.inr (Or.inl hk))))).trans hof7 (fun k hk => Or.inl ((HF.out k).2 (Or.inl hk)))).trans hofB (fun k hk => Or.inr (by omega))
  have hnFg : ¬ (F g8 ∨ (Value.slice y6 (L.length + 1) c6).ownBlock = some g8 ∨ N g8) := by
    rintro (h | h | h)
    · have := hlt0 g8 h
      omega
    · rcases hv6 g8 h with h | h
      · have := hFL g8 h.2
        omega
      · omega
    · have := hNr g8 h
      omega
  refine bodyPost_ret (v := .tuple #[.agg #[.slice (some ⟨g8, 0, none⟩) ny ny, .int .u64 18446744073709551615, .int .u64 ((L.length : Int) + 1)], .bool true]) (by simp [results, Try.results34, go_sem, r0, r1, r2]) rfl
    ⟨some ⟨g8, 0, none⟩, ny, fun k => F k ∨ (Value.slice y6 (L.length + 1) c6).ownBlock = some k ∨ N k, rfl, ⟨⟨b, fun k => FL k ∨ (Value.slice y6 (L.length + 1) c6).ownBlock = some k ∨ N k, FS, _, vS, rfl, ⟨off_block hT7 hofB (fun e => by omega), ⟨fun i => if i < L.length then C i else ⟨xh, ch, xd, cd, none, 0⟩, ?_, fun k hk => Or.inr (Or.inl hk), ?_⟩, ?_, ?_, hA.ns, ?_⟩, ?_, ?_⟩, ?_, hoF⟩, ⟨outB_length _ _, fun hn => ⟨g8, 0, rfl, row9.lt, ⟨by omega, hnFg⟩, fun j hj => by rw [Nat.zero_add]; exact row9.cell (by rw [outB_length] at hj; exact hj)⟩⟩, ⟨Nat.le_refl _, by unfold maxLen; omega, fun e => by cases e⟩⟩
  · rw [List.length_append]
    exact own8
  · intro i hi
    rw [List.length_append] at hi
    by_cases hil : i < L.length
    · have e1 : (L ++ [(⟨key, nn, xs, ys⟩ : Iss)]).getD i default = L.getD i default := by simp [List.getD, List.getElem?_append_left hil]
      rw [e1]
      show RecIn _ _ _ (if i < L.length then C i else (⟨xh, ch, xd, cd, none, 0⟩ : SlC))
      rw [if_pos hil]
      exact ((((hin i hil).eqs (Eqs.of_off hofR (fun k _ hk e => hk.2 e))).eqs (Eqs.of_off hof7 (fun k _ hk e => hA.nl (e ▸ hk.1)))).eqs (Eqs.of_off hofB (fun k _ hk e => by have := hFL k hk.1; omega))).mono (fun k _ hk => ⟨Or.inl hk.1, fun e => by
        rcases hv6 k e with h | h
        · exact hk.2 h.1
        · have := hFL k hk.1
          omega⟩)
    · obtain rfl : i = L.length := by
        simp at hi
        omega
      have e1 : (L ++ [(⟨key, nn, xs, ys⟩ : Iss)]).getD L.length default = ⟨key, nn, xs, ys⟩ := by simp [List.getD]
      rw [e1]
      show RecIn _ _ _ (if L.length < L.length then C L.length else (⟨xh, ch, xd, cd, none, 0⟩ : SlC))
      rw [if_neg (Nat.lt_irrefl _)]
      exact ⟨by rw [hxl]; exact carry sh (fun k hk => (HN.out k).2 (Or.inl hk)), by rw [hxl]; exact ⟨hch, hchm, nilh⟩, bx, by rw [hxl]; exact hnx, by rw [hyl]; exact carry sd (fun k hk => (HN.out k).2 (Or.inr hk)), by rw [hyl]; exact ⟨hcd, hcdm, nild⟩, by_, by rw [hyl]; exact hny⟩
  · exact ((hA.sum.eqs (Eqs.of_off hof6 (fun k _ hk e => hA.ls k e hk))).eqs (Eqs.of_off hof7 (fun k _ hk e => hA.ns (e ▸ hk)))).eqs (Eqs.of_off hofB (fun k _ hk e => by have := hFS k hk; omega))
  · rintro (h | h | h)
    · exact hA.nl h
    · rcases hv6 _ h with h | h
      · exact hA.nl h.2
      · omega
    · have := hNr _ h
      omega
  · rintro k (h | h | h) hk
    · exact hA.ls k h hk
    · rcases hv6 _ h with h | h
      · exact hA.ls k h.2 hk
      · have := hFS k hk
        omega
    · have h1 := hNr _ h
      have h2 := hFS k hk
      omega
  · intro k
    show (F k ∨ (Value.slice y6 (L.length + 1) c6).ownBlock = some k ∨ N k) ↔ (k = b ∨ (FL k ∨ (Value.slice y6 (L.length + 1) c6).ownBlock = some k ∨ N k) ∨ FS k)
    rw [HF.out k]
    constructor
    · rintro ((h | h | h) | h)
      · exact Or.inl h
      · exact Or.inr (Or.inl (Or.inl h))
      · exact Or.inr (Or.inr h)
      · exact Or.inr (Or.inl (Or.inr h))
    · rintro (h | (h | h) | h)
      · exact Or.inl (Or.inl h)
      · exact Or.inl (Or.inr (Or.inl h))
      · exact Or.inr h
      · exact Or.inl (Or.inr (Or.inr h))
  · rintro k (h | h | h)
    · have := hlt0 k h
      omega
    · rcases hv6 k h with h | h
      · have := hFL k h.2
        omega
      · omega
    · have := hNr k h
      omega
  · rintro k (h | h | h)
    · exact Or.inl h
    · rcases hv6 k h with h | h
      · exact Or.inl ((HF.out k).2 (Or.inr (Or.inl h.2)))
      · exact Or.inr (by omega)
    · have := hNr k h
      exact Or.inr (by omega)
end Go.Proofs.Ytkbhkgfchiacbaa
