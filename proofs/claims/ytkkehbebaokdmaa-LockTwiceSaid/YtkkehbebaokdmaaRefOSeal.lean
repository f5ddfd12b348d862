/- What lockboxref7's Seal comes to. -/
import Derived.Test.YtkkehbebaokdmaaM12
import Derived.Test.YtkkehbebaokdmaaM11
namespace Go.Proofs.Ytkkehbebaokdmaa
open Go.RowKit
set_option maxRecDepth 20000

theorem outB_take (i n k : Nat) (hk : k < n) : (outB i n).take (k + 1) = (outB i n).take k ++ [(putL i 8).getD (k % 8) 0] := by
  rw [List.take_succ_eq_append_getElem (by rw [outB_length]; exact hk)]
  simp [outB]

set_option maxHeartbeats 1000000 in
theorem roseal_out (b : Nat) (key : BitVec 64 × BitVec 64) (nn : Nn) (x y : Option Addr) (nx ny c d : Nat) (h : 4000 < nx ∨ 4000 < ny) (w : World) : Calls Try.prog 25 #[.pointer (some ⟨b, 0, none⟩), .agg #[.int .u64 (nv key.1), .int .u64 (nv key.2)], .agg #[.int .u32 (nv32 nn.1), .int .u32 (nv32 nn.2.1), .int .u64 (nv nn.2.2)], .slice x nx c, .slice y ny d] w fun e w' => e = .returned (.tuple #[.agg #[.slice none 0 0, .int .u64 0, .int .u64 0], .bool false]) ∧ Below w.heap.size w w' := by
  by_cases h1 : 4000 < nx
  · clear h
    go_enter Try.func25, Try.ntmps25
    go_wp2
    refine bodyPost_ret (v := .tuple #[.agg #[.slice none 0 0, .int .u64 0, .int .u64 0], .bool false]) (by simp [results, Try.results25, go_sem]) rfl ⟨rfl, by go_grown⟩
  · have h2 : 4000 < ny := by omega
    clear h
    go_enter Try.func25, Try.ntmps25
    go_wp2
    refine bodyPost_ret (v := .tuple #[.agg #[.slice none 0 0, .int .u64 0, .int .u64 0], .bool false]) (by simp [results, Try.results25, go_sem]) rfl ⟨rfl, by go_grown⟩

set_option maxRecDepth 10000 in
set_option maxHeartbeats 4000000 in
theorem roseal8 (F : Nat → Prop) (b : Nat) (L : List Iss) (S : List (List Int)) (key : BitVec 64 × BitVec 64) (nn : Nn) (xs ys : List Int) (x y : Option Addr) (nx ny c d : Nat) (hnx : nx ≤ 4000) (hny : ny ≤ 4000) (hL : L.length ≤ 50000) (bx : Bytes xs) (by_ : Bytes ys) (w : World) (hI : RInv F w b (L, S)) (sx : SIn (fun k => ¬ F k) w x nx xs) (sy : SIn (fun k => ¬ F k) w y ny ys) :
    Calls Try.prog 25 #[.pointer (some ⟨b, 0, none⟩), .agg #[.int .u64 (nv key.1), .int .u64 (nv key.2)], .agg #[.int .u32 (nv32 nn.1), .int .u32 (nv32 nn.2.1), .int .u64 (nv nn.2.2)], .slice x nx c, .slice y ny d] w fun e w' => ∃ z cz F', e = .returned (.tuple #[.agg #[.slice z ny cz, .int .u64 18446744073709551615, .int .u64 ((L.length : Int) + 1)], .bool true]) ∧ RInv F' w' b (L ++ [⟨key, nn, xs, ys⟩], S) ∧ (∀ k, F' k → F k ∨ w.heap.size ≤ k) ∧ Off F w w' ∧ SIn F' w' z ny (outB (L.length + 1) ny) ∧ ny ≤ cz ∧ cz ≤ maxLen ∧ (z = none → ny = 0 ∧ cz = 0) ∧ U8 w w' ∧ Typ8 w.heap.size w' z ny := by
  have hlt0 := hI.lt
  have b0 := ((Box.new w (nv key.1) (nv key.2)).alloc (.cells #[.int .u32 (nv32 nn.1), .int .u32 (nv32 nn.2.1), .int .u64 (nv nn.2.2)] 35)).alloc (.cells #[.slice none 0 0, .int .u64 0, .int .u64 0] 32)
  have bN := (NBox.new (w.alloc (.cells #[.int .u64 (nv key.1), .int .u64 (nv key.2)] 30)) nn).alloc (.cells #[.slice none 0 0, .int .u64 0, .int .u64 0] 32)
  have bR := SBox.new ((w.alloc (.cells #[.int .u64 (nv key.1), .int .u64 (nv key.2)] 30)).alloc (.cells #[.int .u32 (nv32 nn.1), .int .u32 (nv32 nn.2.1), .int .u64 (nv nn.2.2)] 35)) (.slice none 0 0) 0 0
  have hB : Below w.heap.size w (((w.alloc (.cells #[.int .u64 (nv key.1), .int .u64 (nv key.2)] 30)).alloc (.cells #[.int .u32 (nv32 nn.1), .int .u32 (nv32 nn.2.1), .int .u64 (nv nn.2.2)] 35)).alloc (.cells #[.slice none 0 0, .int .u64 0, .int .u64 0] 32)) := by go_grown
  simp only [World.size_alloc] at bN bR
  have hI1 := hI.below hB
  obtain ⟨FL, FS, vL, vS, hA, hF0, -⟩ := hI1
  have HF := hide' hF0
  clear hF0
  obtain ⟨yl, cl, rfl, hcl, -, -⟩ := own_is hA.iss.choose_spec.1
  have k0 := hA.box.c0
  go_enter Try.func25, Try.ntmps25
  go_wp2_with fail
  clear k0
  generalize ((w.alloc (.cells #[.int .u64 (nv key.1), .int .u64 (nv key.2)] 30)).alloc (.cells #[.int .u32 (nv32 nn.1), .int .u32 (nv32 nn.2.1), .int .u64 (nv nn.2.2)] 35)).alloc (.cells #[.slice none 0 0, .int .u64 0, .int .u64 0] 32) = W1 at *
  refine (rput_own (L.length + 1) 8 _ (by decide) (by decide)).mono ?_
  rintro e w1 ⟨v1, rfl, own1, hb⟩
  obtain ⟨x1, c1, rfl, s1⟩ := own_sat (putL_length _ _) own1
  obtain ⟨g1, o1, rfl, hg1, at1⟩ := s1.2 (by decide)
  replace b0 := b0.grown hb
  replace bN := bN.grown hb
  replace bR := bR.grown hb
  replace hA := hA.off (Off.of_below (F := fun _ => False) hb) (fun _ _ _ h => h)
  replace hB := hB.trans (hb.mono hB.size)
  clear hb own1 s1 hI
  have HO := hide' (outB_take (L.length + 1) ny)
  go_wp2_with fail
  go_loopw [14, 15] (fun v i wr => ∃ k : Nat, k ≤ ny ∧ i = .int .i64 (k : Int) ∧ wr.ownsRow w1.heap.size 5 1 v k (((outB (L.length + 1) ny).take k).map (Value.int .u8)) ∧ Below w1.heap.size w1 wr) (fun _ i _ => ny - (intOf i).toNat)
  case atStart => exact ⟨0, Nat.zero_le _, rfl, by simpa using World.ownsRow_nil _ _ _ _, Below.refl _ _⟩
  case round =>
    obtain ⟨k, hk, rfl, own, hb⟩ := hrel
    by_cases hlt : k < ny
    · have hk8 : k % 8 < 8 := Nat.mod_lt _ (by decide)
      have hce := (at1.below hb hg1) (k % 8) (by rw [putL_length]; exact hk8)
      have hi1 : (k : Int) % 8 = ((k % 8 : Nat) : Int) := by omega
      have HK := hide' (HO.out k hlt)
      have hz := hb.size
      obtain ⟨u, HU⟩ : ∃ u, Hid ((putL (L.length + 1) 8).getD (k % 8) 0 = u) := ⟨_, rfl⟩
      rw [HU.out] at hce HK
      obtain ⟨T, HTk⟩ : ∃ T, Hid ((outB (L.length + 1) ny).take k = T) := ⟨_, rfl⟩
      rw [HTk.out] at own HK
      generalize hr8 : k % 8 = r8 at *
      go_wp2_with (at_builtin; refine wpList_app rfl _ _ rfl w1.heap.size _ k _ rfl (own.alloc _) (some ⟨wr.heap.size, 0, none⟩) 1 1 [u] rfl ((At.one wr u).sat (by rw [World.size_alloc]; omega) rfl) (fun e => by cases e) (by omega) (by rw [World.size_alloc]; omega) ?_)
      intro v2 w2 own2 hb2 _
      replace hb := (hb.alloc hz _).trans hb2
      clear hb2 own
      go_wp2
      go_roundw
      case rel => exact ⟨k + 1, hlt, by go_num, by rw [HK.out, List.map_append]; exact own2, hb⟩
      case measure => simp [intOf]; omega
    · obtain rfl : ny = k := by omega
      rw [List.take_of_length_le (by rw [outB_length]; exact Nat.le_refl _)] at own
      obtain ⟨xo, co, rfl, so, hco, hcom, nilo⟩ := own_sin (outB_length _ _) own
      have hot : ∀ q, (Value.slice xo ny co).ownBlock = some q → ∃ cur, wr.heap[q]? = some (.cells cur 5 (0, 0)) := fun q hq => own_type own hq
      have hob : ∀ q, (Value.slice xo ny co).ownBlock = some q → w1.heap.size ≤ q ∧ q < wr.heap.size := fun q hq => by
        obtain ⟨cur, hh⟩ := own_type own hq
        obtain ⟨hl, _⟩ := Array.getElem?_eq_some_iff.1 hh
        exact ⟨own_block own q hq, hl⟩
      have hw1 : w.heap.size + 1 + 1 < w1.heap.size := bR.lt
      replace b0 := b0.grown hb
      replace bN := bN.grown hb
      replace bR := bR.grown hb
      replace hA := hA.off (Off.of_below (F := fun _ => False) hb) (fun _ _ _ h => h)
      replace hB := hB.trans (hb.mono hB.size)
      have hwr := hb.size
      clear hb own at1 hg1 HO
      have bO := SBox.new wr (.slice xo ny co) 18446744073709551615 ((L.length : Int) + 1)
      have hb : Below wr.heap.size wr (wr.alloc (.cells #[.slice xo ny co, .int .u64 18446744073709551615, .int .u64 ((L.length : Int) + 1)] 32)) := (Below.refl _ _).alloc (Nat.le_refl _) _
      replace b0 := b0.grown hb
      replace bN := bN.grown hb
      replace bR := bR.grown hb
      replace hA := hA.off (Off.of_below (F := fun _ => False) hb) (fun _ _ _ h => h)
      replace so := so.off (Off.of_below (F := fun _ => False) hb) (fun _ _ _ h => h)
      replace hot := fun q (hq : (Value.slice xo ny co).ownBlock = some q) => (hot q hq).imp (fun cur h => off_block h (Off.of_below (F := fun _ => False) hb) (fun h => h))
      replace hB := hB.trans (hb.mono hB.size)
      replace sx := sx.off (Off.of_below (F := fun _ => False) hB) (fun _ _ _ h => h)
      replace sy := sy.off (Off.of_below (F := fun _ => False) hB) (fun _ _ _ h => h)
      have hqz := bO.lt
      clear hb
      go_wp2_with fail
      generalize wr.alloc (.cells #[.slice xo ny co, .int .u64 18446744073709551615, .int .u64 ((L.length : Int) + 1)] 32) = wq at *
      generalize wr.heap.size = A at *
      have hFL : ∀ k, FL k → k < w.heap.size := fun k hk => hlt0 k ((HF.out k).2 (Or.inr (Or.inl hk)))
      have hnF : ∀ k, w.heap.size ≤ k → ¬ FL k := fun k hk h => absurd (hFL k h) (Nat.not_lt.2 hk)
      have hA0 : w.heap.size ≤ A := by omega
      refine startX (S := fun w' => Off FL wq w') 19 (by kernel_rfl) (Off.refl _ _).drew (fun hHeld => ?_)
      refine moveX 0 53 0 rfl rfl rfl (by kernel_rfl) (by kernel_rfl) (by kernel_rfl) (fun _ _ _ h => h) (by rfl) (by kernel_rfl) (by decide) hHeld rfl ?_
      simp only [List.set_cons_succ, List.set_cons_zero]
      refine moveX 1 54 0 rfl rfl rfl (by kernel_rfl) (by kernel_rfl) (by kernel_rfl) (fun _ _ _ h => h) (by rfl) (by kernel_rfl) (by decide) hHeld rfl ?_
      simp only [List.set_cons_succ, List.set_cons_zero]
      refine takeX 2 55 (v := ?_) rfl rfl (by kernel_rfl) (by kernel_rfl) (by kernel_rfl) (fun _ _ _ h => h) (by rfl) (by kernel_rfl) (by decide) hHeld (fun w hSw => ?_) ?_
      rotate_left 1
      · (try dsimp only at hSw)
        clear hSw
        go_simp
        try with_reducible rfl
      simp only [List.set_cons_succ, List.set_cons_zero]
      refine takeX 3 56 (v := ?_) rfl rfl (by kernel_rfl) (by kernel_rfl) (by kernel_rfl) (fun _ _ _ h => h) (by rfl) (by kernel_rfl) (by decide) hHeld (fun w hSw => ?_) ?_
      rotate_left 1
      · (try dsimp only at hSw)
        clear hSw
        go_simp
        try with_reducible rfl
      simp only [List.set_cons_succ, List.set_cons_zero]
      refine takeX 4 57 (v := ?_) rfl rfl (by kernel_rfl) (by kernel_rfl) (by kernel_rfl) (fun _ _ _ h => h) (by rfl) (by kernel_rfl) (by decide) hHeld (fun w hSw => ?_) ?_
      rotate_left 1
      · (try dsimp only at hSw)
        have e0_ := (show TBox w b (.slice yl L.length cl) vS from off_block hA.box hSw hA.nl).c0
        clear hSw
        go_simp
        try with_reducible rfl
      simp only [List.set_cons_succ, List.set_cons_zero]
      refine takeX 5 58 (v := ?_) rfl rfl (by kernel_rfl) (by kernel_rfl) (by kernel_rfl) (fun _ _ _ h => h) (by rfl) (by kernel_rfl) (by decide) hHeld (fun w hSw => ?_) ?_
      rotate_left 1
      · (try dsimp only at hSw)
        have hx_ := (show Box w _ (nv key.1) (nv key.2) from off_block b0 hSw (hnF _ (Nat.le_refl _)))
        have e0_ := hx_.c0
        have e1_ := hx_.c1
        clear hx_
        clear hSw
        go_simp
        try with_reducible rfl
      simp only [List.set_cons_succ, List.set_cons_zero]
      refine takeX 6 59 (v := ?_) rfl rfl (by kernel_rfl) (by kernel_rfl) (by kernel_rfl) (fun _ _ _ h => h) (by rfl) (by kernel_rfl) (by decide) hHeld (fun w hSw => ?_) ?_
      rotate_left 1
      · (try dsimp only at hSw)
        have hx_ := (show NBox w _ nn from off_block bN hSw (hnF _ (Nat.le_succ _)))
        have e0_ := hx_.c0
        have e1_ := hx_.c1
        have e2_ := hx_.c2
        clear hx_
        clear hSw
        go_simp
        try with_reducible rfl
      simp only [List.set_cons_succ, List.set_cons_zero]
      refine moveX 8 61 3 rfl rfl rfl (by kernel_rfl) (by kernel_rfl) (by kernel_rfl) (fun _ _ _ h => h) (by rfl) (by kernel_rfl) (by decide) hHeld rfl ?_
      simp only [List.set_cons_succ, List.set_cons_zero]
      refine moveX 11 64 4 rfl rfl rfl (by kernel_rfl) (by kernel_rfl) (by kernel_rfl) (fun _ _ _ h => h) (by rfl) (by kernel_rfl) (by decide) hHeld rfl ?_
      simp only [List.set_cons_succ, List.set_cons_zero]
      refine takeX 13 66 (v := ?_) rfl rfl (by kernel_rfl) (by kernel_rfl) (by kernel_rfl) (fun _ _ _ h => h) (by rfl) (by kernel_rfl) (by decide) hHeld (fun w hSw => ?_) ?_
      rotate_left 1
      · (try dsimp only at hSw)
        have hx_ := (show SBox w A (.slice xo ny co) 18446744073709551615 ((L.length : Int) + 1) from off_block bO hSw (hnF _ hA0))
        have e0_ := hx_.c0
        have e1_ := hx_.c1
        have e2_ := hx_.c2
        clear hx_
        clear hSw
        go_simp
        try with_reducible rfl
      simp only [List.set_cons_succ, List.set_cons_zero]
      refine gridC 7 9 10 12 60 62 63 65 rfl rfl rfl rfl rfl rfl rfl rfl (by kernel_rfl) (by kernel_rfl) (by kernel_rfl) (by kernel_rfl) (by kernel_rfl) (by kernel_rfl) (by decide) (by decide) (by constructor <;> simp)
        (fun v w' => ∃ g, v = .slice (some ⟨g, 0, none⟩) 0 0 ∧ w'.ownsRow wq.heap.size 5 1 v 0 []) (fun v w' => w'.ownsRow wq.heap.size 5 1 v nx (xs.map (Value.int .u8)))
        (fun v w' => ∃ g, v = .slice (some ⟨g, 0, none⟩) 0 0 ∧ w'.ownsRow wq.heap.size 5 1 v 0 []) (fun v w' => w'.ownsRow wq.heap.size 5 1 v ny (ys.map (Value.int .u8)))
        (fun v w w' h hb => by obtain ⟨g, e, ho⟩ := h; exact ⟨g, e, own_grown ho hb⟩) (fun v w w' h hb => own_grown h hb) (fun v w w' h hb => by obtain ⟨g, e, ho⟩ := h; exact ⟨g, e, own_grown ho hb⟩)
        (fun w' h => Off.of_below (below_drew h)) ?_ ?_ ?_ ?_ ?_
      · intro t' w' K hI' hK
        refine wp_lit0L (k := 60) rfl rfl ?_
        exact hK _ _ ((Below.refl _ _).alloc (Nat.le_refl _) _) ⟨_, rfl, World.ownsRow_lit (base := wq.heap.size) (e := 5) (size := 1) w' #[] 0 hI'.2.size (by decide) rfl⟩
      · rintro t' w' K ⟨hbut, hbw, v1, hv1, g, rfl, own⟩ hK
        refine wp_app0B (.tmp 60) (.tmp 61) rfl wq.heap.size g (eval_slot hv1) own x nx c xs (eval_slot ((hbut.2 61 (by decide) (by decide) (by decide) (by decide)).trans rfl)) (sx.off (Off.of_below (F := fun _ => False) (below_drew hbw)) (fun _ _ _ h => h)).sat (by omega) hbw.size (fun k c' w'' ow hb _ => ?_)
        rw [put_slot (k := 62) rfl]
        exact hK _ _ hb ow
      · intro t' w' K hI' hK
        refine wp_lit0L (k := 63) rfl rfl ?_
        exact hK _ _ ((Below.refl _ _).alloc (Nat.le_refl _) _) ⟨_, rfl, World.ownsRow_lit (base := wq.heap.size) (e := 5) (size := 1) w' #[] 0 hI'.2.size (by decide) rfl⟩
      · rintro t' w' K ⟨hbut, hbw, v1, hv1, g, rfl, own⟩ hK
        refine wp_app0B (.tmp 63) (.tmp 64) rfl wq.heap.size g (eval_slot hv1) own y ny d ys (eval_slot ((hbut.2 64 (by decide) (by decide) (by decide) (by decide)).trans rfl)) (sy.off (Off.of_below (F := fun _ => False) (below_drew hbw)) (fun _ _ _ h => h)).sat (by omega) hbw.size (fun k c' w'' ow hb _ => ?_)
        rw [put_slot (k := 65) rfl]
        exact hK _ _ hb ow
      intro v1 v2 u1 u2 w4 hb4 ow2 ow3
      replace hb4 := below_drew hb4
      have hxl := sx.1
      have hyl := sy.1
      have hh2 : ∀ q, v2.ownBlock = some q → wq.heap.size ≤ q ∧ q < w4.heap.size := fun q hq => by
        obtain ⟨cur, hh⟩ := own_type ow2 hq
        obtain ⟨hl, _⟩ := Array.getElem?_eq_some_iff.1 hh
        exact ⟨own_block ow2 q hq, hl⟩
      have hh3 : ∀ q, u2.ownBlock = some q → wq.heap.size ≤ q ∧ q < w4.heap.size := fun q hq => by
        obtain ⟨cur, hh⟩ := own_type ow3 hq
        obtain ⟨hl, _⟩ := Array.getElem?_eq_some_iff.1 hh
        exact ⟨own_block ow3 q hq, hl⟩
      obtain ⟨xh, ch, rfl, sh, hch, hchm, nilh⟩ := own_sin hxl ow2
      obtain ⟨xd, cd, rfl, sd, hcd, hcdm, nild⟩ := own_sin hyl ow3
      replace bR := bR.grown hb4
      replace bO := bO.grown hb4
      replace hA := hA.off (Off.of_below (F := fun _ => False) hb4) (fun _ _ _ h => h)
      replace so := so.off (Off.of_below (F := fun _ => False) hb4) (fun _ _ _ h => h)
      replace hB := hB.trans (hb4.mono hB.size)
      have hz4 := hb4.size
      have hHd : Off FL wq w4 := Off.of_below hb4
      clear b0 bN sx sy ow2 ow3 hb4 hHeld
      simp only [List.set_cons_succ, List.set_cons_zero]
      refine onlyX 14 rfl (by kernel_rfl) (by rfl) (fun K hK => ?_)
      go_wp2
      refine hK.out _ _ (fun _ => hHd) (fun _ => ?_)
      clear hK K
      refine onlyX 15 rfl (by kernel_rfl) (by rfl) (fun K hK => ?_)
      go_wp2
      have hb : Below w4.heap.size w4 (w4.alloc (.cells #[.int .u64 (nv key.1), .int .u64 (nv key.2), .int .u32 (nv32 nn.1), .int .u32 (nv32 nn.2.1), .int .u64 (nv nn.2.2), .slice xh nx ch, .slice xd ny cd, .slice xo ny co, .int .u64 18446744073709551615, .int .u64 ((L.length : Int) + 1)] 65)) := (Below.refl _ _).alloc (Nat.le_refl _) _
      have hof5 : Off FL wq (w4.alloc (.cells #[.int .u64 (nv key.1), .int .u64 (nv key.2), .int .u32 (nv32 nn.1), .int .u32 (nv32 nn.2.1), .int .u64 (nv nn.2.2), .slice xh nx ch, .slice xd ny cd, .slice xo ny co, .int .u64 18446744073709551615, .int .u64 ((L.length : Int) + 1)] 65)) := hHd.alloc _
      refine hK.out _ _ (fun _ => hof5) (fun _ => ?_)
      clear hK K hHd
      replace bR := bR.grown hb
      replace bO := bO.grown hb
      replace hA := hA.off (Off.of_below (F := fun _ => False) hb) (fun _ _ _ h => h)
      replace so := so.off (Off.of_below (F := fun _ => False) hb) (fun _ _ _ h => h)
      replace sh := sh.off (Off.of_below (F := fun _ => False) hb) (fun _ _ _ h => h)
      replace sd := sd.off (Off.of_below (F := fun _ => False) hb) (fun _ _ _ h => h)
      replace hB := hB.trans (hb.mono hB.size)
      have hz5 := hb.size
      have hnew : ∀ j u, ([.int .u64 (nv key.1), .int .u64 (nv key.2), .int .u32 (nv32 nn.1), .int .u32 (nv32 nn.2.1), .int .u64 (nv nn.2.2), .slice xh nx ch, .slice xd ny cd, .slice xo ny co, .int .u64 18446744073709551615, .int .u64 ((L.length : Int) + 1)] : List Value)[j]? = some u → (w4.alloc (.cells #[.int .u64 (nv key.1), .int .u64 (nv key.2), .int .u32 (nv32 nn.1), .int .u32 (nv32 nn.2.1), .int .u64 (nv nn.2.2), .slice xh nx ch, .slice xd ny cd, .slice xo ny co, .int .u64 18446744073709551615, .int .u64 ((L.length : Int) + 1)] 65)).cell? ((⟨w4.heap.size, 0, none⟩ : Addr).add j) = some u := fun j u hj => by
        rw [add_plain', Nat.zero_add, World.cell?_alloc_mark]
        simpa using hj
      clear hb
      generalize w4.alloc (.cells #[.int .u64 (nv key.1), .int .u64 (nv key.2), .int .u32 (nv32 nn.1), .int .u32 (nv32 nn.2.1), .int .u64 (nv nn.2.2), .slice xh nx ch, .slice xd ny cd, .slice xo ny co, .int .u64 18446744073709551615, .int .u64 ((L.length : Int) + 1)] 65) = w5 at *
      obtain ⟨C, ownL, hLb, hin⟩ := hA.iss
      obtain ⟨i0, hi, hz0, hz1, hz2⟩ := info_parts Try.issInfo
      refine onlyX 16 rfl (by kernel_rfl) (by rfl) (fun K hK => ?_)
      refine wp_append_at (.tmp 57) (.tmp 68) 46 rfl 0 65 i0 _ 10 120 Try.underlying46 hi hz0 hz1 hz2 rfl (by decide) (.slice yl L.length cl) L.length _ rfl ownL ⟨w4.heap.size, 0, none⟩ 1 1 [.int .u64 (nv key.1), .int .u64 (nv key.2), .int .u32 (nv32 nn.1), .int .u32 (nv32 nn.2.1), .int .u64 (nv nn.2.2), .slice xh nx ch, .slice xd ny cd, .slice xo ny co, .int .u64 18446744073709551615, .int .u64 ((L.length : Int) + 1)] rfl rfl hnew (fun u hu => ?_) (by unfold maxLen; omega) (by omega) (Nat.zero_le _) ?_
      · simp only [List.mem_cons, List.not_mem_nil, or_false] at hu
        rcases hu with rfl | rfl | rfl | rfl | rfl | rfl | rfl | rfl | rfl | rfl <;> rfl
      intro v6 w6 own6 hg6 hwh
      obtain ⟨y6, c6, rfl, hc6, hm6, nil6⟩ := own_is own6
      have hofR : Off (fun k => (Value.slice yl L.length cl).ownBlock = some k) w5 w6 := (Off.refl _ _).grown hg6 (fun k hk => Or.inl hk)
      have hof6 : Off FL w5 w6 := hofR.mono (fun k hk => Or.inl (hLb k hk))
      have hofS : Off FL wq w6 := hof5.trans hof6 (fun k hk => Or.inl hk)
      refine hK.out _ _ (fun _ => hofS) (fun _ => ?_)
      clear hK K hnew
      simp only [Act.put, List.setIfInBounds_toArray]
      refine onlyX 17 rfl (by kernel_rfl) (by rfl) (fun K hK => ?_)
      go_wp2
      refine hK.out _ _ (fun _ => hofS) (fun _ => ?_)
      clear hK K
      refine onlyX 18 rfl (by kernel_rfl) (by rfl) (fun K hK => ?_)
      go_wp2
      refine hK.out _ _ (fun _ => hofS) (fun _ => ?_)
      clear hK K
      have hT6 : TBox w6 b (.slice yl L.length cl) vS := off_block hA.box hof6 hA.nl
      have k0 := hT6.c0
      have k1 := hT6.frozen 0
      refine onlyX 19 rfl (by kernel_rfl) (by rfl) (fun K hK => ?_)
      go_wp2_with fail
      clear k0 k1
      refine hK.out _ _ (fun h => absurd rfl h) (fun _ => ?_)
      clear hK K
      refine doneX (by kernel_rfl) ?_ _
      have hT7 := hT6.put0 (.slice y6 (L.length + 1) c6)
      have hof7 : Off (fun k => k = b) w6 (w6.setCell ⟨b, 0, none⟩ (.slice y6 (L.length + 1) c6)) := (Off.refl (fun k => k = b) w6).setCell (p := ⟨b, 0, none⟩) (Or.inl rfl) _
      have hbl : b < w.heap.size := hlt0 b ((HF.out b).2 (Or.inl rfl))
      have bO7 : SBox _ A (.slice xo ny co) 18446744073709551615 ((L.length : Int) + 1) := off_block (off_block bO hof6 (hnF _ hA0)) hof7 (fun e => by omega)
      have bR7 : SBox _ (w.heap.size + 1 + 1) (.slice none 0 0) 0 0 := off_block (off_block bR hof6 (hnF _ (by omega))) hof7 (fun e => by omega)
      generalize w6.setCell ⟨b, 0, none⟩ (.slice y6 (L.length + 1) c6) = w7 at *
      have k0 := bO7.c0
      have k1 := bO7.c1
      have k2 := bO7.c2
      have k3 := bR7.c0
      have k4 := bR7.c1
      have k5 := bR7.c2
      have k6 := bR7.frozen 0
      have k7 := bR7.frozen 1
      have k8 := bR7.frozen 2
      go_wp2
      have bR8 := bR7.put3 (.slice xo ny co) 18446744073709551615 ((L.length : Int) + 1)
      have r0 := bR8.c0
      have r1 := bR8.c1
      have r2 := bR8.c2
      have hof8 : Off (fun k => k = w.heap.size + 1 + 1) w7 (((w7.setCell ⟨w.heap.size + 1 + 1, 0, none⟩ (.slice xo ny co)).setCell ⟨w.heap.size + 1 + 1, 1, none⟩ (.int .u64 18446744073709551615)).setCell ⟨w.heap.size + 1 + 1, 2, none⟩ (.int .u64 ((L.length : Int) + 1))) := (((Off.refl (fun k => k = w.heap.size + 1 + 1) w7).setCell (p := ⟨w.heap.size + 1 + 1, 0, none⟩) (Or.inl rfl) _).setCell (p := ⟨w.heap.size + 1 + 1, 1, none⟩) (Or.inl rfl) _).setCell (p := ⟨w.heap.size + 1 + 1, 2, none⟩) (Or.inl rfl) _
      generalize ((w7.setCell ⟨w.heap.size + 1 + 1, 0, none⟩ (.slice xo ny co)).setCell ⟨w.heap.size + 1 + 1, 1, none⟩ (.int .u64 18446744073709551615)).setCell ⟨w.heap.size + 1 + 1, 2, none⟩ (.int .u64 ((L.length : Int) + 1)) = w8 at *
      clear bR7 bO7 k0 k1 k2 k3 k4 k5 k6 k7 k8
      obtain ⟨N, HN⟩ : ∃ N : Nat → Prop, Hid (∀ k, N k ↔ (Value.slice xh nx ch).ownBlock = some k ∨ (Value.slice xd ny cd).ownBlock = some k ∨ (Value.slice xo ny co).ownBlock = some k) := ⟨_, hide' (fun _ => Iff.rfl)⟩
      have hNr : ∀ k, N k → w.heap.size + 1 + 1 < k ∧ k < w5.heap.size := fun k hk => by
        rcases (HN.out k).1 hk with h | h | h
        · have := hh2 k h
          omega
        · have := hh3 k h
          omega
        · have := hob k h
          omega
      have hFS : ∀ k, FS k → k < w.heap.size := fun k hk => hlt0 k ((HF.out k).2 (Or.inr (Or.inr hk)))
      have hv6 : ∀ k, (Value.slice y6 (L.length + 1) c6).ownBlock = some k → ((Value.slice yl L.length cl).ownBlock = some k ∧ FL k) ∨ w5.heap.size ≤ k := fun k hk => (hwh k hk).imp (fun h => ⟨h, hLb k h⟩) id
      have hw5 : w.heap.size + 1 + 1 < w5.heap.size := by omega
      have carry : ∀ {x : Option Addr} {l : Nat} {zs : List Int} {G : Nat → Prop}, SIn G w5 x l zs → (∀ k, G k → N k) → SIn (fun k => (FL k ∨ (Value.slice y6 (L.length + 1) c6).ownBlock = some k ∨ N k) ∧ (Value.slice y6 (L.length + 1) c6).ownBlock ≠ some k) w8 x l zs := fun {x l zs G} h hG =>
        (((h.off hofR (fun k _ hk e => by have h1 := hNr k (hG k hk); have h2 := hFL k (hLb k e); omega)).off hof7 (fun k _ hk e => by have h1 := hNr k (hG k hk); omega)).off hof8 (fun k _ hk e => by have h1 := hNr k (hG k hk); omega)).mono (fun k _ hk => ⟨Or.inr (Or.inr (hG k hk)), fun e => by
          have h1 := hNr k (hG k hk)
          rcases hv6 k e with h | h
          · have := hFL k h.2
            omega
          · omega⟩)
      have own8 := own_off (own_off own6 hof7 (fun k hk e => by
        rcases hv6 k hk with h | h
        · exact hA.nl (e ▸ h.2)
        · omega)) hof8 (fun k hk e => by
        rcases hv6 k hk with h | h
        · have := hFL k h.2
          omega
        · omega)
      have hfl : flatG (fun i => issC ((L ++ [(⟨key, nn, xs, ys⟩ : Iss)]).getD i default) (if i < L.length then C i else (⟨xh, ch, xd, cd, xo, co⟩ : SlC)) i) (L.length + 1) = flatG (fun i => issC (L.getD i default) (C i) i) L.length ++ [.int .u64 (nv key.1), .int .u64 (nv key.2), .int .u32 (nv32 nn.1), .int .u32 (nv32 nn.2.1), .int .u64 (nv nn.2.2), .slice xh nx ch, .slice xd ny cd, .slice xo ny co, .int .u64 18446744073709551615, .int .u64 ((L.length : Int) + 1)] := by
        rw [flatG, flatG_congr L.length (g := fun i => issC (L.getD i default) (C i) i) (fun i hi => by simp [hi, List.getD, List.getElem?_append_left hi])]
        congr 1
        simp [issC, hxl, hyl, List.getD]
      rw [← hfl] at own8
      have hz8 : w.heap.size ≤ w8.heap.size := by
        have h1 := hof6.size
        have h2 := hof7.size
        have h3 := hof8.size
        omega
      have hoF : Off F w w8 := (((Off.of_below (F := F) (hB.mono (Nat.le_refl _))).trans hof6 (fun k hk => Or.inl ((HF.out k).2 (Or.inr (Or.inl hk))))).trans hof7 (fun k hk => Or.inl ((HF.out k).2 (Or.inl hk)))).trans hof8 (fun k hk => Or.inr (by omega))
      have hot8 : ∀ q, (Value.slice xo ny co).ownBlock = some q → ∃ cur, w8.heap[q]? = some (.cells cur 5 (0, 0)) := fun q hq => (hot q hq).imp (fun cur h => off_block (off_block (off_block h hofS (hnF q (by have := hob q hq; omega))) hof7 (fun e => by have := hob q hq; omega)) hof8 (fun e => by have := hob q hq; omega))
      have hU8 : U8 w w8 := fun k cur fr h => by
        have hk : k < w.heap.size := (Array.getElem?_eq_some_iff.1 h).1
        have h5 : w5.heap[k]? = some (.cells cur 5 fr) := (hB.block k hk).trans h
        have n1 : (Value.slice yl L.length cl).ownBlock ≠ some k := fun e => by
          obtain ⟨cu, h'⟩ := own_type ownL e
          rw [h5] at h'
          simp at h'
        have n2 : k ≠ b := fun e => by
          have h' := hA.box
          unfold TBox at h'
          rw [← e, h5] at h'
          simp at h'
        exact off_block (off_block (off_block h5 hofR n1) hof7 n2) hof8 (fun e => by omega)
      have hTy : Typ8 w.heap.size w8 xo ny := fun hn => by
        obtain ⟨g, o, e, _, hg, _⟩ := so.2 hn
        obtain ⟨cur, hc⟩ := hot8 g hg
        exact ⟨g, o, cur, _, e, by have := hob g hg; omega, hc⟩
      refine bodyPost_ret (v := .tuple #[.agg #[.slice xo ny co, .int .u64 18446744073709551615, .int .u64 ((L.length : Int) + 1)], .bool true]) (by simp [results, Try.results25, go_sem, r0, r1, r2]) rfl
        ⟨xo, co, fun k => F k ∨ (Value.slice y6 (L.length + 1) c6).ownBlock = some k ∨ N k, rfl, ⟨fun k => FL k ∨ (Value.slice y6 (L.length + 1) c6).ownBlock = some k ∨ N k, FS, _, vS, ⟨off_block hT7 hof8 (fun e => by omega), ⟨fun i => if i < L.length then C i else ⟨xh, ch, xd, cd, xo, co⟩, ?_, fun k hk => Or.inr (Or.inl hk), ?_⟩, ((hA.sum.off hof6 (fun k _ hk e => hA.ls k e hk)).off hof7 (fun k _ hk e => hA.ns (e ▸ hk))).off hof8 (fun k _ hk e => by have := hFS k hk; omega), ?_, hA.ns, ?_⟩, ?_, ?_⟩, ?_, hoF, ?_, hco, hcom, nilo, hU8, hTy⟩
      · rw [List.length_append]
        exact own8
      · intro i hi
        rw [List.length_append] at hi
        by_cases hil : i < L.length
        · have e1 : (L ++ [(⟨key, nn, xs, ys⟩ : Iss)]).getD i default = L.getD i default := by simp [List.getD, List.getElem?_append_left hil]
          rw [e1]
          show IssIn _ _ _ (if i < L.length then C i else (⟨xh, ch, xd, cd, xo, co⟩ : SlC)) i
          rw [if_pos hil]
          exact ((((hin i hil).off hofR (fun k _ hk e => hk.2 e)).off hof7 (fun k _ hk e => hA.nl (e ▸ hk.1))).off hof8 (fun k _ hk e => by have := hFL k hk.1; omega)).mono (fun k _ hk => ⟨Or.inl hk.1, fun e => by
            rcases hv6 k e with h | h
            · exact hk.2 h.1
            · have := hFL k hk.1
              omega⟩)
        · obtain rfl : i = L.length := by
            simp at hi
            omega
          have e1 : (L ++ [(⟨key, nn, xs, ys⟩ : Iss)]).getD L.length default = ⟨key, nn, xs, ys⟩ := by simp [List.getD]
          rw [e1]
          show IssIn _ _ _ (if L.length < L.length then C L.length else (⟨xh, ch, xd, cd, xo, co⟩ : SlC)) L.length
          rw [if_neg (Nat.lt_irrefl _)]
          exact ⟨by rw [hxl]; exact carry sh (fun k hk => (HN.out k).2 (Or.inl hk)), by rw [hxl]; exact ⟨hch, hchm, nilh⟩, bx, by rw [hyl]; exact carry sd (fun k hk => (HN.out k).2 (Or.inr (Or.inl hk))), by rw [hyl]; exact ⟨hcd, hcdm, nild⟩, by_, by rw [hyl]; exact carry so (fun k hk => (HN.out k).2 (Or.inr (Or.inr hk))), by rw [hyl]; exact ⟨hco, hcom, nilo⟩⟩
      · rintro (h | h | h)
        · exact hA.nl h
        · rcases hv6 _ h with h | h
          · exact hA.nl h.2
          · omega
        · have := hNr _ h
          omega
      · rintro k (h | h | h) hk
        · exact hA.ls k h hk
        · rcases hv6 _ h with h | h
          · exact hA.ls k h.2 hk
          · have := hFS k hk
            omega
        · have h1 := hNr _ h
          have h2 := hFS k hk
          omega
      · intro k
        show (F k ∨ (Value.slice y6 (L.length + 1) c6).ownBlock = some k ∨ N k) ↔ (k = b ∨ (FL k ∨ (Value.slice y6 (L.length + 1) c6).ownBlock = some k ∨ N k) ∨ FS k)
        rw [HF.out k]
        constructor
        · rintro ((h | h | h) | h)
          · exact Or.inl h
          · exact Or.inr (Or.inl (Or.inl h))
          · exact Or.inr (Or.inr h)
          · exact Or.inr (Or.inl (Or.inr h))
        · rintro (h | (h | h) | h)
          · exact Or.inl (Or.inl h)
          · exact Or.inl (Or.inr (Or.inl h))
          · exact Or.inr h
          · exact Or.inl (Or.inr (Or.inr h))
      · have h1 := hof6.size
        have h2 := hof7.size
        have h3 := hof8.size
        rintro k (h | h | h)
        · have := hlt0 k h
          omega
        · obtain ⟨cur, hh⟩ := own_type own8 h
          obtain ⟨hl, _⟩ := Array.getElem?_eq_some_iff.1 hh
          exact hl
        · have := hNr k h
          omega
      · rintro k (h | h | h)
        · exact Or.inl h
        · rcases hv6 k h with h | h
          · exact Or.inl ((HF.out k).2 (Or.inr (Or.inl h.2)))
          · exact Or.inr (by omega)
        · have := hNr k h
          exact Or.inr (by omega)
      · exact (carry so (fun k hk => (HN.out k).2 (Or.inr (Or.inr hk)))).mono (fun k _ hk => hk.1.imp (fun h => (HF.out k).2 (Or.inr (Or.inl h))) id)
theorem roseal (F : Nat → Prop) (b : Nat) (L : List Iss) (S : List (List Int)) (key : BitVec 64 × BitVec 64) (nn : Nn) (xs ys : List Int) (x y : Option Addr) (nx ny c d : Nat) (hnx : nx ≤ 4000) (hny : ny ≤ 4000) (hL : L.length ≤ 50000) (bx : Bytes xs) (by_ : Bytes ys) (w : World) (hI : RInv F w b (L, S)) (sx : SIn (fun k => ¬ F k) w x nx xs) (sy : SIn (fun k => ¬ F k) w y ny ys) :
    Calls Try.prog 25 #[.pointer (some ⟨b, 0, none⟩), .agg #[.int .u64 (nv key.1), .int .u64 (nv key.2)], .agg #[.int .u32 (nv32 nn.1), .int .u32 (nv32 nn.2.1), .int .u64 (nv nn.2.2)], .slice x nx c, .slice y ny d] w fun e w' => ∃ z cz F', e = .returned (.tuple #[.agg #[.slice z ny cz, .int .u64 18446744073709551615, .int .u64 ((L.length : Int) + 1)], .bool true]) ∧ RInv F' w' b (L ++ [⟨key, nn, xs, ys⟩], S) ∧ (∀ k, F' k → F k ∨ w.heap.size ≤ k) ∧ Off F w w' ∧ SIn F' w' z ny (outB (L.length + 1) ny) ∧ ny ≤ cz ∧ cz ≤ maxLen ∧ (z = none → ny = 0 ∧ cz = 0) :=
  (roseal8 F b L S key nn xs ys x y nx ny c d hnx hny hL bx by_ w hI sx sy).mono (fun _ _ ⟨z, cz, F', h1, h2, h3, h4, h5, h6, h7, h8, _⟩ => ⟨z, cz, F', h1, h2, h3, h4, h5, h6, h7, h8⟩)
end Go.Proofs.Ytkkehbebaokdmaa
