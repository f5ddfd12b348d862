/- The document's records: Put, Get. -/
import Derived.Test.YtnimhlkoikjomaaRefRtG
import Derived.Test.YtnimhlkoikjomaaBoxN
namespace Go.Proofs.Ytnimhlkoikjomaa
open Go.RowKit
set_option maxRecDepth 20000

set_option maxHeartbeats 4000000 in
theorem rrec (ep : BitVec 32) (ve t1 t2 : BitVec 64) (x : Option Addr) (c : Nat) (ys : List Int) (fx : Fit x 32 c) (wr : World) (sx : SAt wr x 32 ys) : Calls Try.prog 13 #[nnv (ep, 65535#32, ve), sev x 32 c (t1, t2)] wr fun e w' => ∃ v, e = .returned (.tuple #[v, .bool true]) ∧ w'.ownsRow wr.heap.size 5 1 v 60 ((rcL (ep, 65535#32, ve) ys (t1, t2)).map (Value.int .u8)) ∧ Below wr.heap.size wr w' := by
  have hp : IntKind.u64.wrap (nv32 ep) = nv32 ep := by
    have := nv32_range ep
    rw [IntKind.wrap_u64]
    omega
  have HF := hide' fx
  clear fx
  have h6 : nv32 65535#32 = 65535 := rfl
  unfold nnv sev rcL
  dsimp only
  simp only [h6]
  have hb0 : Below wr.heap.size wr (wr.alloc (.cells #[.int .u32 (nv32 ep), .int .u32 65535, .int .u64 (nv ve)] 37)) := (Below.refl _ _).alloc (Nat.le_refl _) _
  have hb1 : Below (wr.alloc (.cells #[.int .u32 (nv32 ep), .int .u32 65535, .int .u64 (nv ve)] 37)).heap.size (wr.alloc (.cells #[.int .u32 (nv32 ep), .int .u32 65535, .int .u64 (nv ve)] 37)) ((wr.alloc (.cells #[.int .u32 (nv32 ep), .int .u32 65535, .int .u64 (nv ve)] 37)).alloc (.cells #[.slice x 32 c, .int .u64 (nv t1), .int .u64 (nv t2)] 39)) := (Below.refl _ _).alloc (Nat.le_refl _) _
  have hB : Below wr.heap.size wr ((wr.alloc (.cells #[.int .u32 (nv32 ep), .int .u32 65535, .int .u64 (nv ve)] 37)).alloc (.cells #[.slice x 32 c, .int .u64 (nv t1), .int .u64 (nv t2)] 39)) := hb0.trans (hb1.mono hb0.size)
  have bn : CBox 37 ((wr.alloc (.cells #[.int .u32 (nv32 ep), .int .u32 65535, .int .u64 (nv ve)] 37)).alloc (.cells #[.slice x 32 c, .int .u64 (nv t1), .int .u64 (nv t2)] 39)) wr.heap.size #[.int .u32 (nv32 ep), .int .u32 65535, .int .u64 (nv ve)] := CBox.grown (CBox.new 37 wr #[.int .u32 (nv32 ep), .int .u32 65535, .int .u64 (nv ve)]) hb1
  have bs : CBox 39 ((wr.alloc (.cells #[.int .u32 (nv32 ep), .int .u32 65535, .int .u64 (nv ve)] 37)).alloc (.cells #[.slice x 32 c, .int .u64 (nv t1), .int .u64 (nv t2)] 39)) (wr.heap.size + 1) #[.slice x 32 c, .int .u64 (nv t1), .int .u64 (nv t2)] := by
    have := CBox.new 39 (wr.alloc (.cells #[.int .u32 (nv32 ep), .int .u32 65535, .int .u64 (nv ve)] 37)) #[.slice x 32 c, .int .u64 (nv t1), .int .u64 (nv t2)]
    rw [World.size_alloc] at this
    exact this
  have sx2 := sx.below hB
  have k0 : ((wr.alloc (.cells #[.int .u32 (nv32 ep), .int .u32 65535, .int .u64 (nv ve)] 37)).alloc (.cells #[.slice x 32 c, .int .u64 (nv t1), .int .u64 (nv t2)] 39)).cell? ⟨wr.heap.size + 1, 0, none⟩ = some (.slice x 32 c) := bs.cell 0
  have k1 : ((wr.alloc (.cells #[.int .u32 (nv32 ep), .int .u32 65535, .int .u64 (nv ve)] 37)).alloc (.cells #[.slice x 32 c, .int .u64 (nv t1), .int .u64 (nv t2)] 39)).cell? ⟨wr.heap.size, 1, none⟩ = some (.int .u32 65535) := bn.cell 1
  clear hb0 hb1 sx
  go_enter Try.func13, Try.ntmps13
  go_wp2_with fail
  clear k0 k1
  generalize ((wr.alloc (.cells #[.int .u32 (nv32 ep), .int .u32 65535, .int .u64 (nv ve)] 37)).alloc (.cells #[.slice x 32 c, .int .u64 (nv t1), .int .u64 (nv t2)] 39)) = W at *
  have hl0 := bn.lt
  have hl1 := bs.lt
  refine startX (S := fun w' => Below W.heap.size W w') 8 (by kernel_rfl) (Below.refl _ _).drew (fun hHeld => ?_)
  refine takeY 0 16 (v := ?_) rfl rfl (by kernel_rfl) (by kernel_rfl) (by kernel_rfl) (fun _ _ _ h => h) (by rfl) (by kernel_rfl) (by kernel_rfl) (by decide) hHeld (fun w hSw => ?_) ?_
  rotate_left 1
  · (try dsimp only at hSw)
    clear hSw
    go_simp
    try with_reducible rfl
  simp only [List.set_cons_succ, List.set_cons_zero]
  refine takeY 1 17 (v := ?_) rfl rfl (by kernel_rfl) (by kernel_rfl) (by kernel_rfl) (fun _ _ _ h => h) (by rfl) (by kernel_rfl) (by kernel_rfl) (by decide) hHeld (fun w hSw => ?_) ?_
  rotate_left 1
  · (try dsimp only at hSw)
    have e0_ : w.cell? ⟨wr.heap.size, 0, none⟩ = some (.int .u32 (nv32 ep)) := (bn.grown hSw).cell 0
    clear hSw
    go_simp
    try with_reducible rfl
  simp only [List.set_cons_succ, List.set_cons_zero]
  refine takeY 2 18 (v := ?_) rfl rfl (by kernel_rfl) (by kernel_rfl) (by kernel_rfl) (fun _ _ _ h => h) (by rfl) (by kernel_rfl) (by kernel_rfl) (by decide) hHeld (fun w hSw => ?_) ?_
  rotate_left 1
  · (try dsimp only at hSw)
    have e0_ := hp
    clear hSw
    go_simp
    try with_reducible rfl
  simp only [List.set_cons_succ, List.set_cons_zero]
  refine takeY 4 20 (v := ?_) rfl rfl (by kernel_rfl) (by kernel_rfl) (by kernel_rfl) (fun _ _ _ h => h) (by rfl) (by kernel_rfl) (by kernel_rfl) (by decide) hHeld (fun w hSw => ?_) ?_
  rotate_left 1
  · (try dsimp only at hSw)
    clear hSw
    go_simp
    try with_reducible rfl
  simp only [List.set_cons_succ, List.set_cons_zero]
  refine takeY 5 21 (v := ?_) rfl rfl (by kernel_rfl) (by kernel_rfl) (by kernel_rfl) (fun _ _ _ h => h) (by rfl) (by kernel_rfl) (by kernel_rfl) (by decide) hHeld (fun w hSw => ?_) ?_
  rotate_left 1
  · (try dsimp only at hSw)
    have e0_ : w.cell? ⟨wr.heap.size, 2, none⟩ = some (.int .u64 (nv ve)) := (bn.grown hSw).cell 2
    clear hSw
    go_simp
    try with_reducible rfl
  simp only [List.set_cons_succ, List.set_cons_zero]
  refine onlyX 3 rfl (by kernel_rfl) (by rfl) (fun K hK => ?_)
  go_wp2_with fail
  refine (rput_own ep.toNat 4 _ (by decide) (by decide)).mono ?_
  rintro e w1 ⟨v1, rfl, own1, hb1⟩
  have hW1 : Below W.heap.size W w1 := (Below.refl _ _).drew.trans hb1
  replace own1 : w1.ownsRow W.heap.size 5 1 v1 4 ((putL ep.toNat 4).map (Value.int .u8)) := own1
  refine hK.out _ _ (fun _ => hW1) (fun _ => ?_)
  clear hK K hHeld hb1
  refine onlyX 6 rfl (by kernel_rfl) (by rfl) (fun K hK => ?_)
  go_wp2_with fail
  refine (rput_in ve.toNat 8 (by decide) (by decide) _).mono ?_
  rintro e w2 ⟨x2, c2, rfl, s2, f2, hb2⟩
  have hW2 := hW1.trans (hb2.mono hW1.size)
  replace own1 := own_grown own1 hb2
  refine hK.out _ _ (fun _ => hW2) (fun _ => ?_)
  clear hK K hb2
  refine onlyX 7 rfl (by kernel_rfl) (by rfl) (fun K hK => ?_)
  refine wp_app (.tmp 19) (.tmp 22) rfl W.heap.size v1 4 (putL ep.toNat 4) rfl own1 x2 8 c2 (putL ve.toNat 8) rfl s2 f2.2.2 (by decide) hW2.size ?_
  intro v3 w3 own3 hb3 _
  have hW3 : Below W.heap.size W w3 := hW2.grown hb3 hW2.size (own_block own1)
  refine hK.out _ _ (fun _ => hW3) (fun _ => ?_)
  clear hK K own1 s2 hb3
  refine onlyX 8 rfl (by kernel_rfl) (by rfl) (fun K hK => ?_)
  go_wp2
  refine hK.out _ _ (fun h => absurd rfl h) (fun _ => ?_)
  clear hK K
  refine doneX (by kernel_rfl) ?_ _
  replace bs := bs.grown hW3
  replace sx2 := sx2.below hW3
  have OWN3 := hide' own3
  obtain ⟨y3, d3, rfl, -, -, -⟩ := own_is own3
  clear own3
  go_wp2_with fail
  refine startX (S := fun w' => Below W.heap.size w3 w') 9 (by kernel_rfl) (Below.refl _ _).drew (fun hHeld => ?_)
  refine moveY 0 24 6 rfl rfl rfl (by kernel_rfl) (by kernel_rfl) (by kernel_rfl) (fun _ _ _ h => h) (by rfl) (by kernel_rfl) (by kernel_rfl) (by decide) hHeld rfl ?_
  simp only [List.set_cons_succ, List.set_cons_zero]
  refine takeY 1 25 (v := ?_) rfl rfl (by kernel_rfl) (by kernel_rfl) (by kernel_rfl) (fun _ _ _ h => h) (by rfl) (by kernel_rfl) (by kernel_rfl) (by decide) hHeld (fun w hSw => ?_) ?_
  rotate_left 1
  · (try dsimp only at hSw)
    clear hSw
    go_simp
    try with_reducible rfl
  simp only [List.set_cons_succ, List.set_cons_zero]
  refine takeY 2 26 (v := ?_) rfl rfl (by kernel_rfl) (by kernel_rfl) (by kernel_rfl) (fun _ _ _ h => h) (by rfl) (by kernel_rfl) (by kernel_rfl) (by decide) hHeld (fun w hSw => ?_) ?_
  rotate_left 1
  · (try dsimp only at hSw)
    have bs_ : CBox 39 w (wr.heap.size + 1) #[.slice x 32 c, .int .u64 (nv t1), .int .u64 (nv t2)] := (hSw.block _ hl1).trans bs
    have e0_ : w.cell? ⟨wr.heap.size + 1, 0, none⟩ = some (.slice x 32 c) := bs_.cell 0
    clear bs_
    clear hSw
    go_simp
    try with_reducible rfl
  simp only [List.set_cons_succ, List.set_cons_zero]
  refine takeY 4 28 (v := ?_) rfl rfl (by kernel_rfl) (by kernel_rfl) (by kernel_rfl) (fun _ _ _ h => h) (by rfl) (by kernel_rfl) (by kernel_rfl) (by decide) hHeld (fun w hSw => ?_) ?_
  rotate_left 1
  · (try dsimp only at hSw)
    clear hSw
    go_simp
    try with_reducible rfl
  simp only [List.set_cons_succ, List.set_cons_zero]
  refine takeY 5 29 (v := ?_) rfl rfl (by kernel_rfl) (by kernel_rfl) (by kernel_rfl) (fun _ _ _ h => h) (by rfl) (by kernel_rfl) (by kernel_rfl) (by decide) hHeld (fun w hSw => ?_) ?_
  rotate_left 1
  · (try dsimp only at hSw)
    have bs_ : CBox 39 w (wr.heap.size + 1) #[.slice x 32 c, .int .u64 (nv t1), .int .u64 (nv t2)] := (hSw.block _ hl1).trans bs
    have e0_ : w.cell? ⟨wr.heap.size + 1, 1, none⟩ = some (.int .u64 (nv t1)) := bs_.cell 1
    have e1_ : w.cell? ⟨wr.heap.size + 1, 2, none⟩ = some (.int .u64 (nv t2)) := bs_.cell 2
    clear bs_
    clear hSw
    go_simp
    try with_reducible rfl
  simp only [List.set_cons_succ, List.set_cons_zero]
  refine onlyX 3 rfl (by kernel_rfl) (by rfl) (fun K hK => ?_)
  refine wp_app (.tmp 24) (.tmp 26) rfl W.heap.size (.slice y3 (4 + 8) d3) (4 + 8) (putL ep.toNat 4 ++ putL ve.toNat 8) rfl OWN3.out x 32 c ys rfl sx2 HF.out.2.2 (by decide) hW3.size ?_
  intro v5 w5 own5 hb5 _
  have hV5 : Below W.heap.size w3 w5 := (Below.refl _ w3).drew.grown hb5 hW3.size (own_block OWN3.out)
  refine hK.out _ _ (fun _ => hV5) (fun _ => ?_)
  clear hK K hHeld hb5
  obtain ⟨y5, d5, rfl, -, -, -⟩ := own_is own5
  refine onlyX 6 rfl (by kernel_rfl) (by rfl) (fun K hK => ?_)
  go_wp2_with fail
  refine (rbytes_in (t1, t2) _).mono ?_
  rintro e w6 ⟨x6, c6, rfl, s6, f6, hb6⟩
  have hV6 := hV5.trans (hb6.mono (Nat.le_trans hW3.size hV5.size))
  have OWN5 := hide' (own_grown own5 hb6)
  clear own5
  refine hK.out _ _ (fun _ => hV6) (fun _ => ?_)
  clear hK K hb6
  refine onlyX 7 rfl (by kernel_rfl) (by rfl) (fun K hK => ?_)
  refine wp_app (.tmp 27) (.tmp 30) rfl W.heap.size (.slice y5 ((4 + 8) + 32) d5) ((4 + 8) + 32) (putL ep.toNat 4 ++ putL ve.toNat 8 ++ ys) rfl OWN5.out x6 16 c6 (pairL (t1, t2)) rfl s6 f6.2.2 (by decide) (Nat.le_trans hW3.size hV6.size) ?_
  intro v7 w7 own7 hb7 _
  have hV7 : Below W.heap.size w3 w7 := hV6.grown hb7 (Nat.le_trans hW3.size hV6.size) (own_block OWN5.out)
  refine hK.out _ _ (fun _ => hV7) (fun _ => ?_)
  clear hK K s6 hb7
  obtain ⟨y7, d7, rfl, -, -, -⟩ := own_is own7
  refine onlyX 8 rfl (by kernel_rfl) (by rfl) (fun K hK => ?_)
  go_wp2
  refine hK.out _ _ (fun _ => hV7) (fun _ => ?_)
  clear hK K
  refine onlyX 9 rfl (by kernel_rfl) (by rfl) (fun K hK => ?_)
  go_wp2
  refine hK.out _ _ (fun h => absurd rfl h) (fun _ => ?_)
  clear hK K
  refine doneX (by kernel_rfl) ?_ _
  go_wp2
  go_ret2
  exact ⟨_, rfl, own_base own7 (Nat.le_of_lt hl0), hB.trans ((hW3.trans hV7).mono hB.size)⟩
theorem rrec_yes : RcPutYes 13 := by
  intro n x c ys t hn fx _ w sx
  obtain ⟨ep, s, ve⟩ := n
  obtain rfl : (65535#32) = s := nv32_inj (by rw [show nv32 s = 65535 from hn]; rfl)
  refine (rrec ep ve t.1 t.2 x c ys fx w sx).mono ?_
  rintro e w' ⟨v, rfl, own, hb⟩
  obtain ⟨z, cz, rfl, hs, f1, f2, f3⟩ := own_sin (rcL_length _ _ _ sx.1) own
  exact ⟨z, cz, rfl, hs.mono (fun k _ hk => own_block own k hk), ⟨f1, f2, f3⟩, hb⟩
theorem rrec_no : RcPutNo 13 := by
  intro n x m c t hn w
  obtain ⟨ep, s, ve⟩ := n
  obtain ⟨t1, t2⟩ := t
  unfold nnv sev
  dsimp only
  have hB : Below w.heap.size w ((w.alloc (.cells #[.int .u32 (nv32 ep), .int .u32 (nv32 s), .int .u64 (nv ve)] 37)).alloc (.cells #[.slice x m c, .int .u64 (nv t1), .int .u64 (nv t2)] 39)) := ((Below.refl w.heap.size w).alloc (Nat.le_refl _) _).alloc (by rw [World.size_alloc]; omega) _
  by_cases hm : m = 32
  · subst hm
    have h1 : (nv32 s != 65535) = true := bne_iff_ne.2 (hn.resolve_left (fun h => h rfl))
    clear hn
    go_enter Try.func13, Try.ntmps13
    go_wp2
    go_ret2
    exact ⟨_, _, rfl, fit_none, hB⟩
  · have h1 : ((m : Int) != 32) = true := bne_iff_ne.2 (by omega)
    clear hn
    go_enter Try.func13, Try.ntmps13
    go_wp2
    go_ret2
    exact ⟨_, _, rfl, fit_none, hB⟩
set_option maxHeartbeats 1000000 in
theorem rgrec_no : RcGetNo 15 := by
  intro x n c hn _ w
  have hB : Below w.heap.size w ((w.alloc (.cells #[.int .u32 0, .int .u32 0, .int .u64 0] 37)).alloc (.cells #[.slice none 0 0, .int .u64 0, .int .u64 0] 39)) := ((Below.refl w.heap.size w).alloc (Nat.le_refl _) _).alloc (by rw [World.size_alloc]; omega) _
  have h1 : ((n : Int) != 60) = true := bne_iff_ne.2 (by omega)
  clear hn
  go_enter Try.func15, Try.ntmps15
  go_wp2
  exact bodyPost_ret (v := .tuple #[.agg #[.int .u32 0, .int .u32 0, .int .u64 0], .agg #[.slice none 0 0, .int .u64 0, .int .u64 0], .bool false]) (by simp [results, Try.results15, go_sem]) rfl ⟨_, _, rfl, hB⟩
set_option maxHeartbeats 4000000 in
theorem rgrec_yes : RcGetYes 15 := by
  intro x c xs fx bx w sx
  have hxl := sx.1
  obtain ⟨b, o, rfl, hbl, hat⟩ := sx.2 (by decide)
  have hB0 : Below w.heap.size w ((w.alloc (.cells #[.int .u32 0, .int .u32 0, .int .u64 0] 37)).alloc (.cells #[.slice none 0 0, .int .u64 0, .int .u64 0] 39)) := ((Below.refl w.heap.size w).alloc (Nat.le_refl _) _).alloc (by rw [World.size_alloc]; omega) _
  have hA : At ((w.alloc (.cells #[.int .u32 0, .int .u32 0, .int .u64 0] 37)).alloc (.cells #[.slice none 0 0, .int .u64 0, .int .u64 0] 39)) b o xs := hat.below hB0 hbl
  have HF := hide' fx
  have c0 : (4 : Int) ≤ c := by have := fx.1; omega
  have c1 : (12 : Int) ≤ c := by have := fx.1; omega
  have n1 : ¬ c = 4 := by have := fx.1; omega
  have n3 : ¬ c = 44 := by have := fx.1; omega
  have n12 : ¬ c = 12 := by have := fx.1; omega
  have hcc : 60 ≤ c := fx.1
  clear fx
  obtain ⟨V, hV⟩ : ∃ e : BitVec 64, BitVec.ofInt 64 (num ((xs.drop 4).take 8)) = e := ⟨_, rfl⟩
  have hVn : num ((xs.drop 4).take 8) = nv V := by
    have := num_lt _ ((bx.drop 4).take 8) (by rw [List.length_take]; omega)
    rw [← hV, nv_of _ this.1 this.2]
  obtain ⟨E, hE⟩ : ∃ e : BitVec 32, BitVec.ofInt 32 (num (xs.take 4)) = e := ⟨_, rfl⟩
  have hEn : num (xs.take 4) = nv32 E := by
    have := num_lt4 (bx.take 4) (by rw [List.length_take, hxl]; rfl)
    rw [← hE, nv32_of _ this.1 this.2]
  have hew : IntKind.u32.wrap (nv32 E) = nv32 E := by
    have := nv32_range E
    rw [IntKind.wrap_u32]
    omega
  obtain ⟨P, hP⟩ : ∃ p, pairOf (xs.drop 44) = p := ⟨_, rfl⟩
  have HN : Hid (rcN xs = (E, 65535#32, V) ∧ rcT xs = P) := hide' (by
    unfold rcN rcT
    rw [hV, hE, hP]
    exact ⟨rfl, rfl⟩)
  have G1 := fun w ha => rget_some b o c 4 (xs.take 4) w (by rw [List.length_take, hxl]; rfl) (by decide) (by decide) (bx.take 4) ha
  have G2 := fun w ha => rget_some b (o + 4) (c - 4) 8 ((xs.drop 4).take 8) w (by rw [List.length_take, List.length_drop, hxl]; rfl) (by decide) (by decide) ((bx.drop 4).take 8) ha
  have G4 := fun w hb ha => rpair b (o + 44) (c - 44) (xs.drop 44) w (by rw [List.length_drop, hxl]) (by have := HF.out.1; omega) (by have := HF.out.2.1; omega) (bx.drop 44) hb ha
  rw [hVn] at G2
  rw [hEn] at G1
  rw [hP] at G4
  have bn : CBox 37 ((w.alloc (.cells #[.int .u32 0, .int .u32 0, .int .u64 0] 37)).alloc (.cells #[.slice none 0 0, .int .u64 0, .int .u64 0] 39)) w.heap.size #[.int .u32 0, .int .u32 0, .int .u64 0] := CBox.grown (CBox.new 37 w #[.int .u32 0, .int .u32 0, .int .u64 0]) ((Below.refl _ _).alloc (Nat.le_refl _) _)
  have bs : CBox 39 ((w.alloc (.cells #[.int .u32 0, .int .u32 0, .int .u64 0] 37)).alloc (.cells #[.slice none 0 0, .int .u64 0, .int .u64 0] 39)) (w.heap.size + 1) #[.slice none 0 0, .int .u64 0, .int .u64 0] := by
    have := CBox.new 39 (w.alloc (.cells #[.int .u32 0, .int .u32 0, .int .u64 0] 37)) #[.slice none 0 0, .int .u64 0, .int .u64 0]
    rw [World.size_alloc] at this
    exact this
  clear hV hE hP hEn hVn
  go_enter Try.func15, Try.ntmps15
  go_wp2_with fail
  have hl1 := bs.lt
  generalize ((w.alloc (.cells #[.int .u32 0, .int .u32 0, .int .u64 0] 37)).alloc (.cells #[.slice none 0 0, .int .u64 0, .int .u64 0] 39)) = W at *
  obtain ⟨A0, hA0⟩ : ∃ A0, w.heap.size = A0 := ⟨_, rfl⟩
  rw [hA0] at hB0 bn bs hl1 hbl ⊢
  refine (G1 _ (hA.cut1' 4)).mono ?_
  rintro e w1 ⟨rfl, rfl⟩
  go_wp2_with fail
  refine (G2 _ ((hA.cut2 4).cut1' 8)).mono ?_
  rintro e w1 ⟨rfl, rfl⟩
  have hbW : b < w1.heap.size := Nat.lt_of_lt_of_le hbl (by omega)
  go_wp2_with fail
  refine (G4 _ hbW (hA.cut2 44)).mono ?_
  rintro e w2 ⟨rfl, hb2⟩
  clear G1 G2 G4
  have hb3 : Below w2.heap.size w2 (w2.alloc (.cells #[.int .u64 (nv P.1), .int .u64 (nv P.2)] 25)) := (Below.refl _ _).alloc (Nat.le_refl _) _
  have bP : CBox 25 (w2.alloc (.cells #[.int .u64 (nv P.1), .int .u64 (nv P.2)] 25)) w2.heap.size #[.int .u64 (nv P.1), .int .u64 (nv P.2)] := CBox.new _ _ _
  have hbq := hb2.trans (hb3.mono hb2.size)
  have h12 := hb2.size
  replace bn := bn.grown hbq
  replace bs := bs.grown hbq
  have hAq := hA.below hbq hbW
  have hB3 := hB0.trans (hbq.mono (by rw [← hA0]; exact hB0.size))
  go_wp2_with fail
  have hbq2 : b < (w2.alloc (.cells #[.int .u64 (nv P.1), .int .u64 (nv P.2)] 25)).heap.size := by rw [World.size_alloc]; omega
  generalize (w2.alloc (.cells #[.int .u64 (nv P.1), .int .u64 (nv P.2)] 25)) = wq at *
  have hA2 : ¬ (w2.heap.size = A0 ∨ w2.heap.size = A0 + 1) := by omega
  generalize w2.heap.size = A2 at *
  refine startX (S := fun w' => Off (fun k => k = A0 ∨ k = A0 + 1) wq w') 12 (by kernel_rfl) (Off.refl _ _).drew (fun hHeld => ?_)
  refine moveY 0 34 5 rfl rfl rfl (by kernel_rfl) (by kernel_rfl) (by kernel_rfl) (fun _ _ _ h => h) (by rfl) (by kernel_rfl) (by kernel_rfl) (by decide) hHeld rfl ?_
  simp only [List.set_cons_succ, List.set_cons_zero]
  refine takeY 1 35 (v := ?_) rfl rfl (by kernel_rfl) (by kernel_rfl) (by kernel_rfl) (fun _ _ _ h => h) (by rfl) (by kernel_rfl) (by kernel_rfl) (by decide) hHeld (fun w hSw => ?_) ?_
  rotate_left 1
  · (try dsimp only at hSw)
    have e0_ := hew
    clear hSw
    go_simp
    try with_reducible rfl
  simp only [List.set_cons_succ, List.set_cons_zero]
  refine moveY 2 36 7 rfl rfl rfl (by kernel_rfl) (by kernel_rfl) (by kernel_rfl) (fun _ _ _ h => h) (by rfl) (by kernel_rfl) (by kernel_rfl) (by decide) hHeld rfl ?_
  simp only [List.set_cons_succ, List.set_cons_zero]
  refine takeY 3 37 (v := ?_) rfl rfl (by kernel_rfl) (by kernel_rfl) (by kernel_rfl) (fun _ _ _ h => h) (by rfl) (by kernel_rfl) (by kernel_rfl) (by decide) hHeld (fun w hSw => ?_) ?_
  rotate_left 1
  · (try dsimp only at hSw)
    clear hSw
    go_simp
    try with_reducible rfl
  simp only [List.set_cons_succ, List.set_cons_zero]
  refine moveY 5 39 0 rfl rfl rfl (by kernel_rfl) (by kernel_rfl) (by kernel_rfl) (fun _ _ _ h => h) (by rfl) (by kernel_rfl) (by kernel_rfl) (by decide) hHeld rfl ?_
  simp only [List.set_cons_succ, List.set_cons_zero]
  refine takeY 6 40 (v := ?_) rfl rfl (by kernel_rfl) (by kernel_rfl) (by kernel_rfl) (fun _ _ _ h => h) (by rfl) (by kernel_rfl) (by kernel_rfl) (by decide) hHeld (fun w hSw => ?_) ?_
  rotate_left 1
  · (try dsimp only at hSw)
    have e0_ := sl_mid (some ⟨b, o, none⟩) 60 c 12 44 (by decide) (by omega) w
    have e1_ := n12
    have e2_ : (44 : Int) ≤ c := by omega
    clear hSw
    go_simp
    try with_reducible rfl
  simp only [List.set_cons_succ, List.set_cons_zero]
  refine takeY 8 42 (v := ?_) rfl rfl (by kernel_rfl) (by kernel_rfl) (by kernel_rfl) (fun _ _ _ h => h) (by rfl) (by kernel_rfl) (by kernel_rfl) (by decide) hHeld (fun w hSw => ?_) ?_
  rotate_left 1
  · (try dsimp only at hSw)
    have e0_ : w.cell? ⟨A2, 0, none⟩ = some (.int .u64 (nv P.1)) := (CBox.off bP hSw hA2).cell 0
    have e1_ : w.cell? ⟨A2, 1, none⟩ = some (.int .u64 (nv P.2)) := (CBox.off bP hSw hA2).cell 1
    clear hSw
    go_simp
    try with_reducible rfl
  simp only [List.set_cons_succ, List.set_cons_zero]
  refine onlyX 4 rfl (by kernel_rfl) (by rfl) (fun K hK => ?_)
  have own : ((wq.alloc (.cells #[] 5)).drew).ownsRow wq.heap.size 5 1 (.slice (some ⟨wq.heap.size, 0, none⟩) 0 0) 0 (([] : List Int).map (Value.int .u8)) := World.ownsRow_lit (base := wq.heap.size) (e := 5) (size := 1) wq #[] 0 (Nat.le_refl _) (by decide) rfl
  have hq0 : Below wq.heap.size wq ((wq.alloc (.cells #[] 5)).drew) := ((Below.refl _ _).alloc (Nat.le_refl _) _).drew
  go_wp2_with fail
  have hlq : A0 + 1 < wq.heap.size := bs.lt
  refine hK.out _ _ (fun _ => Off.of_below hq0) (fun _ => ?_)
  clear hK K hHeld
  generalize (wq.alloc (.cells #[] 5)).drew = w5 at *
  refine onlyX 7 rfl (by kernel_rfl) (by rfl) (fun K hK => ?_)
  have hs5 : SAt w5 (some ⟨b, o + 12, none⟩) 32 (rcB xs) := ((hAq.below hq0 hbq2).cut2 12).cut1' 32 |>.sat (Nat.lt_of_lt_of_le hbq2 hq0.size) (by rw [List.length_take, List.length_drop, hxl]; rfl)
  refine wp_app (.tmp 38) (.tmp 40) rfl wq.heap.size _ 0 [] rfl own _ 32 (c - 12) (rcB xs) rfl hs5 (fun e => by cases e) (by decide) hq0.size ?_
  intro v7 w7 own7 hb7 _
  have hq7 : Below wq.heap.size wq w7 := hq0.grown hb7 hq0.size (own_block own)
  refine hK.out _ _ (fun _ => Off.of_below hq7) (fun hHeld => ?_)
  replace hHeld := hHeld (by decide)
  clear hK K own hs5 hb7 hq0
  obtain ⟨y7, d7, rfl, fy1, fy2, fy3⟩ := own_is own7
  refine takeY 9 43 (v := ?_) rfl rfl (by kernel_rfl) (by kernel_rfl) (by kernel_rfl) (fun _ _ _ h => h) (by rfl) (by kernel_rfl) (by kernel_rfl) (by decide) hHeld (fun w hSw => ?_) ?_
  rotate_left 1
  · (try dsimp only at hSw)
    clear hSw
    go_simp
    try with_reducible rfl
  simp only [List.set_cons_succ, List.set_cons_zero]
  clear hHeld
  replace bn := bn.grown hq7
  have f0 := CBox.frozen bn 0
  have f1 := CBox.frozen bn 1
  have f2 := CBox.frozen bn 2
  have g0 : w7.cell? ⟨A0, 0, none⟩ = some (.int .u32 0) := CBox.cell bn 0
  have g1 : w7.cell? ⟨A0, 1, none⟩ = some (.int .u32 0) := CBox.cell bn 1
  have g2 : w7.cell? ⟨A0, 2, none⟩ = some (.int .u64 0) := CBox.cell bn 2
  have bnn := (CBox.put (CBox.put (CBox.put bn 0 (.int .u32 (nv32 E))) 1 (.int .u32 65535)) 2 (.int .u64 (nv V)))
  have how8 : Off (fun k => k = A0) w7 (((w7.setCell ⟨A0, 0, none⟩ (.int .u32 (nv32 E))).setCell ⟨A0, 1, none⟩ (.int .u32 65535)).setCell ⟨A0, 2, none⟩ (.int .u64 (nv V))) := (Off.setCell (F := fun k => k = A0) (p := ⟨A0, 2, none⟩) (Off.setCell (F := fun k => k = A0) (p := ⟨A0, 1, none⟩) (Off.setCell (F := fun k => k = A0) (p := ⟨A0, 0, none⟩) (Off.refl (fun k => k = A0) w7) (Or.inl rfl) (.int .u32 (nv32 E))) (Or.inl rfl) (.int .u32 65535)) (Or.inl rfl) (.int .u64 (nv V)))
  refine onlyX 10 rfl (by kernel_rfl) (by rfl) (fun K hK => ?_)
  go_wp2_with fail
  clear f0 f1 f2 g0 g1 g2
  generalize (((w7.setCell ⟨A0, 0, none⟩ (.int .u32 (nv32 E))).setCell ⟨A0, 1, none⟩ (.int .u32 65535)).setCell ⟨A0, 2, none⟩ (.int .u64 (nv V))) = w8 at *
  have ho78 : Off (fun k => k = A0 ∨ k = A0 + 1) wq w8 := (Off.of_below hq7).trans (G := fun k => k = A0) how8 (fun k h => Or.inl (Or.inl h))
  refine hK.out _ _ (fun _ => ho78) (fun _ => ?_)
  clear hK K
  replace bs := (bs.grown hq7).off how8 (fun e => by omega)
  have f0 := CBox.frozen bs 0
  have f1 := CBox.frozen bs 1
  have f2 := CBox.frozen bs 2
  have g0 : w8.cell? ⟨(A0 + 1), 0, none⟩ = some (.slice none 0 0) := CBox.cell bs 0
  have g1 : w8.cell? ⟨(A0 + 1), 1, none⟩ = some (.int .u64 0) := CBox.cell bs 1
  have g2 : w8.cell? ⟨(A0 + 1), 2, none⟩ = some (.int .u64 0) := CBox.cell bs 2
  have bsn := (CBox.put (CBox.put (CBox.put bs 0 (.slice y7 32 d7)) 1 (.int .u64 (nv P.1))) 2 (.int .u64 (nv P.2)))
  have how9 : Off (fun k => k = (A0 + 1)) w8 (((w8.setCell ⟨(A0 + 1), 0, none⟩ (.slice y7 32 d7)).setCell ⟨(A0 + 1), 1, none⟩ (.int .u64 (nv P.1))).setCell ⟨(A0 + 1), 2, none⟩ (.int .u64 (nv P.2))) := (Off.setCell (F := fun k => k = (A0 + 1)) (p := ⟨(A0 + 1), 2, none⟩) (Off.setCell (F := fun k => k = (A0 + 1)) (p := ⟨(A0 + 1), 1, none⟩) (Off.setCell (F := fun k => k = (A0 + 1)) (p := ⟨(A0 + 1), 0, none⟩) (Off.refl (fun k => k = (A0 + 1)) w8) (Or.inl rfl) (.slice y7 32 d7)) (Or.inl rfl) (.int .u64 (nv P.1))) (Or.inl rfl) (.int .u64 (nv P.2)))
  refine onlyX 11 rfl (by kernel_rfl) (by rfl) (fun K hK => ?_)
  go_wp2_with fail
  clear f0 f1 f2 g0 g1 g2
  generalize (((w8.setCell ⟨(A0 + 1), 0, none⟩ (.slice y7 32 d7)).setCell ⟨(A0 + 1), 1, none⟩ (.int .u64 (nv P.1))).setCell ⟨(A0 + 1), 2, none⟩ (.int .u64 (nv P.2))) = w9 at *
  have ho79 : Off (fun k => k = A0 ∨ k = A0 + 1) wq w9 := ho78.trans (G := fun k => k = A0 + 1) how9 (fun k h => Or.inl (Or.inr h))
  refine hK.out _ _ (fun _ => ho79) (fun _ => ?_)
  clear hK K
  refine onlyX 12 rfl (by kernel_rfl) (by rfl) (fun K hK => ?_)
  go_wp2_with fail
  refine hK.out _ _ (fun h => absurd rfl h) (fun _ => ?_)
  clear hK K
  refine doneX (by kernel_rfl) ?_ _
  go_wp2_with fail
  replace bnn := bnn.off how9 (fun e => by omega)
  have k0 := CBox.cell bnn 0
  have k1 := CBox.cell bnn 1
  have k2 := CBox.cell bnn 2
  have j0 := CBox.cell bsn 0
  have j1 := CBox.cell bsn 1
  have j2 := CBox.cell bsn 2
  have hBE : Below w.heap.size w w9 := by
    rw [hA0]
    exact hB3.trans (ho79.below (B := A0) (fun k hk => by omega) (by rw [← hA0]; exact hB3.size))
  refine bodyPost_ret (v := .tuple #[.agg #[.int .u32 (nv32 E), .int .u32 65535, .int .u64 (nv V)], .agg #[.slice y7 32 d7, .int .u64 (nv P.1), .int .u64 (nv P.2)], .bool true]) (by simp [results, Try.results15, go_sem, k0, k1, k2, j0, j1, j2]) rfl ?_
  obtain ⟨z, cz, e, hs, f1, f2, f3⟩ := own_sin (n := 32) (xs := rcB xs) (by unfold rcB; rw [List.length_take, List.length_drop, hxl]; rfl) own7
  simp only [Nat.zero_add, Value.slice.injEq] at e
  obtain ⟨rfl, -, rfl⟩ := e
  refine ⟨y7, d7, by rw [HN.out.1, HN.out.2]; rfl, ?_, ⟨f1, f2, f3⟩, hBE⟩
  refine ((hs.off how8 (fun k _ hk e => ?_)).off how9 (fun k _ hk e => ?_)).mono (fun k _ hk => ?_)
  · have := own_block own7 k hk
    omega
  · have := own_block own7 k hk
    omega
  · have := own_block own7 k hk
    omega
end Go.Proofs.Ytnimhlkoikjomaa
