/- LockBack's walk. -/
import Derived.Test.YtkkehbebaokdmaaM12
import Derived.Test.YtkkehbebaokdmaaM23
namespace Go.Proofs.Ytkkehbebaokdmaa
open Go.RowKit
set_option maxRecDepth 20000
variable {Inv : (Nat → Prop) → World → Value → LSt → Prop}

theorem back_opens (i : Bool) (key : BitVec 64 × BitVec 64) (nn : Nn) (xs ys : List Int) (by_ : Bytes ys) : (LSt.sealS ⟨i, [], []⟩ ⟨key, nn, xs, ys⟩).opens ⟨key, nn, xs, LSt.sealB ⟨i, [], []⟩ key nn ys, LSt.sealT ⟨i, [], []⟩ key nn xs ys⟩ = some ys := by
  cases i
  · rw [LSt.sealS_real rfl, LSt.sealB_real rfl, LSt.sealT_real rfl, LSt.opens_real rfl rfl]
    exact congrArg some (mixL_back _ by_)
  · have e1 : LSt.sealS ⟨true, [], []⟩ ⟨key, nn, xs, ys⟩ = ⟨true, [⟨key, nn, xs, ys⟩], []⟩ := by rw [LSt.sealS, if_pos rfl]; rfl
    have e2 : LSt.sealB ⟨true, [], []⟩ key nn ys = outB 1 ys.length := by rw [LSt.sealB, if_pos rfl]; rfl
    have e3 : LSt.sealT ⟨true, [], []⟩ key nn xs ys = tagI 1 := by rw [LSt.sealT, if_pos rfl]; rfl
    rw [e1, e2, e3, LSt.opens_hit (i := 0) rfl (by simp) (hit_of rfl rfl rfl rfl rfl)]
    rfl
theorem odd_opens (key : BitVec 64 × BitVec 64) (nn : Nn) (xs ys bs : List Int) (t : BitVec 64 × BitVec 64) : (LSt.sealS ⟨true, [], []⟩ ⟨key, nn, xs, ys⟩).opens ⟨key, nn, xs ++ [1], bs, t⟩ = none := by
  have e1 : LSt.sealS ⟨true, [], []⟩ ⟨key, nn, xs, ys⟩ = ⟨true, [⟨key, nn, xs, ys⟩], []⟩ := by rw [LSt.sealS, if_pos rfl]; rfl
  rw [e1]
  refine LSt.opens_no rfl (fun i h => ?_)
  have h1 := congrArg List.length (hit_one h).2.2.1
  simp at h1
theorem sealS_one (i : Bool) (e : Iss) : (LSt.sealS ⟨i, [], []⟩ e).iss.length ≤ 1 ∧ ¬ Two (LSt.sealS ⟨i, [], []⟩ e).iss := by
  have h1 : (LSt.sealS ⟨i, [], []⟩ e).iss.length ≤ 1 := by
    cases i
    · rw [LSt.sealS_real rfl]
      simp
    · rw [LSt.sealS, if_pos rfl]
      simp
  exact ⟨h1, fun ⟨a, b, h2, h3, _⟩ => by omega⟩
def backSlot : Nat → Nat | 3 => 52 | 5 => 54 | _ => 55
def backDep : Nat → List Nat | 5 => [3] | _ => []
def backA (B n : Nat) (hs : List Int) : Nat → List Value → World → Prop
  | 3 => Sl 52 fun v w => ∃ g, v = .slice (some ⟨g, 0, none⟩) 0 0 ∧ w.ownsRow B 5 1 v 0 []
  | 5 => Sl 54 fun v w => v ≠ .slice none 0 0 ∧ w.ownsRow B 5 1 v n (hs.map (Value.int .u8))
  | _ => Sl 55 fun v w => ∃ g, v = .slice (some ⟨g, 0, none⟩) 1 1 ∧ g < w.heap.size ∧ At w g 0 [1]
theorem backA_stay (B n : Nat) (hs : List Int) : ∀ i ∈ [3, 5, 6], ∀ t w j v w', backA B n hs i t w → j ∈ [3, 5, 6] → j ≠ i → j ∉ backDep i → Below w.heap.size w w' → backA B n hs i (t.set (backSlot j) v) w' := by
  intro i hi t w j v w' h hj hne hd hb
  simp only [List.mem_cons, List.not_mem_nil, or_false] at hi hj
  have hsl : backSlot j ≠ backSlot i := by rcases hi with rfl | rfl | rfl <;> rcases hj with rfl | rfl | rfl <;> simp_all [backSlot]
  rcases hi with rfl | rfl | rfl
  · simp only [backA] at h ⊢
    exact Sl.keep h hsl v (fun u ⟨g, e, o⟩ => ⟨g, e, own_grown o hb⟩)
  · simp only [backA] at h ⊢
    exact Sl.keep h hsl v (fun u ⟨e, o⟩ => ⟨e, own_grown o hb⟩)
  · simp only [backA] at h ⊢
    exact Sl.keep h hsl v (fun u ⟨g, e, hl, ha⟩ => ⟨g, e, Nat.lt_of_lt_of_le hl hb.size, ha.below hb hl⟩)
theorem wp_lit1L {o : Oper} {t : List Value} {d : List Deferred} {w : World} {K : Act → World → Prop} {Q : Exit → Act → World → Prop} {k : Nat} {u : Int} (hd : o.dst = some k) (ho : o.op = .buildSlice 27 1 #[(0, .const (.int .u8 u))])
    (h : K ⟨(t.set k (.slice (some ⟨w.heap.size, 0, none⟩) 1 1)).toArray, d⟩ (w.alloc (.cells #[.int .u8 u] 5))) : o.wp Try.prog ⟨t.toArray, d⟩ w K Q := by
  rw [← put_slot hd] at h
  have hrun : (Instr.buildSlice 27 1 #[(0, .int .u8 u)]).run Try.prog w = .ok (.slice (some ⟨w.heap.size, 0, none⟩) 1 1) (w.alloc (.cells #[.int .u8 u] 5)) := by go_simp
  generalize (⟨t.toArray, d⟩ : Act) = a at *
  unfold Oper.wp execOp
  simp only [ho, List.map_toArray, List.map_cons, List.map_nil, Act.eval, Sem.run_bind, hrun, Result.andThen_ok, Sem.run_pure]
  exact h
set_option maxRecDepth 20000 in
set_option maxHeartbeats 8000000 in
theorem lback (hO : LockIs Inv) (i : Bool) (key : BitVec 64 × BitVec 64) (nn : Nn) (xs ys : List Int) (x y : Option Addr) (nx ny c d : Nat) (bx : Bytes xs) (by_ : Bytes ys) (fx : Fit x nx c) (fy : Fit y ny d) (w : World) (sx : SAt w x nx xs) (sy : SAt w y ny ys) :
    Calls Try.prog 4 #[.bool i, .agg #[.int .u64 (nv key.1), .int .u64 (nv key.2)], .agg #[.int .u32 (nv32 nn.1), .int .u32 (nv32 nn.2.1), .int .u64 (nv nn.2.2)], .slice x nx c, .slice y ny d] w fun e w' => e = .returned (.bool true) ∧ Below w.heap.size w w' := by
  have bK := (Box.new w (nv key.1) (nv key.2)).alloc (.cells #[.int .u32 (nv32 nn.1), .int .u32 (nv32 nn.2.1), .int .u64 (nv nn.2.2)] 35)
  have bN := NBox.new (w.alloc (.cells #[.int .u64 (nv key.1), .int .u64 (nv key.2)] 30)) nn
  have hB : Below w.heap.size w ((w.alloc (.cells #[.int .u64 (nv key.1), .int .u64 (nv key.2)] 30)).alloc (.cells #[.int .u32 (nv32 nn.1), .int .u32 (nv32 nn.2.1), .int .u64 (nv nn.2.2)] 35)) := by go_grown
  simp only [World.size_alloc] at bN
  by_cases hx : 100 < nx
  · have hn' : (100 : Int) < nx := by omega
    go_enter Try.func4, Try.ntmps4
    go_wp2
    go_ret
    exact ⟨rfl, hB⟩
  by_cases hy : 100 < ny
  · have hn' : (100 : Int) < ny := by omega
    go_enter Try.func4, Try.ntmps4
    go_wp2
    go_ret
    exact ⟨rfl, hB⟩
  obtain ⟨t, HT⟩ : ∃ t, Hid (LSt.sealT ⟨i, [], []⟩ key nn xs ys = t) := ⟨_, rfl⟩
  obtain ⟨bs, HB⟩ : ∃ bs, Hid (LSt.sealB ⟨i, [], []⟩ key nn ys = bs) := ⟨_, rfl⟩
  obtain ⟨st1, H1⟩ : ∃ st1, Hid (LSt.sealS ⟨i, [], []⟩ ⟨key, nn, xs, ys⟩ = st1) := ⟨_, rfl⟩
  have ho1 := back_opens i key nn xs ys by_
  have hone := sealS_one i ⟨key, nn, xs, ys⟩
  have hbb := LSt.sealB_bytes ⟨i, [], []⟩ key nn by_
  rw [HT.out, HB.out, H1.out] at ho1
  rw [H1.out] at hone
  rw [HB.out] at hbb
  have hodd : i = true → st1.opens ⟨key, nn, xs ++ [1], bs, t⟩ = none := fun e => by
    subst e
    rw [← H1.out]
    exact odd_opens key nn xs ys bs t
  obtain ⟨r2, HR0⟩ : ∃ r, st1.opens ⟨key, nn, xs ++ [1], bs, t⟩ = r := ⟨_, rfl⟩
  have HR := hide' HR0
  clear HR0
  rw [HR.out] at hodd
  go_enter Try.func4, Try.ntmps4
  go_wp2_with fail
  generalize (w.alloc (.cells #[.int .u64 (nv key.1), .int .u64 (nv key.2)] 30)).alloc (.cells #[.int .u32 (nv32 nn.1), .int .u32 (nv32 nn.2.1), .int .u64 (nv nn.2.2)] 35) = W0 at *
  have hbk := bK.lt
  have hbn := bN.lt
  refine (lof hO i _).mono ?_
  rintro e w1 ⟨v, F, rfl, hI, hF, hb⟩
  obtain ⟨a, rfl⟩ := hO.ptr hI
  have bK' := bK.below hb hbk
  have bN' : NBox w1 (w.heap.size + 1) nn := (hb.block _ hbn).trans bN
  have k0 := bK'.c0
  have k1 := bK'.c1
  have n0 := bN'.c0
  have n1 := bN'.c1
  have n2 := bN'.c2
  replace sx := sx.below hB
  replace sy := sy.below hB
  have cx : ∀ (F : Nat → Prop) (w' : World), (∀ k, F k → W0.heap.size ≤ k) → Below W0.heap.size W0 w' → SIn (fun k => ¬ F k) w' x nx xs := fun F w' h1 h2 => (sx.inn.off (Off.of_below (F := fun _ => False) h2) (fun _ _ _ h => h)).mono (fun k _ h h' => by have := h1 k h'; omega)
  have cy : ∀ (F : Nat → Prop) (w' : World), (∀ k, F k → W0.heap.size ≤ k) → Below W0.heap.size W0 w' → SIn (fun k => ¬ F k) w' y ny ys := fun F w' h1 h2 => (sy.inn.off (Off.of_below (F := fun _ => False) h2) (fun _ _ _ h => h)).mono (fun k _ h h' => by have := h1 k h'; omega)
  go_wp2_with fail
  clear k0 k1 n0 n1 n2 bK' bN'
  refine (lseal_at hO F _ ⟨i, [], []⟩ key nn rfl rfl rfl rfl rfl xs ys x y nx ny c d (by omega) (by omega) (Nat.zero_le _) bx by_ fx fy _ hI (cx F _ hF hb) (cy F _ hF hb)).mono ?_
  rw [HT.out, HB.out, H1.out]
  rintro e w2 ⟨z, cz, F2, rfl, hK, sz, fz⟩
  have hF2 : ∀ k, F2 k → W0.heap.size ≤ k := fun k hk => (hK.sub k hk).elim (hF k) (fun h => Nat.le_trans hb.size h)
  replace hb := hb.trans (hK.off.below hF hb.size)
  replace hI := hK.inv
  clear hK hF
  have hlt := hO.lt hI
  have bS := SBox.new w2 (.slice z ny cz) (nv t.1) (nv t.2)
  have hc : Below w2.heap.size w2 (w2.alloc (.cells #[.slice z ny cz, .int .u64 (nv t.1), .int .u64 (nv t.2)] 32)) := (Below.refl _ _).alloc (Nat.le_refl _) _
  have hsF : ¬ F2 w2.heap.size := fun h => Nat.lt_irrefl _ (hlt _ h)
  replace sz := sz.off (Off.of_below (F := fun _ => False) hc) (fun _ _ _ h => h)
  replace hb := hb.trans (hc.mono hb.size)
  replace hI := hO.below hI hc
  clear hc hlt
  have bK' := bK.below hb hbk
  have bN' : NBox (w2.alloc (.cells #[.slice z ny cz, .int .u64 (nv t.1), .int .u64 (nv t.2)] 32)) (w.heap.size + 1) nn := (hb.block _ hbn).trans bN
  have k0 := bK'.c0
  have k1 := bK'.c1
  have n0 := bN'.c0
  have n1 := bN'.c1
  have n2 := bN'.c2
  have q0 := bS.c0
  have q1 := bS.c1
  have q2 := bS.c2
  go_wp2_with fail
  clear k0 k1 n0 n1 n2 bK' bN' q0 q1 q2
  generalize w2.alloc (.cells #[.slice z ny cz, .int .u64 (nv t.1), .int .u64 (nv t.2)] 32) = w3 at *
  generalize w2.heap.size = B2 at *
  refine (lopen_at hO F2 _ st1 ⟨key, nn, xs, bs, t⟩ rfl rfl rfl rfl rfl rfl rfl rfl rfl ho1 (l := ny) sy.1 (s := true) rfl x z nx ny c cz (by omega) (by omega) (by omega) bx hbb fx fz _ hI (cx F2 _ hF2 hb) sz).mono ?_
  rintro e w4 ⟨zd, cd, F3, rfl, hK, sd⟩
  simp only [Option.getD_some] at sd
  have hF3 : ∀ k, F3 k → W0.heap.size ≤ k := fun k hk => (hK.sub k hk).elim (hF2 k) (fun h => Nat.le_trans hb.size h)
  have hsF3 : ¬ F3 B2 := fun h => (hK.sub B2 h).elim hsF (fun h => by have := bS.lt; omega)
  replace hb := hb.trans (hK.off.below hF2 hb.size)
  replace sz := hK.sin sz
  replace bS : SBox w4 B2 (.slice z ny cz) (nv t.1) (nv t.2) := off_block bS hK.off hsF
  replace hI := hK.inv
  clear hK hF2 hsF
  have bK' : Box w4 w.heap.size (nv key.1) (nv key.2) := bK.below hb hbk
  have bN' : NBox w4 (w.heap.size + 1) nn := (hb.block _ hbn).trans bN
  have hnk : ¬ F3 w.heap.size := fun h => by have := hF3 _ h; omega
  have hnn : ¬ F3 (w.heap.size + 1) := fun h => by have := hF3 _ h; omega
  have sx4 := sx.below hb
  have hz0 := hb.size
  go_wp2_with fail
  refine wp_region_held_drew (S := fun w' => Off F3 w4 w') (by kernel_rfl) (Off.refl _ _).drew (fun hHeld => ?_)
  refine takeM 0 49 11 rfl rfl rfl (by kernel_rfl) (by kernel_rfl) (by kernel_rfl) (fun _ _ _ h => h) (by rfl) hHeld rfl ?_
  simp only [List.set_cons_succ, List.set_cons_zero]
  refine takeL 1 50 (v := ?_) rfl rfl (by kernel_rfl) (by kernel_rfl) (by kernel_rfl) (fun _ _ _ h => h) (by rfl) hHeld (fun wz hSw => ?_) ?_
  rotate_left 1
  · (try dsimp only at hSw)
    have hx_ : Box wz w.heap.size (nv key.1) (nv key.2) := off_block bK' hSw hnk
    have e0_ := hx_.c0
    have e1_ := hx_.c1
    clear hx_
    clear hSw
    go_simp
    try with_reducible rfl
  simp only [List.set_cons_succ, List.set_cons_zero]
  refine takeL 2 51 (v := ?_) rfl rfl (by kernel_rfl) (by kernel_rfl) (by kernel_rfl) (fun _ _ _ h => h) (by rfl) hHeld (fun wz hSw => ?_) ?_
  rotate_left 1
  · (try dsimp only at hSw)
    have hx_ : NBox wz (w.heap.size + 1) nn := off_block bN' hSw hnn
    have e0_ := hx_.c0
    have e1_ := hx_.c1
    have e2_ := hx_.c2
    clear hx_
    clear hSw
    go_simp
    try with_reducible rfl
  simp only [List.set_cons_succ, List.set_cons_zero]
  refine takeM 4 53 3 rfl rfl rfl (by kernel_rfl) (by kernel_rfl) (by kernel_rfl) (fun _ _ _ h => h) (by rfl) hHeld rfl ?_
  simp only [List.set_cons_succ, List.set_cons_zero]
  refine takeL 8 57 (v := ?_) rfl rfl (by kernel_rfl) (by kernel_rfl) (by kernel_rfl) (fun _ _ _ h => h) (by rfl) hHeld (fun wz hSw => ?_) ?_
  rotate_left 1
  · (try dsimp only at hSw)
    have hx_ : SBox wz B2 (.slice z ny cz) (nv t.1) (nv t.2) := off_block bS hSw hsF3
    have e0_ := hx_.c0
    have e1_ := hx_.c1
    have e2_ := hx_.c2
    clear hx_
    clear hSw
    go_simp
    try with_reducible rfl
  simp only [List.set_cons_succ, List.set_cons_zero]
  have h53 : ∀ i ∈ [3, 5, 6], 53 ≠ backSlot i := by decide
  refine startM (Gr := fun a b => Below a.heap.size a b) (slot := backSlot) (A := backA w4.heap.size nx xs) (dep := backDep) [3, 5, 6] [(7, #[true, true, true, true, true, true, true, false, true, false, false, false, false, false, false], [3, 5, 6])] (by decide) (Below.refl _ _) (by kernel_rfl) (by kernel_rfl) (fun _ _ _ h k => h.trans (k.mono h.size)) (fun w' h => Off.of_below (below_drew h)) (by decide) ?_ (by kernel_rfl) (backA_stay _ _ _) ?_ ?_
  · intro i hi
    simp only [List.mem_cons, List.not_mem_nil, or_false] at hi
    rcases hi with rfl | rfl | rfl <;> simp [backSlot]
  · intro i hi
    simp only [List.mem_cons, List.not_mem_nil, or_false] at hi
    rcases hi with rfl | rfl | rfl
    · refine ⟨_, rfl, fun l t' w' K hr hm => ⟨wanted_plain rfl _, fun hK => ?_⟩⟩
      refine wp_lit0L (k := 52) rfl rfl ?_
      exact hK _ _ ((Below.refl _ _).alloc (Nat.le_refl _) _) (⟨_, List.getElem?_set_self (by rw [hm.len]; simp [backSlot]), _, rfl, World.ownsRow_lit (base := w4.heap.size) (e := 5) (size := 1) w' #[] 0 hm.gr.size (by decide) rfl⟩)
    · refine ⟨_, rfl, fun l t' w' K hr hm => ⟨wanted_plain rfl _, fun hK => ?_⟩⟩
      obtain ⟨v1, hv1, g, rfl, own⟩ := (hm.made 3 (by decide) (ready_dep hr rfl 3 (by kernel_rfl))).2
      refine wp_app0B (.tmp 52) (.tmp 53) rfl w4.heap.size g (eval_slot hv1) own x nx c xs (eval_slot ((hm.old 53 (fun i hi _ => h53 i hi)).trans rfl)) (sx4.below (below_drew hm.gr)) (by omega) hm.gr.size (fun k c' w'' ow hb _ => ?_)
      rw [put_slot (k := 54) rfl]
      exact hK _ _ hb ⟨_, List.getElem?_set_self (by rw [hm.len]; simp [backSlot]), fun e => (by cases e), ow⟩
    · refine ⟨_, rfl, fun l t' w' K hr hm => ⟨wanted_plain rfl _, fun hK => ?_⟩⟩
      refine wp_lit1L (k := 55) rfl rfl ?_
      exact hK _ _ ((Below.refl _ _).alloc (Nat.le_refl _) _) (⟨_, List.getElem?_set_self (by rw [hm.len]; simp [backSlot]), _, rfl, by simp, At.one w' 1⟩)
  intro e he vs w5 hg hA
  obtain rfl := List.mem_singleton.1 he
  obtain ⟨v5, e5, hv5, own⟩ := hA 5 (by decide)
  obtain ⟨v6, e6, g6, rfl, hg6, at6⟩ := hA 6 (by decide)
  obtain ⟨v3, e3, g3, rfl, _⟩ := hA 3 (by decide)
  have e3' : vs 3 = .slice (some ⟨g3, 0, none⟩) 0 0 := Option.some.inj e3
  have e5' : vs 5 = v5 := Option.some.inj e5
  have e6' : vs 6 = .slice (some ⟨g6, 0, none⟩) 1 1 := Option.some.inj e6
  clear e3 e5 e6 hA he
  simp only [List.foldl_cons, List.foldl_nil, backSlot, List.set_cons_succ, List.set_cons_zero, e3', e5', e6']
  clear e3' e5' e6'
  replace hg := below_drew hg
  have hz5 := hg.size
  refine onlyL 7 rfl (by kernel_rfl) (by rfl) (fun K hK => ?_)
  refine wp_app (.tmp 54) (.tmp 55) rfl w4.heap.size _ nx xs rfl own (some ⟨g6, 0, none⟩) 1 1 [1] rfl (at6.sat hg6 rfl) (fun e => by cases e) (by omega) hz5 ?_
  intro v7 w6 own7 hg7 hv7
  have hb6 : Below w4.heap.size w4 w6 := ((Off.of_below (F := fun _ => False) hg).grown hg7 (fun k hk => Or.inr (own_block own k hk))).none (fun _ h => h.elim)
  replace hv7 := hv7 hv5
  have hxl : (xs ++ [1]).length = nx + 1 := by rw [List.length_append, sx.1]; rfl
  obtain ⟨gh, ch, rfl, hgh, hghl, hghc, hghm, hath⟩ := own_bytes hxl own7 hv7
  refine hK.out _ _ (Off.of_below hb6) (fun _ => ?_)
  clear hK K hHeld own own7 hv5 hv7 hg7 hg at6 hg6
  rw [put_slot (k := 56) rfl]
  simp only [List.set_cons_succ, List.set_cons_zero]
  have hlt3 := hO.lt hI
  have hgF : ¬ F3 gh := fun h => by have := hlt3 _ h; omega
  replace sz := sz.off (Off.of_below (F := fun _ => False) hb6) (fun _ _ _ h => h)
  replace sd := sd.off (Off.of_below (F := fun _ => False) hb6) (fun _ _ _ h => h)
  replace hI := hO.below hI hb6
  replace hb := hb.trans (hb6.mono hb.size)
  refine onlyL 9 rfl (by kernel_rfl) (by rfl) (fun K hK => ?_)
  go_wp2_with fail
  refine (lopen_at hO F3 _ st1 ⟨key, nn, xs ++ [1], bs, t⟩ rfl rfl rfl rfl rfl rfl rfl rfl rfl HR.out rfl rfl (some ⟨gh, 0, none⟩) z (nx + 1) ny ch cz (by omega) (by omega) (by omega) (bx.append (bytes_one 1 (by decide))) hbb ⟨hghc, hghm, fun e => by cases e⟩ fz _ hI ⟨hxl, fun _ => ⟨gh, 0, rfl, hghl, hgF, hath⟩⟩ sz).mono ?_
  rintro e w7 ⟨zo, co, F4, rfl, hK4, -⟩
  have hof : Off F3 w4 w7 := (Off.of_below hb6).trans hK4.off (fun k h => Or.inl h)
  refine hK.out _ _ hof (fun _ => ?_)
  clear hK K
  have hHeld := hof
  replace hb := hb.trans (hK4.off.below hF3 hb.size)
  replace sd := hK4.sin sd
  replace hI := hK4.inv
  have hF4 : ∀ k, F4 k → W0.heap.size ≤ k := fun k hk => (hK4.sub k hk).elim (hF3 k) (fun h => by have := hb6.size; omega)
  clear hK4 hof
  refine takeM 10 48 58 rfl rfl rfl (by kernel_rfl) (by kernel_rfl) (by kernel_rfl) (fun _ _ _ h => h) (by rfl) hHeld rfl ?_
  simp only [List.set_cons_succ, List.set_cons_zero]
  refine takeL 11 59 (v := ?_) rfl rfl (by kernel_rfl) (by kernel_rfl) (by kernel_rfl) (fun _ _ _ h => h) (by rfl) hHeld (fun wz hSw => ?_) ?_
  rotate_left 1
  · (try dsimp only at hSw)
    clear hSw
    go_simp
    try with_reducible rfl
  simp only [List.set_cons_succ, List.set_cons_zero]
  refine takeL 12 60 (v := ?_) rfl rfl (by kernel_rfl) (by kernel_rfl) (by kernel_rfl) (fun _ _ _ h => h) (by rfl) hHeld (fun wz hSw => ?_) ?_
  rotate_left 1
  · (try dsimp only at hSw)
    clear hSw
    go_simp
    try with_reducible rfl
  simp only [List.set_cons_succ, List.set_cons_zero]
  refine takeA 13 16 59 rfl rfl rfl (by kernel_rfl) (by kernel_rfl) (by kernel_rfl) (fun _ _ _ h => h) (by rfl) hHeld rfl ?_
  simp only [List.set_cons_succ, List.set_cons_zero]
  refine takeA 14 17 60 rfl rfl rfl (by kernel_rfl) (by kernel_rfl) (by kernel_rfl) (fun _ _ _ h => h) (by rfl) hHeld rfl ?_
  simp only [List.set_cons_succ, List.set_cons_zero]
  refine wpAnyH_done (by kernel_rfl) ?_ _
  clear hHeld
  have u0 := sd.sat.conv (c := cd)
  have u1 := (sy.below hb).conv (c := d)
  cases i
  · go_wp2_with fail
    clear u0 u1
    refine (hO.twice F4 _ st1 false (by omega) ⟨fun h => absurd h (by decide), fun h => absurd h hone.2⟩ _ hI).mono ?_
    rintro e w8 ⟨F5, rfl, hK5⟩
    replace hb := hb.trans (hK5.off.below hF4 hb.size)
    clear hK5
    go_wp2_with fail
    refine (lknown hO _).mono ?_
    rintro e w9 ⟨rfl, hc⟩
    replace hb := hb.trans (hc.mono hb.size)
    go_wp2
    go_ret
    exact ⟨rfl, hB.trans (hb.mono hB.size)⟩
  · obtain rfl := hodd rfl
    simp only [Option.isSome_none]
    go_wp2_with fail
    clear u0 u1
    refine (hO.twice F4 _ st1 false (by omega) ⟨fun h => absurd h (by decide), fun h => absurd h hone.2⟩ _ hI).mono ?_
    rintro e w8 ⟨F5, rfl, hK5⟩
    replace hb := hb.trans (hK5.off.below hF4 hb.size)
    clear hK5
    go_wp2_with fail
    refine (lknown hO _).mono ?_
    rintro e w9 ⟨rfl, hc⟩
    replace hb := hb.trans (hc.mono hb.size)
    go_wp2
    go_ret
    exact ⟨rfl, hB.trans (hb.mono hB.size)⟩
end Go.Proofs.Ytkkehbebaokdmaa
