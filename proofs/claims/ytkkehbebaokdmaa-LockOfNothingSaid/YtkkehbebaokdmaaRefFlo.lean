/- What lockboxref4's functions come to. -/
import Derived.Test.YtkkehbebaokdmaaFlo
import Derived.Test.YtkkehbebaokdmaaBoxN
import Derived.Test.YtkkehbebaokdmaaBRef1
import Derived.Test.YtkkehbebaokdmaaRefEnc
namespace Go.Proofs.Ytkkehbebaokdmaa
open Go.RowKit
set_option maxRecDepth 20000

theorem nonP_or2 (n : Nn) : bits .or .u64 (nv32 n.1 * 4294967296) (nv32 n.2.1) = nv (nonP n).1 := by
  rw [← nonP_or n]
  have := nv32_range n.1
  congr 1
  rw [IntKind.wrap_u64]
  omega

set_option maxHeartbeats 1000000 in
theorem rsub (key : BitVec 64 × BitVec 64) (n : Nn) (w : World) : Calls Try.prog 39 #[.agg #[.int .u64 (nv key.1), .int .u64 (nv key.2)], .agg #[.int .u32 (nv32 n.1), .int .u32 (nv32 n.2.1), .int .u64 (nv n.2.2)]] w fun e w' => e = .returned (.agg #[.int .u64 (nv (subP key n).1), .int .u64 (nv (subP key n).2)]) ∧ Below w.heap.size w w' := by
  have h1 := nv32_range n.1
  have h2 := nv32_range n.2.1
  go_enter Try.func39, Try.ntmps39
  go_wp2_with fail
  rw [nonP_or2 n]
  have bR := Box.new ((w.alloc (.cells #[.int .u64 (nv key.1), .int .u64 (nv key.2)] 30)).alloc (.cells #[.int .u32 (nv32 n.1), .int .u32 (nv32 n.2.1), .int .u64 (nv n.2.2)] 35)) 0 0
  have hB : Below w.heap.size w (((w.alloc (.cells #[.int .u64 (nv key.1), .int .u64 (nv key.2)] 30)).alloc (.cells #[.int .u32 (nv32 n.1), .int .u32 (nv32 n.2.1), .int .u64 (nv n.2.2)] 35)).alloc (.cells #[.int .u64 0, .int .u64 0] 30)) := by go_grown
  simp only [World.size_alloc] at bR
  refine (rencrypt key (nonP n) _).mono ?_
  rintro e w1 ⟨rfl, hb1⟩
  replace bR := bR.grown hb1
  replace hB := hB.trans (hb1.mono hB.size)
  clear hb1 h1 h2
  have g0 := bR.c0
  have g1 := bR.c1
  have g2 := bR.frozen 0
  have g3 := bR.frozen 1
  go_wp2
  refine bodyPost_ret (v := .agg #[.int .u64 (nv (subP key n).1), .int .u64 (nv (subP key n).2)]) (by simp [results, Try.results39, go_sem, g0, g1, subP]) rfl ⟨rfl, ?_⟩
  exact (hB.setCell (by simp only; omega) _).setCell (by simp only; omega) _

theorem rencrypt_at (k p : BitVec 64 × BitVec 64) (p1 p2 : Int) (hp1 : nv p.1 = p1) (hp2 : nv p.2 = p2) (w : World) :
    Calls Try.prog 59 #[.agg #[.int .u64 (nv k.1), .int .u64 (nv k.2)], .agg #[.int .u64 p1, .int .u64 p2]] w fun e w' => e = .returned (.agg #[.int .u64 (nv (enc k p).1), .int .u64 (nv (enc k p).2)]) ∧ Below w.heap.size w w' := by
  subst hp1 hp2
  exact rencrypt k p w

set_option maxHeartbeats 400000 in
theorem rflow_out (sub : BitVec 64 × BitVec 64) (n : Int) (h : n < 0 ∨ 4000 < n) (w : World) : Calls Try.prog 41 #[.agg #[.int .u64 (nv sub.1), .int .u64 (nv sub.2)], .int .i64 n] w fun e w' => e = .returned (.slice none 0 0) ∧ Below w.heap.size w w' := by
  by_cases h1 : n < 0
  · clear h
    go_enter Try.func41, Try.ntmps41
    go_wp2
    go_ret
    exact ⟨rfl, by go_grown⟩
  · have h2 : 4000 < n := by omega
    clear h
    go_enter Try.func41, Try.ntmps41
    go_wp2
    go_ret
    exact ⟨rfl, by go_grown⟩

set_option maxRecDepth 10000 in
set_option maxHeartbeats 1000000 in
theorem rflow_in (sub : BitVec 64 × BitVec 64) (n : Nat) (hn : n ≤ 4000) (w : World) : Calls Try.prog 41 #[.agg #[.int .u64 (nv sub.1), .int .u64 (nv sub.2)], .int .i64 n] w fun e w' => ∃ x c, e = .returned (.slice x n c) ∧ SAt w' x n (flowL sub n) ∧ n ≤ c ∧ c ≤ maxLen ∧ (x = none → n = 0 ∧ c = 0) ∧ Below w.heap.size w w' := by
  have hsl := sl_head
  go_enter Try.func41, Try.ntmps41
  go_wp2
  have b0 := Box.new w (nv sub.1) (nv sub.2)
  have hB : Below w.heap.size w (w.alloc (.cells #[.int .u64 (nv sub.1), .int .u64 (nv sub.2)] 30)) := by go_grown
  generalize w.alloc (.cells #[.int .u64 (nv sub.1), .int .u64 (nv sub.2)] 30) = W at *
  go_loopw [5, 6] (fun v i wr => ∃ k : Nat, 16 * k < n + 16 ∧ i = .int .i64 ((k : Int) + 1) ∧ wr.ownsRow (w.heap.size + 1) 5 1 v (16 * k) ((blk sub k).map (Value.int .u8)) ∧ Box wr w.heap.size (nv sub.1) (nv sub.2) ∧ Below w.heap.size w wr) (fun _ i _ => 5000 - (intOf i).toNat)
  case atStart => exact ⟨0, by omega, rfl, World.ownsRow_nil _ _ _ _, b0, hB⟩
  case round =>
    clear b0 hB
    obtain ⟨k, hk, rfl, hown, b0, hB⟩ := hrel
    have hlb := blk_length sub k
    obtain ⟨x, c, rfl, hsat⟩ := own_sat hlb hown
    by_cases hlt : 16 * k < n
    · have c0 := b0.c0
      have c1 := b0.c1
      have HS := hide' (blk_succ sub k)
      go_wp2_with fail
      refine (rencrypt_at sub (BitVec.ofNat 64 (k + 1), 0#64) _ _ (nv_small (k + 1) (by omega)) rfl _).mono ?_
      rintro e w1 ⟨rfl, hb1⟩
      replace b0 := b0.grown hb1
      replace hown := own_grown hown hb1
      replace hB := hB.trans (hb1.mono hB.size)
      clear hb1 c0 c1 hsat
      go_wp2_with fail
      refine (rbytes _ _).mono ?_
      rintro e w2 ⟨v2, rfl, own2, hb2⟩
      replace b0 := b0.grown hb2
      replace hown := own_grown hown hb2
      replace hB := hB.trans (hb2.mono hB.size)
      clear hb2
      obtain ⟨x2, c2, rfl, hsat2⟩ := own_sat (pairL_length _) own2
      have hx2 : x2 = none → 16 = 0 ∧ c2 = 0 := fun e => by
        obtain ⟨_, _, h, _⟩ := hsat2.2 (by decide)
        rw [e] at h
        cases h
      have hS : w.heap.size + 1 ≤ w2.heap.size := b0.lt
      go_wp2_with (at_builtin; refine wpList_app rfl _ _ rfl (w.heap.size + 1) _ (16 * k) (blk sub k) rfl hown x2 16 c2 _ rfl hsat2 hx2 (by omega) hS ?_)
      intro v' w3 hown3 hb3 _
      replace b0 := b0.below hb3 (Nat.lt_succ_self _)
      replace hB := hB.trans (hb3.mono (Nat.le_succ _))
      clear hown own2 hsat2 hx2 hb3
      go_wp2
      go_roundw
      case rel =>
        refine ⟨k + 1, by omega, by go_num, ?_, b0, hB⟩
        rw [HS.out, show 16 * (k + 1) = 16 * k + 16 from by omega]
        first | exact hown3 | (rw [List.map_append]; exact hown3)
      case measure => simp [intOf]; omega
    · obtain ⟨h1, h2 | ⟨g, cap, cur, hv, hg, hh, hnc, hcm, _⟩⟩ := hown
      · obtain ⟨h2, h3⟩ := h2
        simp only [Value.slice.injEq] at h2
        obtain ⟨rfl, h4, rfl⟩ := h2
        obtain rfl : n = 0 := by omega
        obtain rfl : k = 0 := by omega
        go_wp2
        go_ret
        exact ⟨none, 0, rfl, ⟨flowL_length _ _, fun h => absurd h (by omega)⟩, by decide, by simp, hB⟩
      · simp only [Value.slice.injEq] at hv
        obtain ⟨rfl, _, hcc⟩ := hv
        subst hcc
        have hnc' : n ≤ c := by omega
        go_wp2
        go_ret
        refine ⟨_, c, rfl, ?_, hnc', hcm, (fun h => by cases h), hB⟩
        rw [← flowL_of sub n k (by omega)]
        exact hsat.head (by omega)

theorem rflow (sub : BitVec 64 × BitVec 64) (n : Int) (w : World) : Calls Try.prog 41 #[.agg #[.int .u64 (nv sub.1), .int .u64 (nv sub.2)], .int .i64 n] w fun e w' => Gives e w' (flowI sub n) ∧ Below w.heap.size w w' := by
  by_cases h : n < 0 ∨ 4000 < n
  · exact (rflow_out sub n h w).mono fun _ _ ⟨he, hb⟩ => ⟨⟨none, 0, 0, he, by rw [flowI_out sub n h]; exact SAt.none _ _, Nat.le_refl _, Nat.zero_le _, fun _ => ⟨rfl, rfl⟩⟩, hb⟩
  · obtain ⟨m, rfl⟩ : ∃ m : Nat, n = m := ⟨n.toNat, by omega⟩
    rw [flowI_in sub m (by omega)]
    exact (rflow_in sub m (by omega) w).mono fun _ _ ⟨x, c, he, hs, hc, hm, hn, hb⟩ => ⟨⟨x, m, c, he, hs, hc, hm, hn⟩, hb⟩

set_option maxRecDepth 10000 in
set_option maxHeartbeats 2000000 in
theorem rxor_own (xs ys : List Int) (x y : Option Addr) (n m c d : Nat) (hn : n ≤ 50000) (hm : m ≤ 50000) (w : World) (hx : SAt w x n xs) (hy : SAt w y m ys) : Calls Try.prog 40 #[.slice x n c, .slice y m d] w fun e w' => ∃ v, e = .returned v ∧ w'.ownsRow w.heap.size 5 1 v (min n m) ((xorL xs ys).map (Value.int .u8)) ∧ Below w.heap.size w w' := by
  go_enter Try.func40, Try.ntmps40
  go_wp2
  go_loopw [5, 6] (fun v i wr => ∃ k : Nat, k ≤ n ∧ k ≤ m ∧ i = .int .i64 (k : Int) ∧ wr.ownsRow w.heap.size 5 1 v k (((xorL xs ys).take k).map (Value.int .u8)) ∧ Below w.heap.size w wr) (fun _ i _ => n - (intOf i).toNat)
  case atStart => exact ⟨0, Nat.zero_le _, Nat.zero_le _, rfl, World.ownsRow_nil _ _ _ _, Below.refl _ _⟩
  case round =>
    obtain ⟨k, hk, hk2, rfl, hown, hB⟩ := hrel
    by_cases hlt : k < n ∧ k < m
    · obtain ⟨h1, h2⟩ := hlt
      obtain ⟨ba, oa, rfl, hba, ata⟩ := hx.2 (by omega)
      obtain ⟨bb, ob, rfl, hbb, atb⟩ := hy.2 (by omega)
      have HS := hide' (xorL_take xs ys k (by rw [hx.1]; exact h1) (by rw [hy.1]; exact h2))
      have ca := (hB.cell (p := ⟨ba, oa + k, none⟩) hba).trans (ata k (by rw [hx.1]; exact h1))
      have cb := (hB.cell (p := ⟨bb, ob + k, none⟩) hbb).trans (atb k (by rw [hy.1]; exact h2))
      have hlen : ((xorL xs ys).take k).length = k := by rw [List.length_take, xorL_length, hx.1, hy.1]; omega
      clear ata atb hx hy
      generalize xs.getD k 0 = u at *
      generalize ys.getD k 0 = v0 at *
      go_wp2_with fail
      refine wp_region_held_drew (S := fun w' => Below w.heap.size wr w') (by kernel_rfl) (Below.refl _ _).drew (fun hHeld => ?_)
      refine takeM 0 19 5 rfl rfl rfl (by kernel_rfl) (by kernel_rfl) (by kernel_rfl) (fun _ _ _ h => h) (by rfl) hHeld rfl ?_
      simp only [List.set_cons_succ, List.set_cons_zero]
      refine takeM 1 20 0 rfl rfl rfl (by kernel_rfl) (by kernel_rfl) (by kernel_rfl) (fun _ _ _ h => h) (by rfl) hHeld rfl ?_
      simp only [List.set_cons_succ, List.set_cons_zero]
      refine takeM 2 21 6 rfl rfl rfl (by kernel_rfl) (by kernel_rfl) (by kernel_rfl) (fun _ _ _ h => h) (by rfl) hHeld rfl ?_
      simp only [List.set_cons_succ, List.set_cons_zero]
      refine takeL 3 22 (v := ?_) rfl rfl (by kernel_rfl) (by kernel_rfl) (by kernel_rfl) (fun _ _ _ h => h) (by rfl) hHeld (fun w hSw => ?_) ?_
      rotate_left 1
      · (try dsimp only at hSw)
        clear hSw
        go_simp
        try with_reducible rfl
      simp only [List.set_cons_succ, List.set_cons_zero]
      refine takeM 5 24 1 rfl rfl rfl (by kernel_rfl) (by kernel_rfl) (by kernel_rfl) (fun _ _ _ h => h) (by rfl) hHeld rfl ?_
      simp only [List.set_cons_succ, List.set_cons_zero]
      refine takeM 6 25 6 rfl rfl rfl (by kernel_rfl) (by kernel_rfl) (by kernel_rfl) (fun _ _ _ h => h) (by rfl) hHeld rfl ?_
      simp only [List.set_cons_succ, List.set_cons_zero]
      refine takeL 7 26 (v := ?_) rfl rfl (by kernel_rfl) (by kernel_rfl) (by kernel_rfl) (fun _ _ _ h => h) (by rfl) hHeld (fun w hSw => ?_) ?_
      rotate_left 1
      · (try dsimp only at hSw)
        clear hSw
        go_simp
        try with_reducible rfl
      simp only [List.set_cons_succ, List.set_cons_zero]
      refine takeL 4 23 (v := ?_) rfl rfl (by kernel_rfl) (by kernel_rfl) (by kernel_rfl) (fun _ _ _ h => h) (by rfl) hHeld (fun w hSw => ?_) ?_
      rotate_left 1
      · (try dsimp only at hSw)
        have e0_ := (hSw.cell (p := ⟨ba, oa + k, none⟩) hba).trans ca
        clear hSw
        go_simp
        try with_reducible rfl
      simp only [List.set_cons_succ, List.set_cons_zero]
      refine takeL 8 27 (v := ?_) rfl rfl (by kernel_rfl) (by kernel_rfl) (by kernel_rfl) (fun _ _ _ h => h) (by rfl) hHeld (fun w hSw => ?_) ?_
      rotate_left 1
      · (try dsimp only at hSw)
        have e0_ := (hSw.cell (p := ⟨bb, ob + k, none⟩) hbb).trans cb
        clear hSw
        go_simp
        try with_reducible rfl
      simp only [List.set_cons_succ, List.set_cons_zero]
      refine takeL 9 28 (v := ?_) rfl rfl (by kernel_rfl) (by kernel_rfl) (by kernel_rfl) (fun _ _ _ h => h) (by rfl) hHeld (fun w hSw => ?_) ?_
      rotate_left 1
      · (try dsimp only at hSw)
        clear hSw
        go_simp
        try with_reducible rfl
      simp only [List.set_cons_succ, List.set_cons_zero]
      refine onlyL 10 rfl (by kernel_rfl) (by rfl) (fun K hK => ?_)
      go_wp2_with fail
      have hb1 : Below wr.heap.size wr (wr.drew.alloc (.cells #[.int .u8 (xor8 u v0)] 5)) := (Below.refl wr.heap.size wr).drew.alloc (Nat.le_refl _) _
      have at1 : At (wr.drew.alloc (.cells #[.int .u8 (xor8 u v0)] 5)) wr.heap.size 0 [xor8 u v0] := At.one wr.drew (xor8 u v0)
      have lt1 : wr.heap.size < (wr.drew.alloc (.cells #[.int .u8 (xor8 u v0)] 5)).heap.size := by rw [World.size_alloc, World.size_drew]; omega
      replace hown := own_grown hown hb1
      have hS := hB.size
      have hB1 := hb1.mono hS
      replace hB := hB.trans hB1
      refine hK.out _ _ hB1 (fun _ => ?_)
      clear hK K hHeld hb1
      change wpAnyH _ _ _ _ _ _ _ _ (wr.drew.alloc (.cells #[.int .u8 (xor8 u v0)] 5))
      generalize wr.drew.alloc (.cells #[.int .u8 (xor8 u v0)] 5) = w1 at *
      refine onlyL 11 rfl (by kernel_rfl) (by rfl) (fun K hK => ?_)
      refine wp_app (.tmp 19) (.tmp 29) rfl w.heap.size _ k _ rfl hown _ 1 1 [xor8 u v0] rfl (at1.sat lt1 rfl) (fun e => by cases e) (by omega) (Nat.le_trans hS (Nat.le_of_lt lt1)) (fun v2 w2 own2 hg _ => ?_)
      have hB2 := (Below.refl w.heap.size w1).grown hg (Nat.le_trans hS (Nat.le_of_lt lt1)) (own_block hown)
      replace hB := hB.trans hB2
      have R : w2.ownsRow w.heap.size 5 1 v2 (k + 1) (((xorL xs ys).take (k + 1)).map (Value.int .u8)) := by
        rw [HS.out]
        exact own2
      refine hK.out _ _ (hB1.trans hB2) (fun hHeld => ?_)
      clear hK K
      simp only [Act.put, List.setIfInBounds_toArray]
      refine takeA 12 5 30 rfl rfl rfl (by kernel_rfl) (by kernel_rfl) (by kernel_rfl) (fun _ _ _ h => h) (by rfl) hHeld rfl ?_
      simp only [List.set_cons_succ, List.set_cons_zero]
      refine wpAnyH_done (by kernel_rfl) ?_ _
      go_wp2

      go_roundw
      case rel => exact ⟨k + 1, h1, h2, by go_num, R, hB⟩
      case measure => simp [intOf]; omega
    · have hkm : k = min n m := by omega
      have ht : (xorL xs ys).take k = xorL xs ys := List.take_of_length_le (by rw [xorL_length, hx.1, hy.1]; omega)
      rw [ht] at hown
      rw [hkm] at hown
      by_cases h1 : k < n
      · have h2 : ¬ k < m := by omega
        go_wp2
        go_ret
        exact ⟨_, rfl, hown, hB⟩
      · go_wp2
        go_ret
        exact ⟨_, rfl, hown, hB⟩
theorem rxor (xs ys : List Int) (x y : Option Addr) (n m c d : Nat) (hn : n ≤ 50000) (hm : m ≤ 50000) (w : World) (hx : SAt w x n xs) (hy : SAt w y m ys) : Calls Try.prog 40 #[.slice x n c, .slice y m d] w fun e w' => Gives e w' (xorL xs ys) ∧ Below w.heap.size w w' :=
  (rxor_own xs ys x y n m c d hn hm w hx hy).mono fun _ _ ⟨_, he, ho, hb⟩ => ⟨he ▸ own_gives (by rw [xorL_length, hx.1, hy.1]) ho, hb⟩
end Go.Proofs.Ytkkehbebaokdmaa
