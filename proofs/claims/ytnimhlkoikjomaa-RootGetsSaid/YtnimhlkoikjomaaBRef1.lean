/- What lockboxref1.Put and Bytes come to, for the stages that call them. -/
import Derived.Test.YtnimhlkoikjomaaBWire
import Derived.Test.YtnimhlkoikjomaaBox
namespace Go.Proofs.Ytnimhlkoikjomaa
open Go.RowKit
set_option maxRecDepth 20000

theorem shr_byte (V j : Nat) : (V : Int) / 2 ^ (8 * j) % 256 = (byteAt V j : Nat) := by
  rw [byteAt, Int.pow_mul]
  simp
theorem rput_step {w1 : World} {base : Nat} {v : Value} (V n k : Nat) (h1 : 1 ≤ k) (h2 : k ≤ n)
    (h : w1.ownsRow base 5 1 v (n - k + 1) (((putL V n).take (n - k)).map (Value.int .u8) ++ [.int .u8 ((V : Int) / 2 ^ (8 * (k - 1)) % 256)])) :
    w1.ownsRow base 5 1 v (n - (k - 1)) (((putL V n).take (n - (k - 1))).map (Value.int .u8)) := by
  have e : n - (k - 1) = n - k + 1 := by omega
  have hl : n - k < (putL V n).length := by rw [putL_length]; omega
  rw [e, List.take_succ_eq_append_getElem hl, List.map_append]
  have e2 : (putL V n)[n - k] = (V : Int) / 2 ^ (8 * (k - 1)) % 256 := by
    rw [shr_byte]
    simp only [putL, List.getElem_map, List.getElem_range]
    rw [show n - 1 - (n - k) = k - 1 from by omega]
  rw [e2]
  exact h
set_option maxHeartbeats 400000 in
theorem rput_own (V : Nat) (n : Nat) (w : World) (h1 : 1 ≤ n) (h2 : n ≤ 8) :
    Calls Try.prog 21 #[.int .u64 V, .int .i64 n] w fun e w' => ∃ v, e = .returned v ∧ w'.ownsRow w.heap.size 5 1 v n ((putL V n).map (Value.int .u8)) ∧ Below w.heap.size w w' := by
  obtain ⟨i0, hi, hz0, hz1, hz2⟩ := info_parts Try.info5
  go_enter Try.func21, Try.ntmps21
  go_wp2
  go_loopw [5, 6] (fun v i wr => ∃ k : Nat, k ≤ n ∧ i = .int .i64 ((k : Int) - 1) ∧ wr.ownsRow w.heap.size 5 1 v (n - k) (((putL V n).take (n - k)).map (Value.int .u8)) ∧ Below w.heap.size w wr)
    (fun _ i _ => (intOf i + 1).toNat)
  case atStart =>
    exact ⟨n, Nat.le_refl _, rfl, by simpa using World.ownsRow_nil _ _ _ _, Below.refl _ _⟩
  case round =>
    obtain ⟨k, hk, rfl, hown, hb⟩ := hrel
    by_cases hlt : 1 ≤ k
    · have hL : n - k ≤ 8 := by omega
      have hS := hb.size
      go_wp2_with (at_builtin; refine wpList_append_own _ rfl _ _ 28 rfl w.heap.size 5 i0 (.int .u8 0) 1 1 Try.underlying28 hi hz0 hz1 hz2 rfl (by decide) _ _ _ rfl (hown.alloc _) ⟨wr.heap.size, 0, none⟩ 1 1 [.int .u8 ((V : Int) / 2 ^ (8 * (k - 1)) % 256)] rfl rfl ?c1 ?c2 ?c3 ?c4 ?c5 ?_)
      case c1 =>
        intro j u hj
        match j, hj with
        | 0, hj => simp at hj; subst hj; simp [Addr.add]
      case c2 => intro u hu; simp at hu; subst hu; rfl
      case c3 => unfold maxLen; omega
      case c4 => omega
      case c5 => simp; omega
      · intro v' w1 hown' hgrow _
        have R := rput_step V n k hlt hk (by rw [List.map_take]; exact hown')
        have hb' : Below w.heap.size w w1 := Below.grown (hb.alloc hS _) hgrow (by simp; omega) (own_block hown)
        clear hown' hgrow hown hb
        go_wp2
        go_roundw
        case rel => exact ⟨k - 1, by omega, by rw [show (k : Int) - 1 - 1 = ((k - 1 : Nat) : Int) - 1 from by omega], R, hb'⟩
        case measure => simp [intOf]; omega
    · go_wp2
      have hk0 : k = 0 := by omega
      subst hk0
      rw [Nat.sub_zero, List.take_of_length_le (by rw [putL_length]; exact Nat.le_refl _)] at hown
      go_ret
      exact ⟨_, rfl, hown, hb⟩
theorem own_low {w : World} {base base' n : Nat} {e : TypeId} {size : Nat} {v : Value} {xs : List Value} (h : w.ownsRow base e size v n xs) (hb : base' ≤ base) : w.ownsRow base' e size v n xs := by
  obtain ⟨h1, h2 | ⟨g, cap, cur, hv, hg, rest⟩⟩ := h
  · exact ⟨h1, Or.inl h2⟩
  · exact ⟨h1, Or.inr ⟨g, cap, cur, hv, Nat.le_trans hb hg, rest⟩⟩
set_option maxHeartbeats 1000000 in
theorem rbytes (p : BitVec 64 × BitVec 64) (w : World) : Calls Try.prog 22 #[.agg #[.int .u64 (nv p.1), .int .u64 (nv p.2)]] w fun e w' => ∃ v, e = .returned v ∧ w'.ownsRow w.heap.size 5 1 v 16 ((pairL p).map (Value.int .u8)) ∧ Below w.heap.size w w' := by
  go_enter Try.func22, Try.ntmps22
  go_wp2
  have b0 := Box.new w (nv p.1) (nv p.2)
  have hB : Below w.heap.size w (w.alloc (.cells #[.int .u64 (nv p.1), .int .u64 (nv p.2)] 25)) := by go_grown
  generalize w.alloc (.cells #[.int .u64 (nv p.1), .int .u64 (nv p.2)] 25) = W at *
  have hsz : w.heap.size + 1 ≤ W.drew.heap.size := b0.lt
  refine wp_region_held_drew (S := fun w' => w'.cell? ⟨w.heap.size, 0, none⟩ = some (.int .u64 (nv p.1)) ∧ w'.cell? ⟨w.heap.size, 1, none⟩ = some (.int .u64 (nv p.2))) (by kernel_rfl) ⟨b0.c0, b0.c1⟩ (fun hHeld => ?_)
  refine takeL 0 3 (v := ?_) rfl rfl (by kernel_rfl) (by kernel_rfl) (by kernel_rfl) (fun _ _ _ h => h) (by rfl) hHeld (fun w hSw => ?_) ?_
  rotate_left 1
  · (try dsimp only at hSw); go_simp; try with_reducible rfl
  simp only [List.set_cons_succ, List.set_cons_zero]
  refine takeL 1 4 (v := ?_) rfl rfl (by kernel_rfl) (by kernel_rfl) (by kernel_rfl) (fun _ _ _ h => h) (by rfl) hHeld (fun w hSw => ?_) ?_
  rotate_left 1
  · (try dsimp only at hSw); go_simp; try with_reducible rfl
  simp only [List.set_cons_succ, List.set_cons_zero]
  refine takeL 3 6 (v := ?_) rfl rfl (by kernel_rfl) (by kernel_rfl) (by kernel_rfl) (fun _ _ _ h => h) (by rfl) hHeld (fun w hSw => ?_) ?_
  rotate_left 1
  · (try dsimp only at hSw); go_simp; try with_reducible rfl
  simp only [List.set_cons_succ, List.set_cons_zero]
  refine takeL 4 7 (v := ?_) rfl rfl (by kernel_rfl) (by kernel_rfl) (by kernel_rfl) (fun _ _ _ h => h) (by rfl) hHeld (fun w hSw => ?_) ?_
  rotate_left 1
  · (try dsimp only at hSw); go_simp; try with_reducible rfl
  simp only [List.set_cons_succ, List.set_cons_zero]
  refine onlyL 2 rfl (by kernel_rfl) (by rfl) (fun K hK => ?_)
  go_wp2_with fail
  refine (rput_own p.1.toNat 8 _ (by decide) (by decide)).mono ?_
  rintro e w1 ⟨v5, rfl, own1, hb1⟩
  have hb1 := (Below.refl _ _).drew.trans hb1
  replace b0 := b0.grown hb1
  replace hB := hB.trans (hb1.mono hB.size)
  replace own1 := own_low own1 hsz
  clear hb1
  refine hK.out _ _ ⟨b0.c0, b0.c1⟩ (fun hHeld => ?_)
  clear hK K
  refine onlyL 5 rfl (by kernel_rfl) (by rfl) (fun K hK => ?_)
  go_wp2_with fail
  refine (rput_own p.2.toNat 8 _ (by decide) (by decide)).mono ?_
  rintro e w2 ⟨v8, rfl, own2, hb2⟩
  replace b0 := b0.grown hb2
  replace own1 := own_grown own1 hb2
  replace hB := hB.trans (hb2.mono hB.size)
  clear hb2
  obtain ⟨x8, c8, rfl, sat8⟩ := own_sat (putL_length _ _) own2
  refine hK.out _ _ ⟨b0.c0, b0.c1⟩ (fun hHeld => ?_)
  clear hK K
  refine onlyL 6 rfl (by kernel_rfl) (by rfl) (fun K hK => ?_)
  refine wp_app (.tmp 5) (.tmp 8) rfl (w.heap.size + 1) v5 8 _ rfl own1 x8 8 c8 _ rfl sat8 (fun e => by obtain ⟨_, _, h, _⟩ := sat8.2 (by decide); rw [e] at h; cases h) (by decide) b0.lt (fun v9 w3 own3 hg _ => ?_)
  replace hB := hB.grown hg hB.size (fun k e => Nat.le_of_succ_le (own_block own1 k e))
  replace b0 : Box w3 w.heap.size (nv p.1) (nv p.2) := (hg.block _ b0.lt (fun e => absurd (own1.lt _ e.symm).1 (Nat.not_le.2 (Nat.lt_succ_self w.heap.size)))).trans b0
  clear hg own1 own2 sat8
  refine hK.out _ _ ⟨b0.c0, b0.c1⟩ (fun hHeld => ?_)
  clear hK K
  simp only [Act.put, List.setIfInBounds_toArray]
  refine takeA 7 2 9 rfl rfl rfl (by kernel_rfl) (by kernel_rfl) (by kernel_rfl) (fun _ _ _ h => h) (by rfl) hHeld rfl ?_
  simp only [List.set_cons_succ, List.set_cons_zero]
  refine wpAnyH_done (by kernel_rfl) ?_ _
  go_wp2
  go_ret
  exact ⟨_, rfl, own_low own3 (Nat.le_succ _), hB⟩
theorem ret_two {k : IntKind} {a b : Int} {v : Value} (h : a = b) : Ending.returned (.tuple #[.int k a, v]) = .returned (.tuple #[.int k b, v]) := by rw [h]
set_option maxHeartbeats 400000 in
theorem rget_some (b off cap n : Nat) (xs : List Int) (w : World) (hn : xs.length = n) (h1 : 1 ≤ n) (hl : n ≤ 8) (hx : Bytes xs) (hc : At w b off xs) :
    Calls Try.prog 26 #[.slice (some ⟨b, off, none⟩) n cap] w fun e w' => e = .returned (.tuple #[.int .u64 (num xs), .bool true]) ∧ w' = w := by
  subst hn
  go_enter Try.func26, Try.ntmps26
  go_wp2
  go_loop [4, 5] (fun v i => ∃ k : Nat, k ≤ xs.length ∧ i = .int .i64 k ∧ v = .int .u64 (num (xs.take k))) (fun _ i => xs.length - (intOf i).toNat)
  case atStart => exact ⟨0, Nat.zero_le _, rfl, rfl⟩
  case round =>
    obtain ⟨k, hk, rfl, rfl⟩ := hrel
    by_cases hlt : k < xs.length
    · have hck := hc k hlt
      go_wp2
      go_round
      case rel => exact ⟨k + 1, hlt, by go_num, by rw [num_step xs hx hl k hlt]⟩
      case measure => simp [intOf]; omega
    · go_wp2
      go_ret2
      exact ⟨ret_two (by rw [List.take_of_length_le (by omega)]), rfl⟩
set_option maxHeartbeats 400000 in
theorem rpair_none (a : Option Addr) (n cap : Nat) (w : World) (h : n ≠ 16) :
    Calls Try.prog 27 #[.slice a n cap] w fun e w' => e = .returned (.tuple #[.agg #[.int .u64 0, .int .u64 0], .bool false]) ∧ Below w.heap.size w w' := by
  have h' : ((n : Int) != 16) = true := by rw [bne_iff_ne]; omega
  go_enter Try.func27, Try.ntmps27
  go_wp2
  exact bodyPost_ret (v := .tuple #[.agg #[.int .u64 0, .int .u64 0], .bool false]) (by simp [results, Try.results27, go_sem]) rfl ⟨rfl, by go_grown⟩
set_option maxHeartbeats 1000000 in
theorem rpair_some (b off cap : Nat) (xs : List Int) (w : World) (hn : xs.length = 16) (hcap : 16 ≤ cap) (hcm : cap ≤ maxLen) (hx : Bytes xs) (hb : b < w.heap.size) (hat0 : At w b off xs) :
    Calls Try.prog 27 #[.slice (some ⟨b, off, none⟩) 16 cap] w fun e w' => e = .returned (.tuple #[.agg #[.int .u64 (num (xs.take 8)), .int .u64 (num (xs.drop 8))], .bool true]) ∧ Below w.heap.size w w' := by
  unfold maxLen at hcm
  have hn8 : 8 ≤ xs.length := by omega
  have c8 : (8 : Int) ≤ (cap : Int) := by omega
  have c16 : (16 : Int) ≤ (cap : Int) := by omega
  have cn : ¬ cap = 8 := by omega
  have hat := hat0.alloc hb (.cells #[.int .u64 0, .int .u64 0] 25)
  go_enter Try.func27, Try.ntmps27
  go_wp2_with fail
  refine (rget_some b off cap 8 (xs.take 8) _ (by simp [hn]) (by omega) (by omega) (hx.take 8) (At.cut1 hat 8 hn8)).mono ?_
  rintro e w1 ⟨rfl, rfl⟩
  go_wp2_with fail
  refine (rget_some b (off + 8) (cap - 8) 8 (xs.drop 8) _ (by simp [hn]) (by omega) (by omega) (hx.drop 8) (At.cut2 hat 8)).mono ?_
  rintro e w1 ⟨rfl, rfl⟩
  go_wp2
  exact bodyPost_ret (v := .tuple #[.agg #[.int .u64 (num (xs.take 8)), .int .u64 (num (xs.drop 8))], .bool true]) (by simp [results, Try.results27, go_sem]) rfl ⟨rfl, by go_grown⟩
theorem rpair (b off cap : Nat) (xs : List Int) (w : World) (hn : xs.length = 16) (hcap : 16 ≤ cap) (hcm : cap ≤ maxLen) (hx : Bytes xs) (hb : b < w.heap.size) (hat : At w b off xs) :
    Calls Try.prog 27 #[.slice (some ⟨b, off, none⟩) 16 cap] w fun e w' => e = .returned (.tuple #[.agg #[.int .u64 (nv (pairOf xs).1), .int .u64 (nv (pairOf xs).2)], .bool true]) ∧ Below w.heap.size w w' := by
  rw [pairOf_1 xs hx, pairOf_2 xs hx (by omega)]
  exact rpair_some b off cap xs w hn hcap hcm hx hb hat
end Go.Proofs.Ytnimhlkoikjomaa
