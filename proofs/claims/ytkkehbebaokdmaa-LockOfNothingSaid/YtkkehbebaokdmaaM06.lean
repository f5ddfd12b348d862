/- BRef1 RefSpk RefEnc RefFlo FloSaid: texts laid together. -/
import Derived.Test.YtkkehbebaokdmaaM03
import Derived.Test.YtkkehbebaokdmaaM01
import Derived.Test.YtkkehbebaokdmaaRows
import Derived.Test.YtkkehbebaokdmaaM02
import Derived.WalkKit
import Derived.WalkSpells
import Derived.WalkLawsBesides
import Derived.Deep.OwnRows
import Derived.Handy
import Derived.Test.YtkkehbebaokdmaaM04

/- What lockboxref1.Put and Bytes come to, for the stages that call them. -/
namespace Go.Proofs.Ytkkehbebaokdmaa
open Go.RowKit
set_option maxRecDepth 20000

theorem shr_byte (V j : Nat) : (V : Int) / 2 ^ (8 * j) % 256 = (byteAt V j : Nat) := by
  rw [byteAt, Int.pow_mul]
  simp
theorem rput_step {w1 : World} {base : Nat} {v : Value} (V n k : Nat) (h1 : 1 ≤ k) (h2 : k ≤ n)
    (h : w1.ownsRow base 5 1 v (n - k + 1) (((putL V n).take (n - k)).map (Value.int .u8) ++ [.int .u8 ((V : Int) / 2 ^ (8 * (k - 1)) % 256)])) :
    w1.ownsRow base 5 1 v (n - (k - 1)) (((putL V n).take (n - (k - 1))).map (Value.int .u8)) := by
  have e : n - (k - 1) = n - k + 1 := by omega
  have hl : n - k < (putL V n).length := by rw [putL_length]; omega
  rw [e, List.take_succ_eq_append_getElem hl, List.map_append]
  have e2 : (putL V n)[n - k] = (V : Int) / 2 ^ (8 * (k - 1)) % 256 := by
    rw [shr_byte]
    simp only [putL, List.getElem_map, List.getElem_range]
    rw [show n - 1 - (n - k) = k - 1 from by omega]
  rw [e2]
  exact h
set_option maxHeartbeats 400000 in
theorem rput_own (V : Nat) (n : Nat) (w : World) (h1 : 1 ≤ n) (h2 : n ≤ 8) :
    Calls Try.prog 43 #[.int .u64 V, .int .i64 n] w fun e w' => ∃ v, e = .returned v ∧ w'.ownsRow w.heap.size 5 1 v n ((putL V n).map (Value.int .u8)) ∧ Below w.heap.size w w' := by
  obtain ⟨i0, hi, hz0, hz1, hz2⟩ := info_parts Try.info5
  go_enter Try.func43, Try.ntmps43
  go_wp2
  go_loopw [5, 6] (fun v i wr => ∃ k : Nat, k ≤ n ∧ i = .int .i64 ((k : Int) - 1) ∧ wr.ownsRow w.heap.size 5 1 v (n - k) (((putL V n).take (n - k)).map (Value.int .u8)) ∧ Below w.heap.size w wr)
    (fun _ i _ => (intOf i + 1).toNat)
  case atStart =>
    exact ⟨n, Nat.le_refl _, rfl, by simpa using World.ownsRow_nil _ _ _ _, Below.refl _ _⟩
  case round =>
    obtain ⟨k, hk, rfl, hown, hb⟩ := hrel
    by_cases hlt : 1 ≤ k
    · have hL : n - k ≤ 8 := by omega
      have hS := hb.size
      go_wp2_with (at_builtin; refine wpList_append_own _ rfl _ _ 27 rfl w.heap.size 5 i0 (.int .u8 0) 1 1 Try.underlying27 hi hz0 hz1 hz2 rfl (by decide) _ _ _ rfl (hown.alloc _) ⟨wr.heap.size, 0, none⟩ 1 1 [.int .u8 ((V : Int) / 2 ^ (8 * (k - 1)) % 256)] rfl rfl ?c1 ?c2 ?c3 ?c4 ?c5 ?_)
      case c1 =>
        intro j u hj
        match j, hj with
        | 0, hj => simp at hj; subst hj; simp [Addr.add]
      case c2 => intro u hu; simp at hu; subst hu; rfl
      case c3 => unfold maxLen; omega
      case c4 => omega
      case c5 => simp; omega
      · intro v' w1 hown' hgrow _
        have R := rput_step V n k hlt hk (by rw [List.map_take]; exact hown')
        have hb' : Below w.heap.size w w1 := Below.grown (hb.alloc hS _) hgrow (by simp; omega) (own_block hown)
        clear hown' hgrow hown hb
        go_wp2
        go_roundw
        case rel => exact ⟨k - 1, by omega, by rw [show (k : Int) - 1 - 1 = ((k - 1 : Nat) : Int) - 1 from by omega], R, hb'⟩
        case measure => simp [intOf]; omega
    · go_wp2
      have hk0 : k = 0 := by omega
      subst hk0
      rw [Nat.sub_zero, List.take_of_length_le (by rw [putL_length]; exact Nat.le_refl _)] at hown
      go_ret
      exact ⟨_, rfl, hown, hb⟩
theorem own_low {w : World} {base base' n : Nat} {e : TypeId} {size : Nat} {v : Value} {xs : List Value} (h : w.ownsRow base e size v n xs) (hb : base' ≤ base) : w.ownsRow base' e size v n xs := by
  obtain ⟨h1, h2 | ⟨g, cap, cur, hv, hg, rest⟩⟩ := h
  · exact ⟨h1, Or.inl h2⟩
  · exact ⟨h1, Or.inr ⟨g, cap, cur, hv, Nat.le_trans hb hg, rest⟩⟩
set_option maxHeartbeats 1000000 in
theorem rbytes (p : BitVec 64 × BitVec 64) (w : World) : Calls Try.prog 60 #[.agg #[.int .u64 (nv p.1), .int .u64 (nv p.2)]] w fun e w' => ∃ v, e = .returned v ∧ w'.ownsRow w.heap.size 5 1 v 16 ((pairL p).map (Value.int .u8)) ∧ Below w.heap.size w w' := by
  go_enter Try.func60, Try.ntmps60
  go_wp2
  have b0 := Box.new w (nv p.1) (nv p.2)
  have hB : Below w.heap.size w (w.alloc (.cells #[.int .u64 (nv p.1), .int .u64 (nv p.2)] 30)) := by go_grown
  generalize w.alloc (.cells #[.int .u64 (nv p.1), .int .u64 (nv p.2)] 30) = W at *
  have hsz : w.heap.size + 1 ≤ W.drew.heap.size := b0.lt
  refine wp_region_held_drew (S := fun w' => w'.cell? ⟨w.heap.size, 0, none⟩ = some (.int .u64 (nv p.1)) ∧ w'.cell? ⟨w.heap.size, 1, none⟩ = some (.int .u64 (nv p.2))) (by kernel_rfl) ⟨b0.c0, b0.c1⟩ (fun hHeld => ?_)
  refine takeL 0 3 (v := ?_) rfl rfl (by kernel_rfl) (by kernel_rfl) (by kernel_rfl) (fun _ _ _ h => h) (by rfl) hHeld (fun w hSw => ?_) ?_
  rotate_left 1
  · (try dsimp only at hSw); go_simp; try with_reducible rfl
  simp only [List.set_cons_succ, List.set_cons_zero]
  refine takeL 1 4 (v := ?_) rfl rfl (by kernel_rfl) (by kernel_rfl) (by kernel_rfl) (fun _ _ _ h => h) (by rfl) hHeld (fun w hSw => ?_) ?_
  rotate_left 1
  · (try dsimp only at hSw); go_simp; try with_reducible rfl
  simp only [List.set_cons_succ, List.set_cons_zero]
  refine takeL 3 6 (v := ?_) rfl rfl (by kernel_rfl) (by kernel_rfl) (by kernel_rfl) (fun _ _ _ h => h) (by rfl) hHeld (fun w hSw => ?_) ?_
  rotate_left 1
  · (try dsimp only at hSw); go_simp; try with_reducible rfl
  simp only [List.set_cons_succ, List.set_cons_zero]
  refine takeL 4 7 (v := ?_) rfl rfl (by kernel_rfl) (by kernel_rfl) (by kernel_rfl) (fun _ _ _ h => h) (by rfl) hHeld (fun w hSw => ?_) ?_
  rotate_left 1
  · (try dsimp only at hSw); go_simp; try with_reducible rfl
  simp only [List.set_cons_succ, List.set_cons_zero]
  refine onlyL 2 rfl (by kernel_rfl) (by rfl) (fun K hK => ?_)
  go_wp2_with fail
  refine (rput_own p.1.toNat 8 _ (by decide) (by decide)).mono ?_
  rintro e w1 ⟨v5, rfl, own1, hb1⟩
  have hb1 := (Below.refl _ _).drew.trans hb1
  replace b0 := b0.grown hb1
  replace hB := hB.trans (hb1.mono hB.size)
  replace own1 := own_low own1 hsz
  clear hb1
  refine hK.out _ _ ⟨b0.c0, b0.c1⟩ (fun hHeld => ?_)
  clear hK K
  refine onlyL 5 rfl (by kernel_rfl) (by rfl) (fun K hK => ?_)
  go_wp2_with fail
  refine (rput_own p.2.toNat 8 _ (by decide) (by decide)).mono ?_
  rintro e w2 ⟨v8, rfl, own2, hb2⟩
  replace b0 := b0.grown hb2
  replace own1 := own_grown own1 hb2
  replace hB := hB.trans (hb2.mono hB.size)
  clear hb2
  obtain ⟨x8, c8, rfl, sat8⟩ := own_sat (putL_length _ _) own2
  refine hK.out _ _ ⟨b0.c0, b0.c1⟩ (fun hHeld => ?_)
  clear hK K
  refine onlyL 6 rfl (by kernel_rfl) (by rfl) (fun K hK => ?_)
  refine wp_app (.tmp 5) (.tmp 8) rfl (w.heap.size + 1) v5 8 _ rfl own1 x8 8 c8 _ rfl sat8 (fun e => by obtain ⟨_, _, h, _⟩ := sat8.2 (by decide); rw [e] at h; cases h) (by decide) b0.lt (fun v9 w3 own3 hg _ => ?_)
  replace hB := hB.grown hg hB.size (fun k e => Nat.le_of_succ_le (own_block own1 k e))
  replace b0 : Box w3 w.heap.size (nv p.1) (nv p.2) := (hg.block _ b0.lt (fun e => absurd (own1.lt _ e.symm).1 (Nat.not_le.2 (Nat.lt_succ_self w.heap.size)))).trans b0
  clear hg own1 own2 sat8
  refine hK.out _ _ ⟨b0.c0, b0.c1⟩ (fun hHeld => ?_)
  clear hK K
  simp only [Act.put, List.setIfInBounds_toArray]
  refine takeA 7 2 9 rfl rfl rfl (by kernel_rfl) (by kernel_rfl) (by kernel_rfl) (fun _ _ _ h => h) (by rfl) hHeld rfl ?_
  simp only [List.set_cons_succ, List.set_cons_zero]
  refine wpAnyH_done (by kernel_rfl) ?_ _
  go_wp2
  go_ret
  exact ⟨_, rfl, own_low own3 (Nat.le_succ _), hB⟩
theorem ret_two {k : IntKind} {a b : Int} {v : Value} (h : a = b) : Ending.returned (.tuple #[.int k a, v]) = .returned (.tuple #[.int k b, v]) := by rw [h]
set_option maxHeartbeats 400000 in
theorem rget_some (b off cap n : Nat) (xs : List Int) (w : World) (hn : xs.length = n) (h1 : 1 ≤ n) (hl : n ≤ 8) (hx : Bytes xs) (hc : At w b off xs) :
    Calls Try.prog 64 #[.slice (some ⟨b, off, none⟩) n cap] w fun e w' => e = .returned (.tuple #[.int .u64 (num xs), .bool true]) ∧ w' = w := by
  subst hn
  go_enter Try.func64, Try.ntmps64
  go_wp2
  go_loop [4, 5] (fun v i => ∃ k : Nat, k ≤ xs.length ∧ i = .int .i64 k ∧ v = .int .u64 (num (xs.take k))) (fun _ i => xs.length - (intOf i).toNat)
  case atStart => exact ⟨0, Nat.zero_le _, rfl, rfl⟩
  case round =>
    obtain ⟨k, hk, rfl, rfl⟩ := hrel
    by_cases hlt : k < xs.length
    · have hck := hc k hlt
      go_wp2
      go_round
      case rel => exact ⟨k + 1, hlt, by go_num, by rw [num_step xs hx hl k hlt]⟩
      case measure => simp [intOf]; omega
    · go_wp2
      go_ret2
      exact ⟨ret_two (by rw [List.take_of_length_le (by omega)]), rfl⟩
set_option maxHeartbeats 400000 in
theorem rpair_none (a : Option Addr) (n cap : Nat) (w : World) (h : n ≠ 16) :
    Calls Try.prog 44 #[.slice a n cap] w fun e w' => e = .returned (.tuple #[.agg #[.int .u64 0, .int .u64 0], .bool false]) ∧ Below w.heap.size w w' := by
  have h' : ((n : Int) != 16) = true := by rw [bne_iff_ne]; omega
  go_enter Try.func44, Try.ntmps44
  go_wp2
  exact bodyPost_ret (v := .tuple #[.agg #[.int .u64 0, .int .u64 0], .bool false]) (by simp [results, Try.results44, go_sem]) rfl ⟨rfl, by go_grown⟩
set_option maxHeartbeats 1000000 in
theorem rpair_some (b off cap : Nat) (xs : List Int) (w : World) (hn : xs.length = 16) (hcap : 16 ≤ cap) (hcm : cap ≤ maxLen) (hx : Bytes xs) (hb : b < w.heap.size) (hat0 : At w b off xs) :
    Calls Try.prog 44 #[.slice (some ⟨b, off, none⟩) 16 cap] w fun e w' => e = .returned (.tuple #[.agg #[.int .u64 (num (xs.take 8)), .int .u64 (num (xs.drop 8))], .bool true]) ∧ Below w.heap.size w w' := by
  unfold maxLen at hcm
  have hn8 : 8 ≤ xs.length := by omega
  have c8 : (8 : Int) ≤ (cap : Int) := by omega
  have c16 : (16 : Int) ≤ (cap : Int) := by omega
  have cn : ¬ cap = 8 := by omega
  have hat := hat0.alloc hb (.cells #[.int .u64 0, .int .u64 0] 30)
  go_enter Try.func44, Try.ntmps44
  go_wp2_with fail
  refine (rget_some b off cap 8 (xs.take 8) _ (by simp [hn]) (by omega) (by omega) (hx.take 8) (At.cut1 hat 8 hn8)).mono ?_
  rintro e w1 ⟨rfl, rfl⟩
  go_wp2_with fail
  refine (rget_some b (off + 8) (cap - 8) 8 (xs.drop 8) _ (by simp [hn]) (by omega) (by omega) (hx.drop 8) (At.cut2 hat 8)).mono ?_
  rintro e w1 ⟨rfl, rfl⟩
  go_wp2
  exact bodyPost_ret (v := .tuple #[.agg #[.int .u64 (num (xs.take 8)), .int .u64 (num (xs.drop 8))], .bool true]) (by simp [results, Try.results44, go_sem]) rfl ⟨rfl, by go_grown⟩
theorem rpair (b off cap : Nat) (xs : List Int) (w : World) (hn : xs.length = 16) (hcap : 16 ≤ cap) (hcm : cap ≤ maxLen) (hx : Bytes xs) (hb : b < w.heap.size) (hat : At w b off xs) :
    Calls Try.prog 44 #[.slice (some ⟨b, off, none⟩) 16 cap] w fun e w' => e = .returned (.tuple #[.agg #[.int .u64 (nv (pairOf xs).1), .int .u64 (nv (pairOf xs).2)], .bool true]) ∧ Below w.heap.size w w' := by
  rw [pairOf_1 xs hx, pairOf_2 xs hx (by omega)]
  exact rpair_some b off cap xs w hn hcap hcm hx hb hat
end Go.Proofs.Ytkkehbebaokdmaa


/- What lockboxref2.Keys and Encrypt come to. -/
namespace Go.Proofs.Ytkkehbebaokdmaa
open Go.RowKit
set_option maxRecDepth 20000

theorem ret_u64 {a b : Int} (h : a = b) : Ending.returned (.int .u64 a) = .returned (.int .u64 b) := by rw [h]
theorem u64v {a b : Int} (h : a = b) : Value.int .u64 a = .int .u64 b := by rw [h]

set_option maxHeartbeats 400000 in
theorem right8 (x : BitVec 64) (w : World) : Calls Try.prog 75 #[.int .u64 (nv x), .int .u64 8] w fun e w' => e = .returned (.int .u64 (nv (x.rotateRight 8))) ∧ w' = w := by
  obtain ⟨h0, h1⟩ := nv_range x
  go_enter Try.func75, Try.ntmps75
  go_wp2
  go_ret
  exact ⟨ret_u64 (nv_rr8 x), rfl⟩
set_option maxHeartbeats 400000 in
theorem left3 (x : BitVec 64) (w : World) : Calls Try.prog 76 #[.int .u64 (nv x), .int .u64 3] w fun e w' => e = .returned (.int .u64 (nv (x.rotateLeft 3))) ∧ w' = w := by
  obtain ⟨h0, h1⟩ := nv_range x
  go_enter Try.func76, Try.ntmps76
  go_wp2
  go_ret
  exact ⟨ret_u64 (nv_rl3 x), rfl⟩

theorem Try.info28 : (Try.prog.info? 28).map (fun i => (i.zero, i.size, i.bytes)) = some (some (.int .u64 0), 1, 8) := by kernel_rfl

theorem keyAt_succ (p : BitVec 64 × BitVec 64) (j : Nat) : keyAt p (j + 1) = keyStep j (keyAt p j) := rfl

/-- The first k keys. -/
def keysV (p : BitVec 64 × BitVec 64) (k : Nat) : List Value := (List.range k).map fun i => .int .u64 (nv (key p i))
theorem keysV_succ (p : BitVec 64 × BitVec 64) (k : Nat) : keysV p (k + 1) = keysV p k ++ [.int .u64 (nv (keyAt p k).2)] := by
  simp [keysV, List.range_succ, key]
theorem keysV_length (p : BitVec 64 × BitVec 64) (k : Nat) : (keysV p k).length = k := by simp [keysV]

theorem app1_at (w : World) (u : Value) (t : TypeId) : ∀ (j : Nat) (v : Value), [u][j]? = some v → (w.alloc (.cells #[u] t)).cell? ((⟨w.heap.size, 0, none⟩ : Addr).add j) = some v := by
  intro j v hj
  match j, hj with
  | 0, hj => simp at hj; subst hj; simp [Addr.add]
theorem app1_one (u : Value) (h : u.oneCell' = true) : ∀ v ∈ [u], v.oneCell' = true := by
  intro v hv
  simp at hv
  subst hv
  exact h

/-- 32 keys of p lie in block g. -/
def KeysAt (w : World) (g : Nat) (p : BitVec 64 × BitVec 64) : Prop := g < w.heap.size ∧ ∀ i, i < 32 → w.cell? ⟨g, i, none⟩ = some (.int .u64 (nv (key p i)))
theorem KeysAt.below {w w' : World} {B g : Nat} {p : BitVec 64 × BitVec 64} (h : KeysAt w g p) (hb : Below B w w') (hB : g < B) : KeysAt w' g p :=
  ⟨Nat.lt_of_lt_of_le h.1 hb.size, fun i hi => (hb.cell (p := ⟨g, i, none⟩) hB).trans (h.2 i hi)⟩
theorem own_keys {w : World} {base : Nat} {v : Value} {p : BitVec 64 × BitVec 64} (h : w.ownsRow base 28 1 v 32 (keysV p 32)) : ∃ g cap, v = .slice (some ⟨g, 0, none⟩) 32 cap ∧ base ≤ g ∧ KeysAt w g p := by
  have h' := h
  obtain ⟨_, ⟨_, h0⟩ | ⟨g, cap, cur, rfl, hg, hh, _⟩⟩ := h
  · omega
  · obtain ⟨hlt, _⟩ := Array.getElem?_eq_some_iff.1 hh
    refine ⟨g, cap, rfl, hg, hlt, fun i hi => ?_⟩
    rw [h'.cellAt i (by omega)]
    simp [keysV, hi]

set_option maxHeartbeats 1000000 in
theorem rkeys (p : BitVec 64 × BitVec 64) (w : World) : Calls Try.prog 74 #[.agg #[.int .u64 (nv p.1), .int .u64 (nv p.2)]] w fun e w' => ∃ g cap, e = .returned (.slice (some ⟨g, 0, none⟩) 32 cap) ∧ w.heap.size ≤ g ∧ KeysAt w' g p ∧ Below w.heap.size w w' := by
  obtain ⟨i0, hi, hz0, hz1, hz2⟩ := info_parts Try.info28
  go_enter Try.func74, Try.ntmps74
  go_wp2
  go_region
  go_wp2
  go_loopw [3, 4, 5, 6] (fun l k out i wr => ∃ j : Nat, j ≤ 32 ∧ i = .int .i64 j ∧ l = .int .u64 (nv (keyAt p j).1) ∧ k = .int .u64 (nv (keyAt p j).2) ∧ wr.ownsRow w.heap.size 28 1 out j (keysV p j) ∧ Below w.heap.size w wr) (fun _ _ _ i _ => 32 - (intOf i).toNat)
  case atStart => exact ⟨0, by decide, rfl, rfl, rfl, World.ownsRow_nil _ _ _ _, by go_grown⟩
  case round =>
    obtain ⟨j, hj, rfl, rfl, rfl, hown, hb⟩ := hrel
    by_cases hlt : j < 32
    · have hS := hb.size
      have HK := hide' (keyAt_succ p j)
      have HV := hide' (keysV_succ p j)
      have HO := hide' (nv_small j (by omega))
      generalize keyAt p j = q at *
      go_wp2_with (at_builtin; refine wpList_append_own _ rfl _ _ 100 rfl w.heap.size 28 i0 (.int .u64 0) 1 8 Try.underlying100 hi hz0 hz1 hz2 rfl (by decide) _ _ _ rfl (hown.alloc _) ⟨wr.heap.size, 0, none⟩ 1 1 [.int .u64 (nv q.2)] rfl rfl (app1_at _ _ _) (app1_one _ rfl) (by unfold maxLen; omega) (by omega) (by rw [World.size_alloc]; omega) ?_)
      · intro v' w1 hown' hgrow _
        have hb' : Below w.heap.size w w1 := Below.grown (hb.alloc hS _) hgrow (by simp; omega) (own_block hown)
        rw [← HV.out] at hown'
        clear hgrow hown hb hS
        go_wp2_with fail
        refine (right8 q.1 _).mono ?_
        rintro e w2 ⟨rfl, rfl⟩
        go_wp2_with fail
        refine (left3 q.2 _).mono ?_
        rintro e w2 ⟨rfl, rfl⟩
        go_wp2
        go_roundw
        case rel => exact ⟨j + 1, hlt, by go_num, u64v (by rw [nv_add, ← HO.out, nv_xor, HK.out, keyStep]), u64v (by rw [nv_add, ← HO.out, nv_xor, nv_xor, HK.out, keyStep]), hown', hb'⟩
        case measure => simp [intOf]; omega
    · go_wp2
      obtain rfl : j = 32 := by omega
      obtain ⟨g, cap, hv, hg, hk⟩ := own_keys hown
      subst hv
      go_ret
      exact ⟨g, cap, rfl, hg, hk, hb⟩
end Go.Proofs.Ytkkehbebaokdmaa


/- What lockboxref2.Encrypt comes to. -/
namespace Go.Proofs.Ytkkehbebaokdmaa
open Go.RowKit
set_option maxRecDepth 20000

theorem encN_succ (ks : Nat → BitVec 64) (p : BitVec 64 × BitVec 64) (n : Nat) : encN ks p (n + 1) = encR (ks n) (encN ks p n) := rfl

set_option maxHeartbeats 1000000 in
theorem rencrypt (k p : BitVec 64 × BitVec 64) (w : World) : Calls Try.prog 59 #[.agg #[.int .u64 (nv k.1), .int .u64 (nv k.2)], .agg #[.int .u64 (nv p.1), .int .u64 (nv p.2)]] w fun e w' => e = .returned (.agg #[.int .u64 (nv (enc k p).1), .int .u64 (nv (enc k p).2)]) ∧ Below w.heap.size w w' := by
  go_enter Try.func59, Try.ntmps59
  go_wp2
  go_region
  go_wp2_with fail
  refine (rkeys k _).mono ?_
  rintro e w1 ⟨g, cap, rfl, hg, hk, hb1⟩
  simp only [World.size_drew, World.size_alloc] at hb1 hg
  have bxr : Box w1 (w.heap.size + 2) 0 0 := by
    have := Box.new ((w.alloc (.cells #[.int .u64 (nv k.1), .int .u64 (nv k.2)] 30)).alloc (.cells #[.int .u64 (nv p.1), .int .u64 (nv p.2)] 30)) 0 0
    simp only [World.size_alloc] at this
    exact this.drew.below hb1 (by omega)
  have hB1 : Below w.heap.size w w1 := by
    refine Below.trans ?_ (hb1.mono (by omega))
    go_grown
  have hS1 := hb1.size
  clear hb1
  go_wp2
  go_loopw [5, 6, 8] (fun x y i wr => ∃ j : Nat, j ≤ 32 ∧ i = .int .i64 j ∧ x = .int .u64 (nv (encN (key k) p j).1) ∧ y = .int .u64 (nv (encN (key k) p j).2) ∧ Below w1.heap.size w1 wr) (fun _ _ i _ => 32 - (intOf i).toNat)
  case atStart => exact ⟨0, by decide, rfl, rfl, rfl, Below.refl _ _⟩
  case round =>
    obtain ⟨j, hj, rfl, rfl, rfl, hb⟩ := hrel
    by_cases hlt : j < 32
    · have hkj := (hk.below hb hk.1).2 j hlt
      have HE := hide' (encN_succ (key k) p j)
      generalize encN (key k) p j = q at *
      go_wp2
      refine wp_region_held_drew (S := fun w' => w'.cell? ⟨g, j, none⟩ = some (.int .u64 (nv (key k j)))) (by kernel_rfl) hkj (fun hHeld => ?_)
      refine takeM 0 19 5 rfl rfl rfl (by kernel_rfl) (by kernel_rfl) (by kernel_rfl) (fun _ _ _ h => h) (by rfl) hHeld rfl ?_
      simp only [List.set_cons_succ, List.set_cons_zero]
      refine takeM 2 21 6 rfl rfl rfl (by kernel_rfl) (by kernel_rfl) (by kernel_rfl) (fun _ _ _ h => h) (by rfl) hHeld rfl ?_
      simp only [List.set_cons_succ, List.set_cons_zero]
      refine takeM 4 23 7 rfl rfl rfl (by kernel_rfl) (by kernel_rfl) (by kernel_rfl) (fun _ _ _ h => h) (by rfl) hHeld rfl ?_
      simp only [List.set_cons_succ, List.set_cons_zero]
      refine takeM 5 24 8 rfl rfl rfl (by kernel_rfl) (by kernel_rfl) (by kernel_rfl) (fun _ _ _ h => h) (by rfl) hHeld rfl ?_
      simp only [List.set_cons_succ, List.set_cons_zero]
      refine takeL 6 25 (v := ?_) rfl rfl (by kernel_rfl) (by kernel_rfl) (by kernel_rfl) (fun _ _ _ h => h) (by rfl) hHeld (fun w hSw => ?_) ?_
      rotate_left 1
      · (try dsimp only at hSw); go_simp; try with_reducible rfl
      simp only [List.set_cons_succ, List.set_cons_zero]
      refine takeL 7 26 (v := ?_) rfl rfl (by kernel_rfl) (by kernel_rfl) (by kernel_rfl) (fun _ _ _ h => h) (by rfl) hHeld (fun w hSw => ?_) ?_
      rotate_left 1
      · (try dsimp only at hSw); go_simp; try with_reducible rfl
      simp only [List.set_cons_succ, List.set_cons_zero]
      refine onlyL 1 rfl (by kernel_rfl) (by rfl) (fun K hK => ?_)
      go_wp2_with fail
      refine (right8 q.1 _).mono ?_
      rintro e w2 ⟨rfl, rfl⟩
      refine hK.out _ _ hkj (fun hHeld => ?_)
      clear hK K
      refine takeL 3 22 (v := ?_) rfl rfl (by kernel_rfl) (by kernel_rfl) (by kernel_rfl) (fun _ _ _ h => h) (by rfl) hHeld (fun w hSw => ?_) ?_
      rotate_left 1
      · (try dsimp only at hSw); go_simp; try with_reducible rfl
      simp only [List.set_cons_succ, List.set_cons_zero]
      refine takeL 8 27 (v := ?_) rfl rfl (by kernel_rfl) (by kernel_rfl) (by kernel_rfl) (fun _ _ _ h => h) (by rfl) hHeld (fun w hSw => ?_) ?_
      rotate_left 1
      · (try dsimp only at hSw); go_simp; try with_reducible rfl
      simp only [List.set_cons_succ, List.set_cons_zero]
      refine takeA 9 5 27 rfl rfl rfl (by kernel_rfl) (by kernel_rfl) (by kernel_rfl) (fun _ _ _ h => h) (by rfl) hHeld rfl ?_
      simp only [List.set_cons_succ, List.set_cons_zero]
      refine wpAnyH_done (by kernel_rfl) ?_ _
      clear hkj hHeld
      go_wp2_with fail
      refine (left3 q.2 _).mono ?_
      rintro e w2 ⟨rfl, rfl⟩
      go_wp2
      go_roundw
      case rel => exact ⟨j + 1, hlt, by go_num, u64v (by rw [nv_add, nv_xor, HE.out, encR]), u64v (by rw [nv_add, nv_xor, nv_xor, HE.out, encR]), hb.drew⟩
      case measure => simp [intOf]; omega
    · have hbx := bxr.grown hb
      have f0 := hbx.c0
      have f1 := hbx.c1
      have f2 := hbx.frozen 0
      have f3 := hbx.frozen 1
      obtain rfl : j = 32 := by omega
      go_wp2
      refine bodyPost_ret (v := .agg #[.int .u64 (nv (enc k p).1), .int .u64 (nv (enc k p).2)]) (by simp [results, Try.results59, go_sem, f0, f1]; exact ⟨rfl, rfl⟩) rfl ⟨rfl, ?_⟩
      exact ((hB1.trans (hb.mono hB1.size)).setCell (by simp only; omega) _).setCell (by simp only; omega) _
end Go.Proofs.Ytkkehbebaokdmaa


/- What lockboxref4's functions come to. -/
namespace Go.Proofs.Ytkkehbebaokdmaa
open Go.RowKit
set_option maxRecDepth 20000

theorem nonP_or2 (n : Nn) : bits .or .u64 (nv32 n.1 * 4294967296) (nv32 n.2.1) = nv (nonP n).1 := by
  rw [← nonP_or n]
  have := nv32_range n.1
  congr 1
  rw [IntKind.wrap_u64]
  omega

set_option maxHeartbeats 1000000 in
theorem rsub (key : BitVec 64 × BitVec 64) (n : Nn) (w : World) : Calls Try.prog 39 #[.agg #[.int .u64 (nv key.1), .int .u64 (nv key.2)], .agg #[.int .u32 (nv32 n.1), .int .u32 (nv32 n.2.1), .int .u64 (nv n.2.2)]] w fun e w' => e = .returned (.agg #[.int .u64 (nv (subP key n).1), .int .u64 (nv (subP key n).2)]) ∧ Below w.heap.size w w' := by
  have h1 := nv32_range n.1
  have h2 := nv32_range n.2.1
  go_enter Try.func39, Try.ntmps39
  go_wp2_with fail
  rw [nonP_or2 n]
  have bR := Box.new ((w.alloc (.cells #[.int .u64 (nv key.1), .int .u64 (nv key.2)] 30)).alloc (.cells #[.int .u32 (nv32 n.1), .int .u32 (nv32 n.2.1), .int .u64 (nv n.2.2)] 35)) 0 0
  have hB : Below w.heap.size w (((w.alloc (.cells #[.int .u64 (nv key.1), .int .u64 (nv key.2)] 30)).alloc (.cells #[.int .u32 (nv32 n.1), .int .u32 (nv32 n.2.1), .int .u64 (nv n.2.2)] 35)).alloc (.cells #[.int .u64 0, .int .u64 0] 30)) := by go_grown
  simp only [World.size_alloc] at bR
  refine (rencrypt key (nonP n) _).mono ?_
  rintro e w1 ⟨rfl, hb1⟩
  replace bR := bR.grown hb1
  replace hB := hB.trans (hb1.mono hB.size)
  clear hb1 h1 h2
  have g0 := bR.c0
  have g1 := bR.c1
  have g2 := bR.frozen 0
  have g3 := bR.frozen 1
  go_wp2
  refine bodyPost_ret (v := .agg #[.int .u64 (nv (subP key n).1), .int .u64 (nv (subP key n).2)]) (by simp [results, Try.results39, go_sem, g0, g1, subP]) rfl ⟨rfl, ?_⟩
  exact (hB.setCell (by simp only; omega) _).setCell (by simp only; omega) _

theorem rencrypt_at (k p : BitVec 64 × BitVec 64) (p1 p2 : Int) (hp1 : nv p.1 = p1) (hp2 : nv p.2 = p2) (w : World) :
    Calls Try.prog 59 #[.agg #[.int .u64 (nv k.1), .int .u64 (nv k.2)], .agg #[.int .u64 p1, .int .u64 p2]] w fun e w' => e = .returned (.agg #[.int .u64 (nv (enc k p).1), .int .u64 (nv (enc k p).2)]) ∧ Below w.heap.size w w' := by
  subst hp1 hp2
  exact rencrypt k p w

set_option maxHeartbeats 400000 in
theorem rflow_out (sub : BitVec 64 × BitVec 64) (n : Int) (h : n < 0 ∨ 4000 < n) (w : World) : Calls Try.prog 41 #[.agg #[.int .u64 (nv sub.1), .int .u64 (nv sub.2)], .int .i64 n] w fun e w' => e = .returned (.slice none 0 0) ∧ Below w.heap.size w w' := by
  by_cases h1 : n < 0
  · clear h
    go_enter Try.func41, Try.ntmps41
    go_wp2
    go_ret
    exact ⟨rfl, by go_grown⟩
  · have h2 : 4000 < n := by omega
    clear h
    go_enter Try.func41, Try.ntmps41
    go_wp2
    go_ret
    exact ⟨rfl, by go_grown⟩

set_option maxRecDepth 10000 in
set_option maxHeartbeats 1000000 in
theorem rflow_in (sub : BitVec 64 × BitVec 64) (n : Nat) (hn : n ≤ 4000) (w : World) : Calls Try.prog 41 #[.agg #[.int .u64 (nv sub.1), .int .u64 (nv sub.2)], .int .i64 n] w fun e w' => ∃ x c, e = .returned (.slice x n c) ∧ SAt w' x n (flowL sub n) ∧ n ≤ c ∧ c ≤ maxLen ∧ (x = none → n = 0 ∧ c = 0) ∧ Below w.heap.size w w' := by
  have hsl := sl_head
  go_enter Try.func41, Try.ntmps41
  go_wp2
  have b0 := Box.new w (nv sub.1) (nv sub.2)
  have hB : Below w.heap.size w (w.alloc (.cells #[.int .u64 (nv sub.1), .int .u64 (nv sub.2)] 30)) := by go_grown
  generalize w.alloc (.cells #[.int .u64 (nv sub.1), .int .u64 (nv sub.2)] 30) = W at *
  go_loopw [5, 6] (fun v i wr => ∃ k : Nat, 16 * k < n + 16 ∧ i = .int .i64 ((k : Int) + 1) ∧ wr.ownsRow (w.heap.size + 1) 5 1 v (16 * k) ((blk sub k).map (Value.int .u8)) ∧ Box wr w.heap.size (nv sub.1) (nv sub.2) ∧ Below w.heap.size w wr) (fun _ i _ => 5000 - (intOf i).toNat)
  case atStart => exact ⟨0, by omega, rfl, World.ownsRow_nil _ _ _ _, b0, hB⟩
  case round =>
    clear b0 hB
    obtain ⟨k, hk, rfl, hown, b0, hB⟩ := hrel
    have hlb := blk_length sub k
    obtain ⟨x, c, rfl, hsat⟩ := own_sat hlb hown
    by_cases hlt : 16 * k < n
    · have c0 := b0.c0
      have c1 := b0.c1
      have HS := hide' (blk_succ sub k)
      go_wp2_with fail
      refine (rencrypt_at sub (BitVec.ofNat 64 (k + 1), 0#64) _ _ (nv_small (k + 1) (by omega)) rfl _).mono ?_
      rintro e w1 ⟨rfl, hb1⟩
      replace b0 := b0.grown hb1
      replace hown := own_grown hown hb1
      replace hB := hB.trans (hb1.mono hB.size)
      clear hb1 c0 c1 hsat
      go_wp2_with fail
      refine (rbytes _ _).mono ?_
      rintro e w2 ⟨v2, rfl, own2, hb2⟩
      replace b0 := b0.grown hb2
      replace hown := own_grown hown hb2
      replace hB := hB.trans (hb2.mono hB.size)
      clear hb2
      obtain ⟨x2, c2, rfl, hsat2⟩ := own_sat (pairL_length _) own2
      have hx2 : x2 = none → 16 = 0 ∧ c2 = 0 := fun e => by
        obtain ⟨_, _, h, _⟩ := hsat2.2 (by decide)
        rw [e] at h
        cases h
      have hS : w.heap.size + 1 ≤ w2.heap.size := b0.lt
      go_wp2_with (at_builtin; refine wpList_app rfl _ _ rfl (w.heap.size + 1) _ (16 * k) (blk sub k) rfl hown x2 16 c2 _ rfl hsat2 hx2 (by omega) hS ?_)
      intro v' w3 hown3 hb3 _
      replace b0 := b0.below hb3 (Nat.lt_succ_self _)
      replace hB := hB.trans (hb3.mono (Nat.le_succ _))
      clear hown own2 hsat2 hx2 hb3
      go_wp2
      go_roundw
      case rel =>
        refine ⟨k + 1, by omega, by go_num, ?_, b0, hB⟩
        rw [HS.out, show 16 * (k + 1) = 16 * k + 16 from by omega]
        first | exact hown3 | (rw [List.map_append]; exact hown3)
      case measure => simp [intOf]; omega
    · obtain ⟨h1, h2 | ⟨g, cap, cur, hv, hg, hh, hnc, hcm, _⟩⟩ := hown
      · obtain ⟨h2, h3⟩ := h2
        simp only [Value.slice.injEq] at h2
        obtain ⟨rfl, h4, rfl⟩ := h2
        obtain rfl : n = 0 := by omega
        obtain rfl : k = 0 := by omega
        go_wp2
        go_ret
        exact ⟨none, 0, rfl, ⟨flowL_length _ _, fun h => absurd h (by omega)⟩, by decide, by simp, hB⟩
      · simp only [Value.slice.injEq] at hv
        obtain ⟨rfl, _, hcc⟩ := hv
        subst hcc
        have hnc' : n ≤ c := by omega
        go_wp2
        go_ret
        refine ⟨_, c, rfl, ?_, hnc', hcm, (fun h => by cases h), hB⟩
        rw [← flowL_of sub n k (by omega)]
        exact hsat.head (by omega)

theorem rflow (sub : BitVec 64 × BitVec 64) (n : Int) (w : World) : Calls Try.prog 41 #[.agg #[.int .u64 (nv sub.1), .int .u64 (nv sub.2)], .int .i64 n] w fun e w' => Gives e w' (flowI sub n) ∧ Below w.heap.size w w' := by
  by_cases h : n < 0 ∨ 4000 < n
  · exact (rflow_out sub n h w).mono fun _ _ ⟨he, hb⟩ => ⟨⟨none, 0, 0, he, by rw [flowI_out sub n h]; exact SAt.none _ _, Nat.le_refl _, Nat.zero_le _, fun _ => ⟨rfl, rfl⟩⟩, hb⟩
  · obtain ⟨m, rfl⟩ : ∃ m : Nat, n = m := ⟨n.toNat, by omega⟩
    rw [flowI_in sub m (by omega)]
    exact (rflow_in sub m (by omega) w).mono fun _ _ ⟨x, c, he, hs, hc, hm, hn, hb⟩ => ⟨⟨x, m, c, he, hs, hc, hm, hn⟩, hb⟩

set_option maxRecDepth 10000 in
set_option maxHeartbeats 2000000 in
theorem rxor_own (xs ys : List Int) (x y : Option Addr) (n m c d : Nat) (hn : n ≤ 50000) (hm : m ≤ 50000) (w : World) (hx : SAt w x n xs) (hy : SAt w y m ys) : Calls Try.prog 40 #[.slice x n c, .slice y m d] w fun e w' => ∃ v, e = .returned v ∧ w'.ownsRow w.heap.size 5 1 v (min n m) ((xorL xs ys).map (Value.int .u8)) ∧ Below w.heap.size w w' := by
  go_enter Try.func40, Try.ntmps40
  go_wp2
  go_loopw [5, 6] (fun v i wr => ∃ k : Nat, k ≤ n ∧ k ≤ m ∧ i = .int .i64 (k : Int) ∧ wr.ownsRow w.heap.size 5 1 v k (((xorL xs ys).take k).map (Value.int .u8)) ∧ Below w.heap.size w wr) (fun _ i _ => n - (intOf i).toNat)
  case atStart => exact ⟨0, Nat.zero_le _, Nat.zero_le _, rfl, World.ownsRow_nil _ _ _ _, Below.refl _ _⟩
  case round =>
    obtain ⟨k, hk, hk2, rfl, hown, hB⟩ := hrel
    by_cases hlt : k < n ∧ k < m
    · obtain ⟨h1, h2⟩ := hlt
      obtain ⟨ba, oa, rfl, hba, ata⟩ := hx.2 (by omega)
      obtain ⟨bb, ob, rfl, hbb, atb⟩ := hy.2 (by omega)
      have HS := hide' (xorL_take xs ys k (by rw [hx.1]; exact h1) (by rw [hy.1]; exact h2))
      have ca := (hB.cell (p := ⟨ba, oa + k, none⟩) hba).trans (ata k (by rw [hx.1]; exact h1))
      have cb := (hB.cell (p := ⟨bb, ob + k, none⟩) hbb).trans (atb k (by rw [hy.1]; exact h2))
      have hlen : ((xorL xs ys).take k).length = k := by rw [List.length_take, xorL_length, hx.1, hy.1]; omega
      clear ata atb hx hy
      generalize xs.getD k 0 = u at *
      generalize ys.getD k 0 = v0 at *
      go_wp2_with fail
      refine wp_region_held_drew (S := fun w' => Below w.heap.size wr w') (by kernel_rfl) (Below.refl _ _).drew (fun hHeld => ?_)
      refine takeM 0 19 5 rfl rfl rfl (by kernel_rfl) (by kernel_rfl) (by kernel_rfl) (fun _ _ _ h => h) (by rfl) hHeld rfl ?_
      simp only [List.set_cons_succ, List.set_cons_zero]
      refine takeM 1 20 0 rfl rfl rfl (by kernel_rfl) (by kernel_rfl) (by kernel_rfl) (fun _ _ _ h => h) (by rfl) hHeld rfl ?_
      simp only [List.set_cons_succ, List.set_cons_zero]
      refine takeM 2 21 6 rfl rfl rfl (by kernel_rfl) (by kernel_rfl) (by kernel_rfl) (fun _ _ _ h => h) (by rfl) hHeld rfl ?_
      simp only [List.set_cons_succ, List.set_cons_zero]
      refine takeL 3 22 (v := ?_) rfl rfl (by kernel_rfl) (by kernel_rfl) (by kernel_rfl) (fun _ _ _ h => h) (by rfl) hHeld (fun w hSw => ?_) ?_
      rotate_left 1
      · (try dsimp only at hSw)
        clear hSw
        go_simp
        try with_reducible rfl
      simp only [List.set_cons_succ, List.set_cons_zero]
      refine takeM 5 24 1 rfl rfl rfl (by kernel_rfl) (by kernel_rfl) (by kernel_rfl) (fun _ _ _ h => h) (by rfl) hHeld rfl ?_
      simp only [List.set_cons_succ, List.set_cons_zero]
      refine takeM 6 25 6 rfl rfl rfl (by kernel_rfl) (by kernel_rfl) (by kernel_rfl) (fun _ _ _ h => h) (by rfl) hHeld rfl ?_
      simp only [List.set_cons_succ, List.set_cons_zero]
      refine takeL 7 26 (v := ?_) rfl rfl (by kernel_rfl) (by kernel_rfl) (by kernel_rfl) (fun _ _ _ h => h) (by rfl) hHeld (fun w hSw => ?_) ?_
      rotate_left 1
      · (try dsimp only at hSw)
        clear hSw
        go_simp
        try with_reducible rfl
      simp only [List.set_cons_succ, List.set_cons_zero]
      refine takeL 4 23 (v := ?_) rfl rfl (by kernel_rfl) (by kernel_rfl) (by kernel_rfl) (fun _ _ _ h => h) (by rfl) hHeld (fun w hSw => ?_) ?_
      rotate_left 1
      · (try dsimp only at hSw)
        have e0_ := (hSw.cell (p := ⟨ba, oa + k, none⟩) hba).trans ca
        clear hSw
        go_simp
        try with_reducible rfl
      simp only [List.set_cons_succ, List.set_cons_zero]
      refine takeL 8 27 (v := ?_) rfl rfl (by kernel_rfl) (by kernel_rfl) (by kernel_rfl) (fun _ _ _ h => h) (by rfl) hHeld (fun w hSw => ?_) ?_
      rotate_left 1
      · (try dsimp only at hSw)
        have e0_ := (hSw.cell (p := ⟨bb, ob + k, none⟩) hbb).trans cb
        clear hSw
        go_simp
        try with_reducible rfl
      simp only [List.set_cons_succ, List.set_cons_zero]
      refine takeL 9 28 (v := ?_) rfl rfl (by kernel_rfl) (by kernel_rfl) (by kernel_rfl) (fun _ _ _ h => h) (by rfl) hHeld (fun w hSw => ?_) ?_
      rotate_left 1
      · (try dsimp only at hSw)
        clear hSw
        go_simp
        try with_reducible rfl
      simp only [List.set_cons_succ, List.set_cons_zero]
      refine onlyL 10 rfl (by kernel_rfl) (by rfl) (fun K hK => ?_)
      go_wp2_with fail
      have hb1 : Below wr.heap.size wr (wr.drew.alloc (.cells #[.int .u8 (xor8 u v0)] 5)) := (Below.refl wr.heap.size wr).drew.alloc (Nat.le_refl _) _
      have at1 : At (wr.drew.alloc (.cells #[.int .u8 (xor8 u v0)] 5)) wr.heap.size 0 [xor8 u v0] := At.one wr.drew (xor8 u v0)
      have lt1 : wr.heap.size < (wr.drew.alloc (.cells #[.int .u8 (xor8 u v0)] 5)).heap.size := by rw [World.size_alloc, World.size_drew]; omega
      replace hown := own_grown hown hb1
      have hS := hB.size
      have hB1 := hb1.mono hS
      replace hB := hB.trans hB1
      refine hK.out _ _ hB1 (fun _ => ?_)
      clear hK K hHeld hb1
      change wpAnyH _ _ _ _ _ _ _ _ (wr.drew.alloc (.cells #[.int .u8 (xor8 u v0)] 5))
      generalize wr.drew.alloc (.cells #[.int .u8 (xor8 u v0)] 5) = w1 at *
      refine onlyL 11 rfl (by kernel_rfl) (by rfl) (fun K hK => ?_)
      refine wp_app (.tmp 19) (.tmp 29) rfl w.heap.size _ k _ rfl hown _ 1 1 [xor8 u v0] rfl (at1.sat lt1 rfl) (fun e => by cases e) (by omega) (Nat.le_trans hS (Nat.le_of_lt lt1)) (fun v2 w2 own2 hg _ => ?_)
      have hB2 := (Below.refl w.heap.size w1).grown hg (Nat.le_trans hS (Nat.le_of_lt lt1)) (own_block hown)
      replace hB := hB.trans hB2
      have R : w2.ownsRow w.heap.size 5 1 v2 (k + 1) (((xorL xs ys).take (k + 1)).map (Value.int .u8)) := by
        rw [HS.out]
        exact own2
      refine hK.out _ _ (hB1.trans hB2) (fun hHeld => ?_)
      clear hK K
      simp only [Act.put, List.setIfInBounds_toArray]
      refine takeA 12 5 30 rfl rfl rfl (by kernel_rfl) (by kernel_rfl) (by kernel_rfl) (fun _ _ _ h => h) (by rfl) hHeld rfl ?_
      simp only [List.set_cons_succ, List.set_cons_zero]
      refine wpAnyH_done (by kernel_rfl) ?_ _
      go_wp2

      go_roundw
      case rel => exact ⟨k + 1, h1, h2, by go_num, R, hB⟩
      case measure => simp [intOf]; omega
    · have hkm : k = min n m := by omega
      have ht : (xorL xs ys).take k = xorL xs ys := List.take_of_length_le (by rw [xorL_length, hx.1, hy.1]; omega)
      rw [ht] at hown
      rw [hkm] at hown
      by_cases h1 : k < n
      · have h2 : ¬ k < m := by omega
        go_wp2
        go_ret
        exact ⟨_, rfl, hown, hB⟩
      · go_wp2
        go_ret
        exact ⟨_, rfl, hown, hB⟩
theorem rxor (xs ys : List Int) (x y : Option Addr) (n m c d : Nat) (hn : n ≤ 50000) (hm : m ≤ 50000) (w : World) (hx : SAt w x n xs) (hy : SAt w y m ys) : Calls Try.prog 40 #[.slice x n c, .slice y m d] w fun e w' => Gives e w' (xorL xs ys) ∧ Below w.heap.size w w' :=
  (rxor_own xs ys x y n m c d hn hm w hx hy).mono fun _ _ ⟨_, he, ho, hb⟩ => ⟨he ▸ own_gives (by rw [xorL_length, hx.1, hy.1]) ho, hb⟩
end Go.Proofs.Ytkkehbebaokdmaa


/- What the statements ask of flow. -/
namespace Go.Proofs.Ytkkehbebaokdmaa
open Go.RowKit
set_option maxRecDepth 20000

/-- flow.Sub is the document's. -/
def SubSaid : Prop := ∀ (key : BitVec 64 × BitVec 64) (n : Nn) (w : World), Calls Try.prog 53 #[.agg #[.int .u64 (nv key.1), .int .u64 (nv key.2)], .agg #[.int .u32 (nv32 n.1), .int .u32 (nv32 n.2.1), .int .u64 (nv n.2.2)]] w fun e w' => e = .returned (.agg #[.int .u64 (nv (subP key n).1), .int .u64 (nv (subP key n).2)]) ∧ Below w.heap.size w w'
/-- flow.Bytes is the document's. -/
def FlowSaid : Prop := ∀ (sub : BitVec 64 × BitVec 64) (n : Int) (w : World), Calls Try.prog 69 #[.agg #[.int .u64 (nv sub.1), .int .u64 (nv sub.2)], .int .i64 n] w fun e w' => Gives e w' (flowI sub n) ∧ Below w.heap.size w w'
/-- flow.Xor is the document's. -/
def XorSaid : Prop := ∀ (xs ys : List Int) (x y : Option Addr) (n m c d : Nat), n ≤ 50000 → m ≤ 50000 → n ≤ c → m ≤ d → Bytes xs → Bytes ys → ∀ w : World, SAt w x n xs → SAt w y m ys → Calls Try.prog 68 #[.slice x n c, .slice y m d] w fun e w' => Gives e w' (xorL xs ys) ∧ Below w.heap.size w w'

theorem flow_in (hF : FlowSaid) (sub : BitVec 64 × BitVec 64) (n : Nat) (hn : n ≤ 4000) {a b x : Int} (ha : nv sub.1 = a) (hb : nv sub.2 = b) (hx : x = (n : Int)) (w : World) : Calls Try.prog 69 #[.agg #[.int .u64 a, .int .u64 b], .int .i64 x] w fun e w' => (∃ y c, e = .returned (.slice y n c) ∧ SAt w' y n (flowL sub n) ∧ n ≤ c ∧ c ≤ maxLen ∧ (y = none → n = 0 ∧ c = 0)) ∧ Below w.heap.size w w' := by
  subst ha hb hx
  refine (hF sub n w).mono fun e w' ⟨⟨y, l, c, he, hs, hc, hm, hnil⟩, hb⟩ => ?_
  rw [flowI_in sub n hn] at hs
  obtain rfl : n = l := by rw [← hs.1, flowL_length]
  exact ⟨⟨y, c, he, hs, hc, hm, hnil⟩, hb⟩
theorem flow_out (hF : FlowSaid) (sub : BitVec 64 × BitVec 64) (n : Int) (hn : n < 0 ∨ 4000 < n) (w : World) : Calls Try.prog 69 #[.agg #[.int .u64 (nv sub.1), .int .u64 (nv sub.2)], .int .i64 n] w fun e w' => (∃ y c, e = .returned (.slice y 0 c)) ∧ Below w.heap.size w w' := by
  refine (hF sub n w).mono fun e w' ⟨⟨y, l, c, he, hs, hc, hm, hnil⟩, hb⟩ => ?_
  rw [flowI_out sub n hn] at hs
  obtain rfl : 0 = l := hs.1
  exact ⟨⟨y, c, he⟩, hb⟩
theorem rflow_at (sub : BitVec 64 × BitVec 64) (n : Nat) (hn : n ≤ 4000) {a b x : Int} (ha : nv sub.1 = a) (hb : nv sub.2 = b) (hx : x = (n : Int)) (w : World) : Calls Try.prog 41 #[.agg #[.int .u64 a, .int .u64 b], .int .i64 x] w fun e w' => (∃ y c, e = .returned (.slice y n c) ∧ SAt w' y n (flowL sub n) ∧ n ≤ c ∧ c ≤ maxLen ∧ (y = none → n = 0 ∧ c = 0)) ∧ Below w.heap.size w w' := by
  subst ha hb hx
  exact (rflow_in sub n hn w).mono fun e w' ⟨y, c, he, hs, hc, hm, hnil, hb⟩ => ⟨⟨y, c, he, hs, hc, hm, hnil⟩, hb⟩
end Go.Proofs.Ytkkehbebaokdmaa
