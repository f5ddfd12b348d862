/- Powers of two: plain facts, lockboxlaw3.power, and FieldPowers' walk. -/
import Derived.Test.YtmkkcplkpajjfaaFldLaws
namespace Go.Proofs.Ytmkkcplkpajjfaa
open Go.RowKit

/-- xt, so often. -/
def xtN : Nat → BitVec 128 → BitVec 128
  | 0, v => v
  | n + 1, v => Gf.xt (xtN n v)
theorem xtN_add (m n : Nat) (v : BitVec 128) : xtN m (xtN n v) = xtN (m + n) v := by
  induction m with
  | zero => rw [Nat.zero_add]; rfl
  | succ m ih => rw [show m + 1 + n = (m + n) + 1 from by omega]; simp only [xtN]; rw [ih]
theorem xtN_mul (n : Nat) (u v : BitVec 128) : Gf.mul (xtN n u) v = xtN n (Gf.mul u v) := by
  induction n with
  | zero => rfl
  | succ n ih => simp only [xtN]; rw [Gf.xt_mul, ih]
theorem xtN_128 : xtN 128 1#128 = 135#128 := by decide +kernel
/-- 1 at a power. -/
def powP (n : Nat) : BitVec 64 × BitVec 64 := if 64 ≤ n then (1#64 <<< (n - 64), 0#64) else (0#64, 1#64 <<< n)
theorem pow_all : ∀ n, n < 128 → cat (powP n) = xtN n 1#128 := by decide +kernel
theorem mul_pow (i k : Nat) (hi : i < 128) (hk : k < 128) : Gf.mul (cat (powP i)) (cat (powP k)) = xtN (i + k) 1#128 := by
  rw [pow_all i hi, pow_all k hk, xtN_mul, Gf.one_mul, xtN_add]
theorem cat_135 : cat (0#64, 135#64) = 135#128 := by decide
theorem pow_less (i k : Nat) (h : i + k < 128) : fmul (powP i) (powP k) = powP (i + k) :=
  cat_inj (by rw [cat_fmul, mul_pow i k (by omega) (by omega), pow_all (i + k) h])
theorem pow_round (i k : Nat) (hi : i < 128) (hk : k < 128) (h : 128 ≤ i + k) : fmul (powP i) (powP k) = fmul (powP (i + k - 128)) (0#64, 135#64) :=
  cat_inj (by
    rw [cat_fmul, cat_fmul, mul_pow i k hi hk, cat_135, pow_all (i + k - 128) (by omega), xtN_mul, Gf.one_mul, ← xtN_128, xtN_add, show i + k - 128 + 128 = i + k from by omega])

theorem nv_pow (m : Nat) : IntKind.u64.wrap (2 ^ m) = nv (1#64 <<< m) := by
  unfold nv
  rw [BitVec.toNat_shiftLeft, IntKind.wrap_u64, Nat.shiftLeft_eq]
  simp
theorem pow_hi (n : Nat) (h : 64 ≤ n) : powP n = (1#64 <<< (n - 64), 0#64) := if_pos h
theorem pow_lo (n : Nat) (h : n < 64) : powP n = (0#64, 1#64 <<< n) := if_neg (by omega)

set_option maxHeartbeats 400000 in
theorem power_said (n : Nat) (h : n < 128) (w : World) : Calls Try.prog 15 #[.int .i64 n] w fun e w' => e = .returned (.agg #[.int .u64 (nv (powP n).1), .int .u64 (nv (powP n).2)]) ∧ Below w.heap.size w w' := by
  go_enter Try.func15, Try.ntmps15
  go_wp2
  · have h1 : 64 ≤ n := by omega
    refine bodyPost_ret (v := .agg #[.int .u64 (IntKind.u64.wrap (2 ^ (n - 64))), .int .u64 0]) (by simp [results, Try.results15, go_sem]) rfl ⟨agg2 (by rw [nv_pow, pow_hi n h1]) (by rw [pow_hi n h1]; exact nv_zero.symm), by go_grown⟩
  · have h1 : n < 64 := by omega
    refine bodyPost_ret (v := .agg #[.int .u64 0, .int .u64 (IntKind.u64.wrap (2 ^ n))]) (by simp [results, Try.results15, go_sem]) rfl ⟨agg2 (by rw [pow_lo n h1]; exact nv_zero.symm) (by rw [nv_pow, pow_lo n h1]), by go_grown⟩
theorem power_at (n : Nat) (x : Int) (hx : x = n) (h : n < 128) (w : World) : Calls Try.prog 15 #[.int .i64 x] w fun e w' => e = .returned (.agg #[.int .u64 (nv (powP n).1), .int .u64 (nv (powP n).2)]) ∧ Below w.heap.size w w' := hx ▸ power_said n h w
theorem power_is (n : Nat) (x : Int) (hx : x = n) (h : n < 128) (q : BitVec 64 × BitVec 64) (hq : powP n = q) (w : World) : Calls Try.prog 15 #[.int .i64 x] w fun e w' => e = .returned (.agg #[.int .u64 (nv q.1), .int .u64 (nv q.2)]) ∧ Below w.heap.size w w' := hq ▸ power_at n x hx h w

set_option maxRecDepth 10000 in
set_option maxHeartbeats 2000000 in
theorem powers_in (hM : MulSaid) (n m : Nat) (hn : n < 128) (hm : m < 128) (w : World) : Calls Try.prog 6 #[.int .i64 n, .int .i64 m] w fun e w' => e = .returned (.bool true) ∧ Below w.heap.size w w' := by
  have heq := eq32
  by_cases h : n + m < 128
  · have hs : n + m < 128 := h
    obtain ⟨q, hp, hq⟩ : ∃ q, Hid (fmul (powP n) (powP m) = q) ∧ Hid (powP (n + m) = q) := ⟨powP (n + m), pow_less n m h, rfl⟩
    go_enter Try.func6, Try.ntmps6
    have hB := Below.refl w.heap.size w
    go_wp2_with fail
    refine (power_said n hn _).mono ?_
    rintro e wn ⟨rfl, hbn⟩
    have hB := hB.trans (hbn.mono hB.size)
    clear hbn
    go_wp2_with fail
    refine (power_said m hm _).mono ?_
    rintro e wn ⟨rfl, hbn⟩
    have hB := hB.trans (hbn.mono hB.size)
    clear hbn
    go_wp2_with fail
    refine (mul_is hM (powP n) (powP m) hp.out _).mono ?_
    rintro e wn ⟨rfl, hbn⟩
    have hB := hB.trans (hbn.mono hB.size)
    clear hbn
    go_wp2
    have b0 := Box.new wn (nv q.1) (nv q.2)
    have hB := hB.alloc hB.size (.cells #[.int .u64 (nv q.1), .int .u64 (nv q.2)] 24)
    generalize wn.alloc (.cells #[.int .u64 (nv q.1), .int .u64 (nv q.2)] 24) = W at *
    generalize wn.heap.size = g at *
    refine wp_region_held_drew (S := fun w' => w'.cell? ⟨g, 0, none⟩ = some (.int .u64 (nv q.1)) ∧ w'.cell? ⟨g, 1, none⟩ = some (.int .u64 (nv q.2))) (by kernel_rfl) ⟨b0.c0, b0.c1⟩ (fun hHeld => ?_)
    refine takeL 0 31 (v := ?_) rfl rfl (by kernel_rfl) (by kernel_rfl) (by kernel_rfl) (fun _ _ _ h => h) (by rfl) hHeld (fun w hSw => ?_) ?_
    rotate_left 1
    · (try dsimp only at hSw); go_simp; try with_reducible rfl
    simp only [List.set_cons_succ, List.set_cons_zero]
    refine takeM 1 32 0 rfl rfl rfl (by kernel_rfl) (by kernel_rfl) (by kernel_rfl) (fun _ _ _ h => h) (by rfl) hHeld rfl ?_
    simp only [List.set_cons_succ, List.set_cons_zero]
    refine takeM 2 33 1 rfl rfl rfl (by kernel_rfl) (by kernel_rfl) (by kernel_rfl) (fun _ _ _ h => h) (by rfl) hHeld rfl ?_
    simp only [List.set_cons_succ, List.set_cons_zero]
    refine takeL 3 34 (v := ?_) rfl rfl (by kernel_rfl) (by kernel_rfl) (by kernel_rfl) (fun _ _ _ h => h) (by rfl) hHeld (fun w hSw => ?_) ?_
    rotate_left 1
    · (try dsimp only at hSw); go_simp; try with_reducible rfl
    simp only [List.set_cons_succ, List.set_cons_zero]
    refine onlyL 4 rfl (by kernel_rfl) (by rfl) (fun K hK => ?_)
    go_wp2_with fail
    refine (power_is (n + m) _ (by omega) hs q hq.out _).mono ?_
    rintro e wn ⟨rfl, hbn⟩
    have hbn := (Below.refl _ _).drew.trans hbn
    have b0 := b0.grown hbn
    have hB := hB.trans (hbn.mono hB.size)
    refine hK.out _ _ ⟨b0.c0, b0.c1⟩ (fun hHeld => ?_)
    clear hK K hbn
    refine takeL 5 36 (v := ?_) rfl rfl (by kernel_rfl) (by kernel_rfl) (by kernel_rfl) (fun _ _ _ h => h) (by rfl) hHeld (fun w hSw => ?_) ?_
    rotate_left 1
    · (try dsimp only at hSw); go_simp; try with_reducible rfl
    simp only [List.set_cons_succ, List.set_cons_zero]
    refine takeM 6 37 36 rfl rfl rfl (by kernel_rfl) (by kernel_rfl) (by kernel_rfl) (fun _ _ _ h => h) (by rfl) hHeld rfl ?_
    simp only [List.set_cons_succ, List.set_cons_zero]
    refine onlyL 7 rfl (by kernel_rfl) (by rfl) (fun K hK => ?_)
    go_wp2_with fail
    refine (known_true hM _).mono ?_
    rintro e wn ⟨rfl, hbn⟩
    have b0 := b0.grown hbn
    have hB := hB.trans (hbn.mono hB.size)
    refine hK.out _ _ ⟨b0.c0, b0.c1⟩ (fun hHeld => ?_)
    clear hK K hbn
    refine takeL 8 39 (v := ?_) rfl rfl (by kernel_rfl) (by kernel_rfl) (by kernel_rfl) (fun _ _ _ h => h) (by rfl) hHeld (fun w hSw => ?_) ?_
    rotate_left 1
    · (try dsimp only at hSw); go_simp; try with_reducible rfl
    simp only [List.set_cons_succ, List.set_cons_zero]
    refine takeA 9 4 39 rfl rfl rfl (by kernel_rfl) (by kernel_rfl) (by kernel_rfl) (fun _ _ _ h => h) (by rfl) hHeld rfl ?_
    simp only [List.set_cons_succ, List.set_cons_zero]
    refine wpAnyH_done (by kernel_rfl) ?_ _
    go_wp2
    go_ret
    exact ⟨rfl, hB⟩
  · have hs : 128 ≤ n + m := by omega
    obtain ⟨q, r, hp, hq, hr⟩ : ∃ q r, Hid (fmul (powP n) (powP m) = q) ∧ Hid (fmul r (0#64, 135#64) = q) ∧ Hid (powP (n + m - 128) = r) := ⟨_, _, pow_round n m hn hm hs, rfl, rfl⟩
    go_enter Try.func6, Try.ntmps6
    have hB := Below.refl w.heap.size w
    go_wp2_with fail
    refine (power_said n hn _).mono ?_
    rintro e wn ⟨rfl, hbn⟩
    have hB := hB.trans (hbn.mono hB.size)
    clear hbn
    go_wp2_with fail
    refine (power_said m hm _).mono ?_
    rintro e wn ⟨rfl, hbn⟩
    have hB := hB.trans (hbn.mono hB.size)
    clear hbn
    go_wp2_with fail
    refine (mul_is hM (powP n) (powP m) hp.out _).mono ?_
    rintro e wn ⟨rfl, hbn⟩
    have hB := hB.trans (hbn.mono hB.size)
    clear hbn
    go_wp2_with fail
    have b0 := Box.new wn (nv q.1) (nv q.2)
    have hB := hB.alloc hB.size (.cells #[.int .u64 (nv q.1), .int .u64 (nv q.2)] 24)
    generalize wn.alloc (.cells #[.int .u64 (nv q.1), .int .u64 (nv q.2)] 24) = W at *
    generalize wn.heap.size = g at *
    refine (power_is (n + m - 128) _ (by omega) (by omega) r hr.out _).mono ?_
    rintro e wn ⟨rfl, hbn⟩
    have b0 := b0.grown hbn
    have hB := hB.trans (hbn.mono hB.size)
    clear hbn
    go_wp2_with fail
    refine (mul_at hM r (0#64, 135#64) q rfl rfl nv_zero nv_135 hq.out rfl rfl _).mono ?_
    rintro e wn ⟨rfl, hbn⟩
    have b0 := b0.grown hbn
    have hB := hB.trans (hbn.mono hB.size)
    clear hbn
    have b1 := Box.new wn (nv q.1) (nv q.2)
    have b0 := b0.alloc (.cells #[.int .u64 (nv q.1), .int .u64 (nv q.2)] 24)
    have hB := hB.alloc hB.size (.cells #[.int .u64 (nv q.1), .int .u64 (nv q.2)] 24)
    have k0 := b0.c0
    have k1 := b0.c1
    have k2 := b1.c0
    have k3 := b1.c1
    go_wp2_with fail
    refine (known_true hM _).mono ?_
    rintro e wm ⟨rfl, hbm⟩
    have hB := hB.trans (hbm.mono hB.size)
    go_wp2
    go_ret
    exact ⟨rfl, hB⟩

set_option maxHeartbeats 1000000 in
theorem powers_out (i k : Int) (h : i < 0 ∨ 127 < i ∨ k < 0 ∨ 127 < k) (w : World) : Calls Try.prog 6 #[.int .i64 i, .int .i64 k] w fun e w' => e = .returned (.bool true) ∧ Below w.heap.size w w' := by
  by_cases h1 : i < 0
  · clear h
    go_enter Try.func6, Try.ntmps6
    go_wp2
    go_ret
    exact ⟨rfl, Below.refl _ _⟩
  · by_cases h2 : 127 < i
    · clear h
      go_enter Try.func6, Try.ntmps6
      go_wp2
      go_ret
      exact ⟨rfl, Below.refl _ _⟩
    · by_cases h3 : k < 0
      · clear h
        go_enter Try.func6, Try.ntmps6
        go_wp2
        go_ret
        exact ⟨rfl, Below.refl _ _⟩
      · have h4 : 127 < k := by omega
        clear h
        go_enter Try.func6, Try.ntmps6
        go_wp2
        go_ret
        exact ⟨rfl, Below.refl _ _⟩

theorem powers_any (hM : MulSaid) (i k : Int) (w : World) : Calls Try.prog 6 #[.int .i64 i, .int .i64 k] w fun e w' => e = .returned (.bool true) ∧ Below w.heap.size w w' := by
  by_cases h : i < 0 ∨ 127 < i ∨ k < 0 ∨ 127 < k
  · exact powers_out i k h w
  · obtain ⟨n, rfl⟩ : ∃ n : Nat, i = n := ⟨i.toNat, by omega⟩
    obtain ⟨m, rfl⟩ : ∃ m : Nat, k = m := ⟨k.toNat, by omega⟩
    exact powers_in hM n m (by omega) (by omega) w
end Go.Proofs.Ytmkkcplkpajjfaa
