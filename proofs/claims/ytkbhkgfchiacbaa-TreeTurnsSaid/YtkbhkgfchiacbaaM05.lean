/- RefEnc RefFlo FloSaid Gf Fld RefFld FldSaid: texts laid together. -/
import Derived.Test.YtkbhkgfchiacbaaM04
import Derived.Test.YtkbhkgfchiacbaaM03
import Derived.Test.YtkbhkgfchiacbaaM02
import Derived.WalkKit
import Derived.Test.YtkbhkgfchiacbaaM01

/- What lockboxref2.Encrypt comes to. -/
namespace Go.Proofs.Ytkbhkgfchiacbaa
open Go.RowKit
set_option maxRecDepth 20000

theorem encN_succ (ks : Nat → BitVec 64) (p : BitVec 64 × BitVec 64) (n : Nat) : encN ks p (n + 1) = encR (ks n) (encN ks p n) := rfl

set_option maxHeartbeats 1000000 in
theorem rencrypt (k p : BitVec 64 × BitVec 64) (w : World) : Calls Try.prog 75 #[.agg #[.int .u64 (nv k.1), .int .u64 (nv k.2)], .agg #[.int .u64 (nv p.1), .int .u64 (nv p.2)]] w fun e w' => e = .returned (.agg #[.int .u64 (nv (enc k p).1), .int .u64 (nv (enc k p).2)]) ∧ Below w.heap.size w w' := by
  go_enter Try.func75, Try.ntmps75
  go_wp2
  go_region
  go_wp2_with fail
  refine (rkeys k _).mono ?_
  rintro e w1 ⟨g, cap, rfl, hg, hk, hb1⟩
  simp only [World.size_drew, World.size_alloc] at hb1 hg
  have bxr : Box w1 (w.heap.size + 2) 0 0 := by
    have := Box.new ((w.alloc (.cells #[.int .u64 (nv k.1), .int .u64 (nv k.2)] 34)).alloc (.cells #[.int .u64 (nv p.1), .int .u64 (nv p.2)] 34)) 0 0
    simp only [World.size_alloc] at this
    exact this.drew.below hb1 (by omega)
  have hB1 : Below w.heap.size w w1 := by
    refine Below.trans ?_ (hb1.mono (by omega))
    go_grown
  have hS1 := hb1.size
  clear hb1
  go_wp2
  go_loopw [5, 6, 8] (fun x y i wr => ∃ j : Nat, j ≤ 32 ∧ i = .int .i64 j ∧ x = .int .u64 (nv (encN (key k) p j).1) ∧ y = .int .u64 (nv (encN (key k) p j).2) ∧ Below w1.heap.size w1 wr) (fun _ _ i _ => 32 - (intOf i).toNat)
  case atStart => exact ⟨0, by decide, rfl, rfl, rfl, Below.refl _ _⟩
  case round =>
    obtain ⟨j, hj, rfl, rfl, rfl, hb⟩ := hrel
    by_cases hlt : j < 32
    · have hkj := (hk.below hb hk.1).2 j hlt
      have HE := hide' (encN_succ (key k) p j)
      generalize encN (key k) p j = q at *
      go_wp2
      refine wp_region_held_drew (S := fun w' => w'.cell? ⟨g, j, none⟩ = some (.int .u64 (nv (key k j)))) (by kernel_rfl) hkj (fun hHeld => ?_)
      refine takeM 0 19 5 rfl rfl rfl (by kernel_rfl) (by kernel_rfl) (by kernel_rfl) (fun _ _ _ h => h) (by rfl) hHeld rfl ?_
      simp only [List.set_cons_succ, List.set_cons_zero]
      refine takeM 2 21 6 rfl rfl rfl (by kernel_rfl) (by kernel_rfl) (by kernel_rfl) (fun _ _ _ h => h) (by rfl) hHeld rfl ?_
      simp only [List.set_cons_succ, List.set_cons_zero]
      refine takeM 4 23 7 rfl rfl rfl (by kernel_rfl) (by kernel_rfl) (by kernel_rfl) (fun _ _ _ h => h) (by rfl) hHeld rfl ?_
      simp only [List.set_cons_succ, List.set_cons_zero]
      refine takeM 5 24 8 rfl rfl rfl (by kernel_rfl) (by kernel_rfl) (by kernel_rfl) (fun _ _ _ h => h) (by rfl) hHeld rfl ?_
      simp only [List.set_cons_succ, List.set_cons_zero]
      refine takeL 6 25 (v := ?_) rfl rfl (by kernel_rfl) (by kernel_rfl) (by kernel_rfl) (fun _ _ _ h => h) (by rfl) hHeld (fun w hSw => ?_) ?_
      rotate_left 1
      · (try dsimp only at hSw); go_simp; try with_reducible rfl
      simp only [List.set_cons_succ, List.set_cons_zero]
      refine takeL 7 26 (v := ?_) rfl rfl (by kernel_rfl) (by kernel_rfl) (by kernel_rfl) (fun _ _ _ h => h) (by rfl) hHeld (fun w hSw => ?_) ?_
      rotate_left 1
      · (try dsimp only at hSw); go_simp; try with_reducible rfl
      simp only [List.set_cons_succ, List.set_cons_zero]
      refine onlyL 1 rfl (by kernel_rfl) (by rfl) (fun K hK => ?_)
      go_wp2_with fail
      refine (right8 q.1 _).mono ?_
      rintro e w2 ⟨rfl, rfl⟩
      refine hK.out _ _ hkj (fun hHeld => ?_)
      clear hK K
      refine takeL 3 22 (v := ?_) rfl rfl (by kernel_rfl) (by kernel_rfl) (by kernel_rfl) (fun _ _ _ h => h) (by rfl) hHeld (fun w hSw => ?_) ?_
      rotate_left 1
      · (try dsimp only at hSw); go_simp; try with_reducible rfl
      simp only [List.set_cons_succ, List.set_cons_zero]
      refine takeL 8 27 (v := ?_) rfl rfl (by kernel_rfl) (by kernel_rfl) (by kernel_rfl) (fun _ _ _ h => h) (by rfl) hHeld (fun w hSw => ?_) ?_
      rotate_left 1
      · (try dsimp only at hSw); go_simp; try with_reducible rfl
      simp only [List.set_cons_succ, List.set_cons_zero]
      refine takeA 9 5 27 rfl rfl rfl (by kernel_rfl) (by kernel_rfl) (by kernel_rfl) (fun _ _ _ h => h) (by rfl) hHeld rfl ?_
      simp only [List.set_cons_succ, List.set_cons_zero]
      refine wpAnyH_done (by kernel_rfl) ?_ _
      clear hkj hHeld
      go_wp2_with fail
      refine (left3 q.2 _).mono ?_
      rintro e w2 ⟨rfl, rfl⟩
      go_wp2
      go_roundw
      case rel => exact ⟨j + 1, hlt, by go_num, u64v (by rw [nv_add, nv_xor, HE.out, encR]), u64v (by rw [nv_add, nv_xor, nv_xor, HE.out, encR]), hb.drew⟩
      case measure => simp [intOf]; omega
    · have hbx := bxr.grown hb
      have f0 := hbx.c0
      have f1 := hbx.c1
      have f2 := hbx.frozen 0
      have f3 := hbx.frozen 1
      obtain rfl : j = 32 := by omega
      go_wp2
      refine bodyPost_ret (v := .agg #[.int .u64 (nv (enc k p).1), .int .u64 (nv (enc k p).2)]) (by simp [results, Try.results75, go_sem, f0, f1]; exact ⟨rfl, rfl⟩) rfl ⟨rfl, ?_⟩
      exact ((hB1.trans (hb.mono hB1.size)).setCell (by simp only; omega) _).setCell (by simp only; omega) _
end Go.Proofs.Ytkbhkgfchiacbaa


/- What lockboxref4's functions come to. -/
namespace Go.Proofs.Ytkbhkgfchiacbaa
open Go.RowKit
set_option maxRecDepth 20000

theorem nonP_or2 (n : Nn) : bits .or .u64 (nv32 n.1 * 4294967296) (nv32 n.2.1) = nv (nonP n).1 := by
  rw [← nonP_or n]
  have := nv32_range n.1
  congr 1
  rw [IntKind.wrap_u64]
  omega

theorem rencrypt_at (k p : BitVec 64 × BitVec 64) (p1 p2 : Int) (hp1 : nv p.1 = p1) (hp2 : nv p.2 = p2) (w : World) :
    Calls Try.prog 75 #[.agg #[.int .u64 (nv k.1), .int .u64 (nv k.2)], .agg #[.int .u64 p1, .int .u64 p2]] w fun e w' => e = .returned (.agg #[.int .u64 (nv (enc k p).1), .int .u64 (nv (enc k p).2)]) ∧ Below w.heap.size w w' := by
  subst hp1 hp2
  exact rencrypt k p w

end Go.Proofs.Ytkbhkgfchiacbaa


/- What the statements ask of flow. -/
namespace Go.Proofs.Ytkbhkgfchiacbaa
open Go.RowKit
set_option maxRecDepth 20000

/-- flow.Sub is the document's. -/
def SubSaid : Prop := ∀ (key : BitVec 64 × BitVec 64) (n : Nn) (w : World), Calls Try.prog 44 #[.agg #[.int .u64 (nv key.1), .int .u64 (nv key.2)], .agg #[.int .u32 (nv32 n.1), .int .u32 (nv32 n.2.1), .int .u64 (nv n.2.2)]] w fun e w' => e = .returned (.agg #[.int .u64 (nv (subP key n).1), .int .u64 (nv (subP key n).2)]) ∧ Below w.heap.size w w'
/-- flow.Bytes is the document's. -/
def FlowSaid : Prop := ∀ (sub : BitVec 64 × BitVec 64) (n : Int) (w : World), Calls Try.prog 62 #[.agg #[.int .u64 (nv sub.1), .int .u64 (nv sub.2)], .int .i64 n] w fun e w' => Gives e w' (flowI sub n) ∧ Below w.heap.size w w'
/-- flow.Xor is the document's. -/
def XorSaid : Prop := ∀ (xs ys : List Int) (x y : Option Addr) (n m c d : Nat), n ≤ 50000 → m ≤ 50000 → n ≤ c → m ≤ d → Bytes xs → Bytes ys → ∀ w : World, SAt w x n xs → SAt w y m ys → Calls Try.prog 61 #[.slice x n c, .slice y m d] w fun e w' => Gives e w' (xorL xs ys) ∧ Below w.heap.size w w'

theorem flow_in (hF : FlowSaid) (sub : BitVec 64 × BitVec 64) (n : Nat) (hn : n ≤ 4000) {a b x : Int} (ha : nv sub.1 = a) (hb : nv sub.2 = b) (hx : x = (n : Int)) (w : World) : Calls Try.prog 62 #[.agg #[.int .u64 a, .int .u64 b], .int .i64 x] w fun e w' => (∃ y c, e = .returned (.slice y n c) ∧ SAt w' y n (flowL sub n) ∧ n ≤ c ∧ c ≤ maxLen ∧ (y = none → n = 0 ∧ c = 0)) ∧ Below w.heap.size w w' := by
  subst ha hb hx
  refine (hF sub n w).mono fun e w' ⟨⟨y, l, c, he, hs, hc, hm, hnil⟩, hb⟩ => ?_
  rw [flowI_in sub n hn] at hs
  obtain rfl : n = l := by rw [← hs.1, flowL_length]
  exact ⟨⟨y, c, he, hs, hc, hm, hnil⟩, hb⟩
theorem flow_out (hF : FlowSaid) (sub : BitVec 64 × BitVec 64) (n : Int) (hn : n < 0 ∨ 4000 < n) (w : World) : Calls Try.prog 62 #[.agg #[.int .u64 (nv sub.1), .int .u64 (nv sub.2)], .int .i64 n] w fun e w' => (∃ y c, e = .returned (.slice y 0 c)) ∧ Below w.heap.size w w' := by
  refine (hF sub n w).mono fun e w' ⟨⟨y, l, c, he, hs, hc, hm, hnil⟩, hb⟩ => ?_
  rw [flowI_out sub n hn] at hs
  obtain rfl : 0 = l := hs.1
  exact ⟨⟨y, c, he⟩, hb⟩
end Go.Proofs.Ytkbhkgfchiacbaa


/- Plain facts: polynomials over 0 and 1 of 128 digits, power 128 taken out by 135, are a field. -/
namespace Go.Proofs.Ytkbhkgfchiacbaa.Gf

/-- Times power 1. -/
def xt (v : BitVec 128) : BitVec 128 := (v <<< 1) ^^^ (if v.msb then 135#128 else 0#128)
theorem xor_mid (a b c : BitVec 128) : a ^^^ c ^^^ (b ^^^ c) = a ^^^ b := by
  have : a ^^^ c ^^^ (b ^^^ c) = a ^^^ b ^^^ (c ^^^ c) := by ac_rfl
  rw [this, BitVec.xor_self, BitVec.xor_zero]
theorem xt_add (u v : BitVec 128) : xt (u ^^^ v) = xt u ^^^ xt v := by
  unfold xt
  rw [BitVec.shiftLeft_xor_distrib, BitVec.msb_xor]
  cases u.msb <;> cases v.msb
  · simp
  · simp; ac_rfl
  · simp; ac_rfl
  · simp only [bne_self_eq_false, Bool.false_eq_true, if_false, if_true]
    rw [xor_mid, BitVec.xor_zero]
theorem xt_zero : xt 0#128 = 0#128 := by decide

/-- The product, its highest n digits of b done. -/
def hor (a b : BitVec 128) : Nat → BitVec 128
  | 0 => 0#128
  | n + 1 => xt (hor a b n) ^^^ (if b.getLsbD (127 - n) then a else 0#128)
def mul (a b : BitVec 128) : BitVec 128 := hor a b 128
theorem hor_succ (a b : BitVec 128) (n : Nat) : hor a b (n + 1) = xt (hor a b n) ^^^ (if b.getLsbD (127 - n) then a else 0#128) := rfl

theorem hor_map (f : BitVec 128 → BitVec 128) (hf : ∀ u v, f (u ^^^ v) = f u ^^^ f v) (hx : ∀ u, f (xt u) = xt (f u)) (a b : BitVec 128) : ∀ n, f (hor a b n) = hor (f a) b n := by
  have h0 : f 0#128 = 0#128 := by
    have := hf 0#128 0#128
    rw [BitVec.xor_self] at this
    rw [this, BitVec.xor_self]
  intro n
  induction n with
  | zero => exact h0
  | succ n ih =>
    rw [hor_succ, hor_succ, hf, hx, ih]
    split
    · rfl
    · rw [h0]
theorem hor_add (a a' b : BitVec 128) : ∀ n, hor (a ^^^ a') b n = hor a b n ^^^ hor a' b n := by
  intro n
  induction n with
  | zero => simp [hor]
  | succ n ih =>
    rw [hor_succ, hor_succ, hor_succ, ih, xt_add]
    split
    · ac_rfl
    · simp
theorem add_mul (a a' b : BitVec 128) : mul (a ^^^ a') b = mul a b ^^^ mul a' b := hor_add a a' b 128
theorem xt_mul (a b : BitVec 128) : mul (xt a) b = xt (mul a b) := (hor_map xt xt_add (fun _ => rfl) a b 128).symm
/-- The heart of it. -/
theorem star (a b c : BitVec 128) : mul (mul a b) c = mul (mul a c) b :=
  hor_map (fun v => mul v c) (fun u v => add_mul u v c) (fun u => xt_mul u c) a b 128

theorem one_hor (b : BitVec 128) : ∀ n, n ≤ 128 → hor 1#128 b n = b >>> (128 - n) := by
  intro n
  induction n with
  | zero =>
    intro _
    apply BitVec.eq_of_getLsbD_eq
    intro i hi
    simp [hor, BitVec.getLsbD_of_ge]
  | succ n ih =>
    intro hn
    rw [hor_succ, ih (by omega)]
    have hm : (b >>> (128 - n)).msb = false := by
      rw [BitVec.msb_eq_getLsbD_last, BitVec.getLsbD_ushiftRight]
      exact BitVec.getLsbD_of_ge _ _ (by omega)
    unfold xt
    rw [hm]
    apply BitVec.eq_of_getLsbD_eq
    intro i hi
    by_cases h0 : i = 0
    · subst h0
      rw [show 128 - (n + 1) = 127 - n from by omega]
      cases hb : b.getLsbD (127 - n) <;> simp [hb]
    · have e1 : 128 - n + (i - 1) = 128 - (n + 1) + i := by omega
      have e2 : ((1#128 : BitVec 128)).getLsbD i = false := by simp [h0]
      have e3 : (if b.getLsbD (127 - n) = true then 1#128 else 0#128).getLsbD i = false := by
        split
        · exact e2
        · simp
      have e4 : i ≠ 0 := h0
      rw [BitVec.getLsbD_xor, e3]
      simp [hi, e4, e1]
theorem one_mul (b : BitVec 128) : mul 1#128 b = b := by
  rw [mul, one_hor b 128 (Nat.le_refl _)]
  simp
theorem mul_comm (a b : BitVec 128) : mul a b = mul b a := by
  have := star 1#128 a b
  rw [one_mul, one_mul] at this
  exact this
theorem mul_assoc (a b c : BitVec 128) : mul (mul a b) c = mul a (mul b c) := by
  rw [mul_comm a b, star b a c, mul_comm]
theorem mul_add (a b c : BitVec 128) : mul a (b ^^^ c) = mul a b ^^^ mul a c := by
  rw [mul_comm, add_mul, mul_comm b, mul_comm c]
theorem mul_one (a : BitVec 128) : mul a 1#128 = a := by rw [mul_comm, one_mul]
theorem zero_mul (a : BitVec 128) : mul 0#128 a = 0#128 := by
  have := add_mul 0#128 0#128 a
  rw [BitVec.xor_self] at this
  rw [this, BitVec.xor_self]
theorem mul_zero (a : BitVec 128) : mul a 0#128 = 0#128 := by rw [mul_comm, zero_mul]
theorem mul_two (a : BitVec 128) : mul a 2#128 = xt a := by
  have : xt 1#128 = 2#128 := by decide
  rw [mul_comm, ← this, xt_mul, one_mul]

/-- Squares. -/
def sq (v : BitVec 128) : BitVec 128 := mul v v
theorem sq_add (u v : BitVec 128) : sq (u ^^^ v) = sq u ^^^ sq v := by
  unfold sq
  rw [add_mul, mul_add, mul_add, mul_comm v u]
  have : mul u u ^^^ mul u v ^^^ (mul u v ^^^ mul v v) = mul u u ^^^ (mul u v ^^^ mul u v) ^^^ mul v v := by ac_rfl
  rw [this, BitVec.xor_self, BitVec.xor_zero]
theorem sq_mul (u v : BitVec 128) : sq (mul u v) = mul (sq u) (sq v) := by
  unfold sq
  rw [mul_assoc, mul_assoc u u, ← mul_assoc v u v, mul_comm v u, mul_assoc u v v]
def sqN (v : BitVec 128) : Nat → BitVec 128
  | 0 => v
  | n + 1 => sq (sqN v n)
theorem sqN_add (u v : BitVec 128) : ∀ n, sqN (u ^^^ v) n = sqN u n ^^^ sqN v n := by
  intro n
  induction n with
  | zero => rfl
  | succ n ih => rw [sqN, ih, sq_add]; rfl
theorem sqN_mul (u v : BitVec 128) : ∀ n, sqN (mul u v) n = mul (sqN u n) (sqN v n) := by
  intro n
  induction n with
  | zero => rfl
  | succ n ih => rw [sqN, ih, sq_mul]; rfl
theorem sqN_const : sqN 0#128 128 = 0#128 ∧ sqN 1#128 128 = 1#128 := by
  have h0 : ∀ n, sqN 0#128 n = 0#128 := by
    intro n
    induction n with
    | zero => rfl
    | succ n ih => rw [sqN, ih, sq, zero_mul]
  have h1 : ∀ n, sqN 1#128 n = 1#128 := by
    intro n
    induction n with
    | zero => rfl
    | succ n ih => rw [sqN, ih, sq, one_mul]
  exact ⟨h0 128, h1 128⟩
theorem sqN_two : sqN 2#128 128 = 2#128 := by decide +kernel
theorem frob (v : BitVec 128) : sqN v 128 = v := by
  have h : ∀ n, sqN (hor 1#128 v n) 128 = hor 1#128 v n := by
    intro n
    induction n with
    | zero => exact sqN_const.1
    | succ n ih =>
      rw [hor_succ, sqN_add, ← mul_two, sqN_mul, ih, sqN_two]
      split
      · rw [sqN_const.2]
      · rw [sqN_const.1]
  have := h 128
  rw [show hor 1#128 v 128 = v from one_mul v] at this
  exact this

/-- Sums of r i over the digits of v. -/
def lin (r : Nat → BitVec 128) (v : BitVec 128) : Nat → BitVec 128
  | 0 => 0#128
  | n + 1 => lin r v n ^^^ (if v.getLsbD n then r n else 0#128)
theorem lin_add (r : Nat → BitVec 128) (u v : BitVec 128) : ∀ n, lin r (u ^^^ v) n = lin r u n ^^^ lin r v n := by
  intro n
  induction n with
  | zero => simp [lin]
  | succ n ih =>
    rw [lin, lin, lin, ih, BitVec.getLsbD_xor]
    have e : lin r u n ^^^ (if u.getLsbD n = true then r n else 0#128) ^^^ (lin r v n ^^^ (if v.getLsbD n = true then r n else 0#128)) = lin r u n ^^^ lin r v n ^^^ ((if u.getLsbD n = true then r n else 0#128) ^^^ (if v.getLsbD n = true then r n else 0#128)) := by ac_rfl
    rw [e]
    cases u.getLsbD n <;> cases v.getLsbD n <;> simp
def unit (i : Nat) : BitVec 128 := 1#128 <<< i
theorem lin_unit (v : BitVec 128) : ∀ n, n ≤ 128 → ∀ i, (lin unit v n).getLsbD i = (decide (i < n) && v.getLsbD i) := by
  intro n
  induction n with
  | zero => intro _ i; simp [lin]
  | succ n ih =>
    intro hn i
    rw [lin, BitVec.getLsbD_xor, ih (by omega)]
    have hu : (if v.getLsbD n = true then unit n else 0#128).getLsbD i = (v.getLsbD n && decide (i = n)) := by
      cases v.getLsbD n
      · simp
      · simp only [if_true, unit, Bool.true_and, BitVec.getLsbD_shiftLeft]
        by_cases e : i = n
        · subst e; simp; omega
        · by_cases h : i < n
          · simp [h, e]
          · have : ((1#128 : BitVec 128)).getLsbD (i - n) = false := by simp; omega
            simp [this, e]
    rw [hu]
    by_cases e : i = n
    · subst e; simp
    · by_cases h : i < n
      · have h' : i < n + 1 := by omega
        simp [h, h', e]
      · have h' : ¬ i < n + 1 := by omega
        simp [h, h', e]
theorem lin_self (v : BitVec 128) : lin unit v 128 = v := by
  apply BitVec.eq_of_getLsbD_eq
  intro i hi
  rw [lin_unit v 128 (Nat.le_refl _)]
  simp [hi]
theorem lin_map (f : BitVec 128 → BitVec 128) (hf : ∀ u v, f (u ^^^ v) = f u ^^^ f v) (r : Nat → BitVec 128) (v : BitVec 128) : ∀ n, f (lin r v n) = lin (fun i => f (r i)) v n := by
  have h0 : f 0#128 = 0#128 := by
    have := hf 0#128 0#128
    rw [BitVec.xor_self] at this
    rw [this, BitVec.xor_self]
  intro n
  induction n with
  | zero => exact h0
  | succ n ih =>
    rw [lin, lin, hf, ih]
    split
    · rfl
    · rw [h0]
theorem lin_congr {r s : Nat → BitVec 128} (v : BitVec 128) : ∀ n, (∀ i, i < n → r i = s i) → lin r v n = lin s v n := by
  intro n
  induction n with
  | zero => intro _; rfl
  | succ n ih =>
    intro h
    rw [lin, lin, ih (fun i hi => h i (by omega)), h n (by omega)]
/-- Two sums that agree at each digit agree. -/
theorem same_lin {f g : BitVec 128 → BitVec 128} (hf : ∀ u v, f (u ^^^ v) = f u ^^^ f v) (hg : ∀ u v, g (u ^^^ v) = g u ^^^ g v) (h : ∀ i, i < 128 → f (unit i) = g (unit i)) (v : BitVec 128) : f v = g v := by
  rw [← lin_self v, lin_map f hf, lin_map g hg]
  exact lin_congr v 128 h

def backs : List Nat := [54969562866131847669016652494142573320, 305526867633558886955404559995676324868, 305526867633558886955404559995676324870, 104469799312523126935073530960423461388, 305526867633558886955404559995676324866, 56734434906695435454005472259553578602, 104469799312523126935073530960423461380, 271830150077582418345900040240152313368, 305526867633558886955404559995676324882, 104470118804432205535668098632526617412, 56734434906695435454005472259553578570, 227145695117876428321601179286510436182, 104469799312523126935073530960423461444, 305967500991204419130524647600360013666, 271830150077582418345900040240152313496, 227728627380917811012951187023350445606, 305526867633558886955404559995676325138, 56815181714465587187729576693626853178, 104470118804432205535668098632526616900, 2537993204061707162883588357039153916, 56734434906695435454005472259553577546, 3012428575888700110705650160495551628, 227145695117876428321601179286510434134, 275671395948664093117384310641479295528, 104469799312523126935073530960423465540, 271915852323952067842399232303023203416, 305967500991204419130524647600360005474, 102998777379450204286412735627287799860, 271830150077582418345900040240152297112, 272209106874770544727132909282711537316, 227728627380917811012951187023350412838, 135325830696997074197434372310186257282, 305526867633558886955404559995676390674, 57232084741685004684866676497372669754, 56815181714465587187729576693626984250, 135411474552265958872087683058005180738, 104470118804432205535668098632526879044, 275757512462385460142162890854388625828, 2537993204061707162883588357039678204, 274842411402277094064293402576501149528, 56734434906695435454005472259554626122, 175382474467339210118195525752143821788, 3012428575888700110705650160497648780, 5261797816253387317062014170447638976, 227145695117876428321601179286514628438, 272210066766835802062006483639670336468, 275671395948664093117384310641470906920, 225136856268418471551472419225175749014, 104469799312523126935073530960440242756, 102164174349821125137969924442995585924, 271915852323952067842399232302989648984, 226936647763116174786496543602468507498, 305967500991204419130524647600427114338, 305532029585887981283514747020026657774, 102998777379450204286412735627422017588, 133211003395652039953403666705387164366, 271830150077582418345900040239883861656, 102148097239065330920971689869502701364, 272209106874770544727132909283248408228, 173139448164521758332819425568250980204, 227728627380917811012951187022276671014, 305961988162602755697098987302884752222, 135325830696997074197434372312333740930, 175397880387343143921058595535091746080, 305526867633558886955404559991381423378, 329634352286836299080082914081100, 57232084741685004684866676505962604346, 172705286512742171128536335012890908524, 56815181714465587187729576710806853434, 303614986222712004812458293485509624930, 135411474552265958872087683023645442370, 170536380025231687221712635462198253856, 104470118804432205535668098701246355780, 225051247907070202050589524227723711914, 275757512462385460142162890991827579300, 308170559265311564786252692292247708062, 2537993204061707162883588082161771260, 102169133813289299704984590013427707636, 274842411402277094064293402026745335640, 303326766809063102477989677003176958226, 56734434906695435454005473359066253898, 172841837191359616877872241477191677152, 175382474467339210118195523553120566236, 54888141419452711199816878900948880442, 3012428575888700110705654558544159884, 307799342647640341558117533281787318686, 5261797816253387317062022966540661184, 273119276677551945356669168913118222868, 227145695117876428321601196878700672854, 272311600527812781647585363233504111460, 272210066766835802062006518824042425300, 5181299727675599870287693023180209980, 275671395948664093117384240272726729256, 305525142620375929691910208574098026146, 225136856268418471551472278487687393686, 307772801086609188417528170053220769746, 104469799312523126935073249485463532100, 54596111748351997025280216654447342278, 102164174349821125137970487392949007236, 308164931596625094656266467235253809106, 271915852323952067842398106403082806360, 227647953955287367714133036452945544742, 226936647763116174786494291802654822250, 308170555145571807541189819739699809694, 305967500991204419130520144000799743842, 133105130754254600986622393405343152142, 305532029585887981283523754219281398766, 172410759080424577518324870893406614048, 102998777379450204286394721228912535604, 54969320214588899006126198736319185926, 133211003395652039953439695502406128334, 227375442280390979429973553919662004774, 271830150077582418345827982645845933720, 4955917326648230773508684280683823104, 102148097239065330921115805057578557236, 172885700256406002458384310923462859152, 272209106874770544726844678907096696484, 56538291399058816093646072645906817530, 173139448164521758332242964815947556716, 55418003596362017635628740176384579466, 227728627380917811014104108526883517990, 0, 305961988162602755699404830312098446174, 178356100567250831900639352525185366892, 135325830696997074202046058330761128834, 189481146061086134017106552491789565356, 175397880387343143911835223498236970272, 75361565302940573017734093940626417402]
def back (v : BitVec 128) : BitVec 128 := lin (fun i => BitVec.ofNat 128 (backs.getD i 0)) v 128
def low (v : BitVec 128) : BitVec 128 := v ^^^ (if v.getLsbD 0 then 1#128 else 0#128)
theorem back_add (u v : BitVec 128) : back (u ^^^ v) = back u ^^^ back v := lin_add _ u v 128
theorem low_add (u v : BitVec 128) : low (u ^^^ v) = low u ^^^ low v := by
  unfold low
  rw [BitVec.getLsbD_xor]
  cases u.getLsbD 0 <;> cases v.getLsbD 0
  · simp
  · simp; ac_rfl
  · simp; ac_rfl
  · simp only [bne_self_eq_false, Bool.false_eq_true, if_false, if_true]
    rw [xor_mid, BitVec.xor_zero]
theorem back_units : ∀ i, i < 128 → back (sq (unit i) ^^^ unit i) = low (unit i) := by
  have h : (List.range 128).all (fun i => back (sq (unit i) ^^^ unit i) == low (unit i)) = true := by decide +kernel
  intro i hi
  exact eq_of_beq (List.all_eq_true.1 h i (List.mem_range.2 hi))
theorem back_sq (v : BitVec 128) : back (sq v ^^^ v) = low v := by
  refine same_lin (f := fun v => back (sq v ^^^ v)) (g := low) (fun u w => ?_) low_add back_units v
  show back (sq (u ^^^ w) ^^^ (u ^^^ w)) = _
  rw [sq_add, ← back_add]
  congr 1
  ac_rfl
theorem fixed {v : BitVec 128} (h : sq v = v) : v = 0#128 ∨ v = 1#128 := by
  have := back_sq v
  rw [h, BitVec.xor_self] at this
  have h0 : back 0#128 = 0#128 := by
    have := back_add 0#128 0#128
    rw [BitVec.xor_self] at this
    rw [this, BitVec.xor_self]
  rw [h0, low] at this
  have e : v = (if v.getLsbD 0 = true then 1#128 else 0#128) := by
    have h2 := congrArg (· ^^^ (if v.getLsbD 0 = true then 1#128 else 0#128)) this
    simp only [BitVec.xor_assoc, BitVec.xor_self, BitVec.xor_zero, BitVec.zero_xor] at h2
    exact h2.symm
  by_cases hb : v.getLsbD 0 = true
  · rw [if_pos hb] at e; exact Or.inr e
  · rw [if_neg hb] at e; exact Or.inl e

/-- a to the power 2^n - 1. -/
def pw (a : BitVec 128) : Nat → BitVec 128
  | 0 => 1#128
  | n + 1 => mul (sq (pw a n)) a
theorem pw_mul (a : BitVec 128) : ∀ n, mul (pw a n) a = sqN a n := by
  intro n
  induction n with
  | zero => exact one_mul a
  | succ n ih =>
    rw [pw, sqN, ← ih, sq_mul, mul_assoc]
    rfl
theorem no_zero {a b : BitVec 128} (h : mul a b = 0#128) : a = 0#128 ∨ b = 0#128 := by
  have he : mul (pw a 128) a = a := by rw [pw_mul, frob]
  have hs : sq (pw a 128) = pw a 128 := by
    have e : pw a 128 = mul (sq (pw a 127)) a := rfl
    unfold sq
    calc mul (pw a 128) (pw a 128) = mul (pw a 128) (mul (sq (pw a 127)) a) := by rw [← e]
      _ = mul (sq (pw a 127)) (mul (pw a 128) a) := by rw [← mul_assoc, mul_comm (pw a 128), mul_assoc]
      _ = pw a 128 := by rw [he, e]
  rcases fixed hs with h0 | h1
  · left
    rw [h0, zero_mul] at he
    exact he.symm
  · right
    have e : mul (sq (pw a 127)) a = 1#128 := h1
    calc b = mul 1#128 b := (one_mul b).symm
      _ = mul (sq (pw a 127)) (mul a b) := by rw [← e, mul_assoc]
      _ = 0#128 := by rw [h, mul_zero]
end Go.Proofs.Ytkbhkgfchiacbaa.Gf


/- Plain facts: Pairs as polynomials of 128 digits, as the document reckons with them. -/
namespace Go.Proofs.Ytkbhkgfchiacbaa
open Go.RowKit
set_option maxRecDepth 20000

theorem nv_shl1 (x : BitVec 64) : IntKind.u64.wrap (nv x * 2) = nv (x <<< 1) := by
  unfold nv
  rw [IntKind.wrap_u64, BitVec.toNat_shiftLeft, Nat.shiftLeft_eq]; omega
theorem nv_shr63 (x : BitVec 64) : nv x / (9223372036854775808 : Int) = nv (x >>> 63) := by
  unfold nv
  rw [BitVec.toNat_ushiftRight, Nat.shiftRight_eq_div_pow]; omega
theorem nv_shr (x : BitVec 64) (m : Nat) : nv x / (2 : Int) ^ m = nv (x >>> m) := by
  unfold nv
  rw [BitVec.toNat_ushiftRight, Nat.shiftRight_eq_div_pow]; simp
theorem nv_or (x y : BitVec 64) : bits .or .u64 (nv x) (nv y) = nv (x ||| y) := by
  unfold nv
  rw [u64_or_nat _ _ x.isLt y.isLt, BitVec.toNat_or]
theorem nv_and (x y : BitVec 64) : bits .and .u64 (nv x) (nv y) = nv (x &&& y) := by
  unfold nv
  rw [u64_and_nat _ _ x.isLt y.isLt, BitVec.toNat_and]
theorem nv_135 : nv 135#64 = 135 := by decide
theorem nv_one : nv 1#64 = 1 := by decide
theorem nv_zero : nv 0#64 = 0 := by decide

theorem digit (x : BitVec 64) (m : Nat) : (bits .and .u64 (nv x / (2 : Int) ^ m) 1 == 1) = x.getLsbD m := by
  have e : bits .and .u64 (nv x / (2 : Int) ^ m) 1 = nv ((x >>> m) &&& 1#64) := by rw [nv_shr, ← nv_and, nv_one]
  rw [e, ← nv_one, nv_eq]
  have hb : ((x >>> m) &&& 1#64) = if x.getLsbD m then 1#64 else 0#64 := by
    apply BitVec.eq_of_getLsbD_eq
    intro i hi
    rw [BitVec.getLsbD_and, BitVec.getLsbD_ushiftRight]
    by_cases h0 : i = 0
    · subst h0
      cases x.getLsbD m <;> simp
    · have h1 : (1#64 : BitVec 64).getLsbD i = false := by simp [h0]
      rw [h1, Bool.and_false]
      cases x.getLsbD m
      · simp
      · exact h1.symm
  rw [hb]
  cases x.getLsbD m <;> decide

/-- A Pair as a polynomial: the first number's digits are the higher ones. -/
def cat (p : BitVec 64 × BitVec 64) : BitVec 128 := p.1 ++ p.2
theorem cat_bit (p : BitVec 64 × BitVec 64) (i : Nat) : (cat p).getLsbD i = if i < 64 then p.2.getLsbD i else p.1.getLsbD (i - 64) := by
  unfold cat
  rw [BitVec.getLsbD_append]
theorem cat_inj {p q : BitVec 64 × BitVec 64} (h : cat p = cat q) : p = q := by
  have hb : ∀ i, (cat p).getLsbD i = (cat q).getLsbD i := fun i => by rw [h]
  obtain ⟨p1, p2⟩ := p
  obtain ⟨q1, q2⟩ := q
  have e2 : p2 = q2 := by
    apply BitVec.eq_of_getLsbD_eq
    intro i hi
    have := hb i
    rw [cat_bit, cat_bit, if_pos hi, if_pos hi] at this
    exact this
  have e1 : p1 = q1 := by
    apply BitVec.eq_of_getLsbD_eq
    intro i hi
    have := hb (i + 64)
    rw [cat_bit, cat_bit, if_neg (by omega), if_neg (by omega), Nat.add_sub_cancel] at this
    exact this
  rw [e1, e2]
def addP (p q : BitVec 64 × BitVec 64) : BitVec 64 × BitVec 64 := (p.1 ^^^ q.1, p.2 ^^^ q.2)
theorem cat_add (p q : BitVec 64 × BitVec 64) : cat (addP p q) = cat p ^^^ cat q := by
  apply BitVec.eq_of_getLsbD_eq
  intro i hi
  rw [BitVec.getLsbD_xor, cat_bit, cat_bit, cat_bit]
  split
  · exact BitVec.getLsbD_xor
  · exact BitVec.getLsbD_xor
def twiceP (p : BitVec 64 × BitVec 64) : BitVec 64 × BitVec 64 := ((p.1 <<< 1) ||| (p.2 >>> 63), if p.1 >>> 63 = 1#64 then (p.2 <<< 1) ^^^ 135#64 else p.2 <<< 1)
theorem top_bit (x : BitVec 64) : (x >>> 63 = 1#64) ↔ x.getLsbD 63 = true := by
  constructor
  · intro h
    have := congrArg (fun v : BitVec 64 => v.getLsbD 0) h
    simpa using this
  · intro h
    apply BitVec.eq_of_getLsbD_eq
    intro i hi
    rw [BitVec.getLsbD_ushiftRight]
    by_cases e : i = 0
    · subst e; simpa using h
    · rw [BitVec.getLsbD_of_ge x _ (by omega)]
      simp [e]
theorem cat_msb (p : BitVec 64 × BitVec 64) : (cat p).msb = p.1.getLsbD 63 := by
  rw [BitVec.msb_eq_getLsbD_last, cat_bit, if_neg (by decide)]
theorem bit135 : ∀ i, i < 128 → (135#128 : BitVec 128).getLsbD i = (decide (i < 64) && (135#64 : BitVec 64).getLsbD i) := by decide
theorem cat_twice (p : BitVec 64 × BitVec 64) : cat (twiceP p) = Gf.xt (cat p) := by
  apply BitVec.eq_of_getLsbD_eq
  intro i hi
  unfold Gf.xt
  rw [BitVec.getLsbD_xor, cat_msb, cat_bit]
  have hsh : (cat p <<< 1).getLsbD i = (decide (i ≠ 0) && (cat p).getLsbD (i - 1)) := by
    rw [BitVec.getLsbD_shiftLeft]
    by_cases e : i = 0
    · simp [e]
    · have : ¬ i < 1 := by omega
      simp [hi, e, this]
  rw [hsh, cat_bit]
  have hc : (if p.1.getLsbD 63 = true then 135#128 else 0#128).getLsbD i = (p.1.getLsbD 63 && (decide (i < 64) && (135#64 : BitVec 64).getLsbD i)) := by
    cases p.1.getLsbD 63
    · simp
    · simp only [if_true, Bool.true_and]; exact bit135 i hi
  rw [hc]
  have hsec : (twiceP p).2 = (p.2 <<< 1) ^^^ (if p.1.getLsbD 63 = true then 135#64 else 0#64) := by
    unfold twiceP
    by_cases h : p.1 >>> 63 = 1#64
    · have h' := (top_bit p.1).1 h
      simp only [h, h', if_true]
    · have h' : p.1.getLsbD 63 = false := by
        cases hq : p.1.getLsbD 63
        · rfl
        · exact absurd ((top_bit p.1).2 hq) h
      rw [if_neg h, h', if_neg (by decide), BitVec.xor_zero]
  by_cases h64 : i < 64
  · rw [if_pos h64, hsec, BitVec.getLsbD_xor, BitVec.getLsbD_shiftLeft]
    by_cases e : i = 0
    · subst e
      cases p.1.getLsbD 63 <;> simp
    · have e1 : i - 1 < 64 := by omega
      have e2 : ¬ i < 1 := by omega
      cases p.1.getLsbD 63 <;> simp [h64, e, e1, e2]
  · rw [if_neg h64]
    show ((p.1 <<< 1) ||| (p.2 >>> 63)).getLsbD (i - 64) = _
    rw [BitVec.getLsbD_or, BitVec.getLsbD_shiftLeft, BitVec.getLsbD_ushiftRight]
    by_cases e : i = 64
    · subst e; simp
    · have e1 : ¬ i - 1 < 64 := by omega
      have e2 : ¬ i - 64 < 1 := by omega
      have e3 : i - 64 < 64 := by omega
      have e4 : i - 64 - 1 = i - 1 - 64 := by omega
      have e5 : i ≠ 0 := by omega
      have e6 : p.2.getLsbD (63 + (i - 64)) = false := BitVec.getLsbD_of_ge _ _ (by omega)
      simp [h64, e1, e2, e3, e4, e5, e6]

theorem cat_zero : cat (0#64, 0#64) = 0#128 := by decide
/-- The document's product, n digits done. -/
def mulP (a b : BitVec 64 × BitVec 64) : Nat → BitVec 64 × BitVec 64
  | 0 => (0#64, 0#64)
  | n + 1 => if (cat b).getLsbD (127 - n) then addP (twiceP (mulP a b n)) a else twiceP (mulP a b n)
theorem mulP_succ (a b : BitVec 64 × BitVec 64) (n : Nat) : mulP a b (n + 1) = if (cat b).getLsbD (127 - n) then addP (twiceP (mulP a b n)) a else twiceP (mulP a b n) := rfl
theorem cat_mulP (a b : BitVec 64 × BitVec 64) : ∀ n, cat (mulP a b n) = Gf.hor (cat a) (cat b) n := by
  intro n
  induction n with
  | zero => exact cat_zero
  | succ n ih =>
    rw [mulP_succ, Gf.hor_succ, ← ih, ← cat_twice]
    split
    · exact cat_add _ _
    · rw [BitVec.xor_zero]
def fmul (a b : BitVec 64 × BitVec 64) : BitVec 64 × BitVec 64 := mulP a b 128
theorem cat_fmul (a b : BitVec 64 × BitVec 64) : cat (fmul a b) = Gf.mul (cat a) (cat b) := cat_mulP a b 128
theorem cat_one : cat (0#64, 1#64) = 1#128 := by decide
theorem cat_two : cat (0#64, 2#64) = 2#128 := by decide

theorem fmul_comm (a b : BitVec 64 × BitVec 64) : fmul a b = fmul b a := cat_inj (by rw [cat_fmul, cat_fmul, Gf.mul_comm])
theorem fmul_assoc (a b c : BitVec 64 × BitVec 64) : fmul a (fmul b c) = fmul (fmul a b) c := cat_inj (by rw [cat_fmul, cat_fmul, cat_fmul, cat_fmul, Gf.mul_assoc])
theorem fmul_add (a b c : BitVec 64 × BitVec 64) : fmul a (addP b c) = addP (fmul a b) (fmul a c) := cat_inj (by rw [cat_fmul, cat_add, cat_add, cat_fmul, cat_fmul, Gf.mul_add])
theorem fmul_one (a : BitVec 64 × BitVec 64) : fmul a (0#64, 1#64) = a := cat_inj (by rw [cat_fmul, cat_one, Gf.mul_one])
theorem fmul_zero (a : BitVec 64 × BitVec 64) : fmul a (0#64, 0#64) = (0#64, 0#64) := cat_inj (by rw [cat_fmul, cat_zero, Gf.mul_zero])
theorem fmul_two (a : BitVec 64 × BitVec 64) : fmul a (0#64, 2#64) = twiceP a := cat_inj (by rw [cat_fmul, cat_two, Gf.mul_two, cat_twice])
theorem addP_self (a : BitVec 64 × BitVec 64) : addP a a = (0#64, 0#64) := by simp [addP]
theorem fmul_none (a b : BitVec 64 × BitVec 64) : fmul a b = (0#64, 0#64) ↔ a = (0#64, 0#64) ∨ b = (0#64, 0#64) := by
  constructor
  · intro h
    have := congrArg cat h
    rw [cat_fmul, cat_zero] at this
    rcases Gf.no_zero this with e | e
    · exact Or.inl (cat_inj (by rw [e, cat_zero]))
    · exact Or.inr (cat_inj (by rw [e, cat_zero]))
  · rintro (rfl | rfl)
    · rw [fmul_comm, fmul_zero]
    · rw [fmul_zero]
end Go.Proofs.Ytkbhkgfchiacbaa


/- What lockboxref3's functions come to. -/
namespace Go.Proofs.Ytkbhkgfchiacbaa
open Go.RowKit
set_option maxRecDepth 20000


theorem agg2 {a b c d : Int} (h1 : a = c) (h2 : b = d) : Ending.returned (.agg #[.int .u64 a, .int .u64 b]) = .returned (.agg #[.int .u64 c, .int .u64 d]) := by rw [h1, h2]
theorem top_is (x : BitVec 64) : (nv x / 9223372036854775808 == 1) = decide (x >>> 63 = 1#64) := by
  rw [nv_shr63, ← nv_one, nv_eq]
theorem tw1 (p : BitVec 64 × BitVec 64) : bits .or .u64 (IntKind.u64.wrap (nv p.1 * 2)) (nv p.2 / 9223372036854775808) = nv (twiceP p).1 := by
  rw [nv_shl1, nv_shr63, nv_or, twiceP]
theorem tw2 (p : BitVec 64 × BitVec 64) (h : (nv p.1 / 9223372036854775808 == 1) = true) : bits .xor .u64 (IntKind.u64.wrap (nv p.2 * 2)) 135 = nv (twiceP p).2 := by
  rw [top_is, decide_eq_true_eq] at h
  rw [nv_shl1, ← nv_135, nv_xor, twiceP]
  simp only [h, if_true]
theorem tw3 (p : BitVec 64 × BitVec 64) (h : (nv p.1 / 9223372036854775808 == 1) = false) : IntKind.u64.wrap (nv p.2 * 2) = nv (twiceP p).2 := by
  rw [top_is, decide_eq_false_iff_not] at h
  rw [nv_shl1, twiceP]
  simp only [h, if_false]

theorem digit_hi (b : BitVec 64 × BitVec 64) (n : Nat) (h : n ≤ 63) : (bits .and .u64 (nv b.1 / 2 ^ ((127 - n) % 64)) 1 == 1) = (cat b).getLsbD (127 - n) := by
  rw [digit, cat_bit, if_neg (by omega), show (127 - n) % 64 = 127 - n - 64 from by omega]
theorem digit_lo (b : BitVec 64 × BitVec 64) (n : Nat) (h : 63 < n) (h2 : n < 128) : (bits .and .u64 (nv b.2 / 2 ^ ((127 - n) % 64)) 1 == 1) = (cat b).getLsbD (127 - n) := by
  rw [digit, cat_bit, if_pos (by omega), show (127 - n) % 64 = 127 - n from by omega]

end Go.Proofs.Ytkbhkgfchiacbaa


/- What the statements ask of field.Mul and field.Add. -/
namespace Go.Proofs.Ytkbhkgfchiacbaa
open Go.RowKit
set_option maxRecDepth 20000

/-- field.Mul is the document's. -/
def MulSaid : Prop := ∀ (a b : BitVec 64 × BitVec 64) (w : World), Calls Try.prog 73 #[.agg #[.int .u64 (nv a.1), .int .u64 (nv a.2)], .agg #[.int .u64 (nv b.1), .int .u64 (nv b.2)]] w fun e w' => e = .returned (.agg #[.int .u64 (nv (fmul a b).1), .int .u64 (nv (fmul a b).2)]) ∧ Below w.heap.size w w'
/-- field.Add is the document's. -/
def AddSaid : Prop := ∀ (a b : BitVec 64 × BitVec 64) (w : World), Calls Try.prog 64 #[.agg #[.int .u64 (nv a.1), .int .u64 (nv a.2)], .agg #[.int .u64 (nv b.1), .int .u64 (nv b.2)]] w fun e w' => e = .returned (.agg #[.int .u64 (nv (addP a b).1), .int .u64 (nv (addP a b).2)]) ∧ Below w.heap.size w w'

theorem mul_is (hM : MulSaid) (a b : BitVec 64 × BitVec 64) {c : BitVec 64 × BitVec 64} (h : fmul a b = c) (w : World) : Calls Try.prog 73 #[.agg #[.int .u64 (nv a.1), .int .u64 (nv a.2)], .agg #[.int .u64 (nv b.1), .int .u64 (nv b.2)]] w fun e w' => e = .returned (.agg #[.int .u64 (nv c.1), .int .u64 (nv c.2)]) ∧ Below w.heap.size w w' := by
  subst h
  exact hM a b w
theorem add_is (hA : AddSaid) (a b : BitVec 64 × BitVec 64) {c : BitVec 64 × BitVec 64} (h : addP a b = c) (w : World) : Calls Try.prog 64 #[.agg #[.int .u64 (nv a.1), .int .u64 (nv a.2)], .agg #[.int .u64 (nv b.1), .int .u64 (nv b.2)]] w fun e w' => e = .returned (.agg #[.int .u64 (nv c.1), .int .u64 (nv c.2)]) ∧ Below w.heap.size w w' := by
  subst h
  exact hA a b w
theorem mul_at (hM : MulSaid) (a b c : BitVec 64 × BitVec 64) {a1 a2 b1 b2 c1 c2 : Int} (ha1 : nv a.1 = a1) (ha2 : nv a.2 = a2) (hb1 : nv b.1 = b1) (hb2 : nv b.2 = b2) (h : fmul a b = c) (hc1 : nv c.1 = c1) (hc2 : nv c.2 = c2) (w : World) :
    Calls Try.prog 73 #[.agg #[.int .u64 a1, .int .u64 a2], .agg #[.int .u64 b1, .int .u64 b2]] w fun e w' => e = .returned (.agg #[.int .u64 c1, .int .u64 c2]) ∧ Below w.heap.size w w' := by
  subst ha1 ha2 hb1 hb2 h hc1 hc2
  exact hM a b w
end Go.Proofs.Ytkbhkgfchiacbaa
