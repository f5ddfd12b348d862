/- RefTag GcmSaid Dig RefDig LAt DigSaid: texts laid together. -/
import Derived.Test.YtkkehbebaokdmaaM08
import Derived.Test.YtkkehbebaokdmaaM06
import Derived.Test.YtkkehbebaokdmaaM03
import Derived.Test.YtkkehbebaokdmaaM01

/- What lockboxref5.Tag comes to. -/
namespace Go.Proofs.Ytkkehbebaokdmaa
open Go.RowKit
set_option maxRecDepth 20000

theorem nv_len (n : Nat) (h : n < 18446744073709551616) : nv (BitVec.ofNat 64 n) = n := by
  unfold nv
  rw [BitVec.toNat_ofNat]
  omega
theorem reval_of (h : BitVec 64 × BitVec 64) (f : Nat → BitVec 64 × BitVec 64) (x : Option Addr) (n cap : Nat) (hn : n ≤ 1000000) (w : World) (hx : PRow w x n f) {q : BitVec 64 × BitVec 64} (hq : evalP h f n = q) :
    Calls Try.prog 63 #[.agg #[.int .u64 (nv h.1), .int .u64 (nv h.2)], .slice x n cap] w fun e w' => e = .returned (.agg #[.int .u64 (nv q.1), .int .u64 (nv q.2)]) ∧ Below w.heap.size w w' := hq ▸ reval h f x n cap hn w hx
theorem radd_of (a b : BitVec 64 × BitVec 64) {c : BitVec 64 × BitVec 64} (h : addP a b = c) (w : World) : Calls Try.prog 62 #[.agg #[.int .u64 (nv a.1), .int .u64 (nv a.2)], .agg #[.int .u64 (nv b.1), .int .u64 (nv b.2)]] w fun e w' => e = .returned (.agg #[.int .u64 (nv c.1), .int .u64 (nv c.2)]) ∧ Below w.heap.size w w' := h ▸ radd a b w

set_option maxRecDepth 10000 in
set_option maxHeartbeats 1000000 in
theorem rtag (sub : BitVec 64 × BitVec 64) (xs ys : List Int) (x y : Option Addr) (n m c d : Nat) (hn : n ≤ 5000) (hm : m ≤ 5000) (bx : Bytes xs) (by_ : Bytes ys) (xnil : x = none → n = 0 ∧ c = 0) (ynil : y = none → m = 0 ∧ d = 0) (w : World) (sx : SAt w x n xs) (sy : SAt w y m ys) : Calls Try.prog 42 #[.agg #[.int .u64 (nv sub.1), .int .u64 (nv sub.2)], .slice x n c, .slice y m d] w fun e w' => e = .returned (.agg #[.int .u64 (nv (tagP sub xs ys).1), .int .u64 (nv (tagP sub xs ys).2)]) ∧ Below w.heap.size w w' := by
  obtain ⟨h, HH⟩ : ∃ h, Hid (enc sub (0#64, 1#64) = h) := ⟨_, rfl⟩
  obtain ⟨q0, HE⟩ : ∃ q0, Hid (evalP h (fun i => (prs xs ++ prs ys ++ [lenP n m]).getD i (0#64, 0#64)) (prs xs ++ prs ys ++ [lenP n m]).length = q0) := ⟨_, rfl⟩
  obtain ⟨t, HT, HG⟩ : ∃ t, Hid (addP q0 (enc sub (0#64, 0#64)) = t) ∧ Hid (tagP sub xs ys = t) := by
    refine ⟨_, rfl, ?_⟩
    rw [← HE.out, ← HH.out, tagP, sx.1, sy.1]
    exact hide' rfl
  have HL1 : Hid (nv (lenP n m).1 = n) := nv_len n (by omega)
  have HL2 : Hid (nv (lenP n m).2 = m) := nv_len m (by omega)
  have hl1 : (prs xs).length = (n + 15) / 16 := by rw [prs_length, sx.1]
  have hl2 : (prs ys).length = (m + 15) / 16 := by rw [prs_length, sy.1]
  rw [HG.out]
  go_enter Try.func42, Try.ntmps42
  go_wp2_with fail
  have b0 := (Box.new w (nv sub.1) (nv sub.2)).alloc (.cells #[.int .u64 0, .int .u64 0] 30)
  have bR := Box.new (w.alloc (.cells #[.int .u64 (nv sub.1), .int .u64 (nv sub.2)] 30)) 0 0
  have hB : Below w.heap.size w ((w.alloc (.cells #[.int .u64 (nv sub.1), .int .u64 (nv sub.2)] 30)).alloc (.cells #[.int .u64 0, .int .u64 0] 30)) := by go_grown
  simp only [World.size_alloc] at bR
  generalize (w.alloc (.cells #[.int .u64 (nv sub.1), .int .u64 (nv sub.2)] 30)).alloc (.cells #[.int .u64 0, .int .u64 0] 30) = W1 at *
  replace sx := sx.below hB
  replace sy := sy.below hB
  refine (rencrypt_at sub (0#64, 1#64) _ _ nv_zero nv_one _).mono ?_
  rintro e w1 ⟨rfl, hb⟩
  replace b0 := b0.grown hb
  replace bR := bR.grown hb
  replace sx := sx.below hb
  replace sy := sy.below hb
  replace hB := hB.trans (hb.mono hB.size)
  clear hb
  rw [HH.out]
  go_wp2_with fail
  have hb : Below w1.heap.size w1 (w1.alloc (.cells #[.int .u64 (nv h.1), .int .u64 (nv h.2)] 30)) := (Below.refl _ _).alloc (Nat.le_refl _) _
  have b2 := Box.new w1 (nv h.1) (nv h.2)
  replace b0 := b0.grown hb
  replace bR := bR.grown hb
  replace sx := sx.below hb
  replace sy := sy.below hb
  replace hB := hB.trans (hb.mono hB.size)
  clear hb
  generalize w1.alloc (.cells #[.int .u64 (nv h.1), .int .u64 (nv h.2)] 30) = w2 at *
  generalize w1.heap.size = A at *
  refine (rpairs xs x n c hn bx xnil _ sx).mono ?_
  rintro e w3 ⟨v1, rfl, own1, hb⟩
  have lR := bR.lt
  have lA := b2.lt
  replace b0 := b0.grown hb
  replace bR := bR.grown hb
  replace b2 := b2.grown hb
  replace sy := sy.below hb
  have hS2 : Below w2.heap.size w2 w3 := hb
  replace hB := hB.trans (hb.mono hB.size)
  clear hb sx
  go_wp2_with fail
  refine (rpairs ys y m d hm by_ ynil _ sy).mono ?_
  rintro e w4 ⟨v2, rfl, own2, hb⟩
  replace b0 := b0.grown hb
  replace bR := bR.grown hb
  replace b2 := b2.grown hb
  replace own1 := own_grown own1 hb
  replace hS2 := hS2.trans (hb.mono hS2.size)
  replace hB := hB.trans (hb.mono hB.size)
  clear hb sy
  obtain ⟨x2, c2, rfl, row2, -, -, nil2⟩ := own_pair_row hl2 own2
  obtain ⟨F2, HF2⟩ : ∃ F2, Hid ((fun i => (prs ys).getD i (0#64, 0#64)) = F2) := ⟨_, rfl⟩
  rw [HF2.out] at row2
  have hz4 := hS2.size
  go_wp2_with (at_builtin; refine wpList_appP rfl _ _ rfl w2.heap.size _ ((n + 15) / 16) _ rfl own1 x2 ((m + 15) / 16) c2 _ rfl row2 nil2 (by omega) hz4 ?_)
  intro v3 w5 own3 hb
  replace b0 := b0.below hb (by omega)
  replace bR := bR.below hb (by omega)
  replace b2 := b2.below hb lA
  replace hB := hB.trans (hb.mono (by omega))
  replace hz4 := Nat.le_trans hz4 hb.size
  clear hb own1 own2 row2 nil2 hS2
  rw [show flatP F2 ((m + 15) / 16) = fl (prs ys) from by rw [← HF2.out, fl, hl2], ← fl_append] at own3
  have hprow : PRow (w5.alloc (.cells #[.int .u64 n, .int .u64 m] 30)) (some ⟨w5.heap.size, 0, none⟩) 1 (fun _ => lenP n m) := by
    have := (Box.new w5 (nv (lenP n m).1) (nv (lenP n m).2)).prow
    rw [HL1.out, HL2.out] at this
    exact this
  go_wp2_with (at_builtin; refine wpList_appP rfl _ _ rfl w2.heap.size _ ((n + 15) / 16 + (m + 15) / 16) _ rfl (own3.alloc _) (some ⟨w5.heap.size, 0, none⟩) 1 1 (fun _ => lenP n m) rfl hprow (fun e => by cases e) (by omega) (by rw [World.size_alloc]; omega) ?_)
  intro v4 W3 own4 hb
  replace hb := ((Below.refl w2.heap.size w5).alloc hz4 (.cells #[.int .u64 n, .int .u64 m] 30)).trans hb
  replace b0 := b0.below hb (by omega)
  replace bR := bR.below hb (by omega)
  replace b2 := b2.below hb lA
  replace hB := hB.trans (hb.mono (by omega))
  clear hb own3 hprow hz4
  have hl4 : (prs xs ++ prs ys ++ [lenP n m]).length = (n + 15) / 16 + (m + 15) / 16 + 1 := by
    simp [hl1, hl2]
    omega
  have own5 : W3.ownsRow w2.heap.size 30 2 v4 ((n + 15) / 16 + (m + 15) / 16 + 1) (fl (prs xs ++ prs ys ++ [lenP n m])) := by
    rw [fl_append]
    exact own4
  clear own4
  obtain ⟨x4, c4, rfl, row, -, -, -⟩ := own_pair_row hl4 own5
  rw [hl4] at HE
  clear own5 HL1 HL2 hl1 hl2
  generalize (fun i => (prs xs ++ prs ys ++ [lenP n m]).getD i (0#64, 0#64)) = F at *
  go_wp2_with fail
  have b0_ := b0
  refine wp_region_held_drew (S := fun w' => Below (w.heap.size + 1) W3 w') (by kernel_rfl) (Below.refl _ _).drew (fun hHeld => ?_)
  refine takeM 1 28 8 rfl rfl rfl (by kernel_rfl) (by kernel_rfl) (by kernel_rfl) (fun _ _ _ h => h) (by rfl) hHeld rfl ?_
  simp only [List.set_cons_succ, List.set_cons_zero]
  refine takeL 3 30 (v := ?_) rfl rfl (by kernel_rfl) (by kernel_rfl) (by kernel_rfl) (fun _ _ _ h => h) (by rfl) hHeld (fun w hSw => ?_) ?_
  rotate_left 1
  · (try dsimp only at hSw)
    have e0_ := (b0_.below hSw (Nat.lt_succ_self _)).c0
    have e1_ := (b0_.below hSw (Nat.lt_succ_self _)).c1
    clear hSw
    go_simp
    try with_reducible rfl
  simp only [List.set_cons_succ, List.set_cons_zero]
  refine takeL 4 31 (v := ?_) rfl rfl (by kernel_rfl) (by kernel_rfl) (by kernel_rfl) (fun _ _ _ h => h) (by rfl) hHeld (fun w hSw => ?_) ?_
  rotate_left 1
  · (try dsimp only at hSw)
    clear hSw
    go_simp
    try with_reducible rfl
  simp only [List.set_cons_succ, List.set_cons_zero]
  have hS : Below (w.heap.size + 1) W3 W3.drew := (Below.refl _ _).drew
  have hSz : w.heap.size + 1 ≤ W3.drew.heap.size := by
    have := bR.lt
    simp only [World.size_drew]
    omega
  replace bR := bR.drew
  replace b2 := b2.drew
  replace hB := hB.drew
  replace row := (show PRow W3.drew _ _ _ from row)
  have k0 := b2.c0
  have k1 := b2.c1
  refine onlyL 0 rfl (by kernel_rfl) (by rfl) (fun K hK => ?_)
  go_wp2_with fail
  refine hK.out _ _ hS (fun hHeld => ?_)
  clear hK K k0 k1 b2
  refine onlyL 2 rfl (by kernel_rfl) (by rfl) (fun K hK => ?_)
  go_wp2_with fail
  refine (reval_of h _ x4 _ c4 (by omega) _ row HE.out).mono ?_
  rintro e w7 ⟨rfl, hb⟩
  replace bR := bR.grown hb
  replace hB := hB.trans (hb.mono hB.size)
  replace hS := hS.trans (hb.mono hSz)
  replace hSz := Nat.le_trans hSz hb.size
  clear hb
  refine hK.out _ _ hS (fun hHeld => ?_)
  clear hK K
  clear row
  refine onlyL 5 rfl (by kernel_rfl) (by rfl) (fun K hK => ?_)
  go_wp2_with fail
  refine (rencrypt_at sub (0#64, 0#64) _ _ nv_zero nv_zero _).mono ?_
  rintro e w8 ⟨rfl, hb⟩
  replace bR := bR.grown hb
  replace hB := hB.trans (hb.mono hB.size)
  replace hS := hS.trans (hb.mono hSz)
  replace hSz := Nat.le_trans hSz hb.size
  clear hb
  refine hK.out _ _ hS (fun hHeld => ?_)
  clear hK K
  refine onlyL 6 rfl (by kernel_rfl) (by rfl) (fun K hK => ?_)
  go_wp2_with fail
  refine (radd_of q0 (enc sub (0#64, 0#64)) HT.out _).mono ?_
  rintro e w9 ⟨rfl, hb⟩
  replace bR := bR.grown hb
  replace hB := hB.trans (hb.mono hB.size)
  replace hS := hS.trans (hb.mono hSz)
  replace hSz := Nat.le_trans hSz hb.size
  clear hb
  refine hK.out _ _ hS (fun hHeld => ?_)
  clear hK K
  have k0 := bR.c0
  have k1 := bR.c1
  have k2 := bR.frozen 0
  have k3 := bR.frozen 1
  refine onlyL 7 rfl (by kernel_rfl) (by rfl) (fun K hK => ?_)
  go_wp2_with fail
  clear k0 k1 k2 k3
  replace hS := (hS.setCell (p := ⟨w.heap.size + 1, 0, none⟩) (Nat.le_refl _) (.int .u64 (nv t.1))).setCell (p := ⟨w.heap.size + 1, 1, none⟩) (Nat.le_refl _) (.int .u64 (nv t.2))
  replace hB := (hB.setCell (p := ⟨w.heap.size + 1, 0, none⟩) (Nat.le_succ _) (.int .u64 (nv t.1))).setCell (p := ⟨w.heap.size + 1, 1, none⟩) (Nat.le_succ _) (.int .u64 (nv t.2))
  replace bR := bR.put2 (nv t.1) (nv t.2)
  refine hK.out _ _ hS (fun hHeld => ?_)
  clear hK K
  refine wpAnyH_done (by kernel_rfl) ?_ _
  have k0 := bR.c0
  have k1 := bR.c1
  go_wp2
  refine bodyPost_ret (v := .agg #[.int .u64 (nv t.1), .int .u64 (nv t.2)]) (by simp [results, Try.results42, go_sem, k0, k1]) rfl ⟨rfl, hB⟩
end Go.Proofs.Ytkkehbebaokdmaa


/- What the statements ask of gcm, and of the document's own: fn is the function. -/
namespace Go.Proofs.Ytkkehbebaokdmaa
open Go.RowKit
set_option maxRecDepth 20000

/-- A tag. -/
def TagIs (fn : Nat) : Prop := ∀ (sub : BitVec 64 × BitVec 64) (xs ys : List Int) (x y : Option Addr) (n m c d : Nat), n ≤ 5000 → m ≤ 5000 → n ≤ c → m ≤ d → Bytes xs → Bytes ys → (x = none → n = 0 ∧ c = 0) → (y = none → m = 0 ∧ d = 0) → ∀ w : World, SAt w x n xs → SAt w y m ys →
  Calls Try.prog fn #[.agg #[.int .u64 (nv sub.1), .int .u64 (nv sub.2)], .slice x n c, .slice y m d] w fun e w' => e = .returned (.agg #[.int .u64 (nv (tagP sub xs ys).1), .int .u64 (nv (tagP sub xs ys).2)]) ∧ Below w.heap.size w w'
/-- Bytes that may be sealed are. -/
def SealIn (fn : Nat) : Prop := ∀ (key : BitVec 64 × BitVec 64) (n : Nn) (xs ys : List Int) (x y : Option Addr) (nx ny c d : Nat), nx ≤ 4000 → ny ≤ 4000 → Bytes xs → Bytes ys → nx ≤ c → ny ≤ d → (x = none → nx = 0 ∧ c = 0) → (y = none → ny = 0 ∧ d = 0) → ∀ w : World, SAt w x nx xs → SAt w y ny ys → 
  Calls Try.prog fn #[.agg #[.int .u64 (nv key.1), .int .u64 (nv key.2)], .agg #[.int .u32 (nv32 n.1), .int .u32 (nv32 n.2.1), .int .u64 (nv n.2.2)], .slice x nx c, .slice y ny d] w fun e w' => ∃ z cz, e = .returned (.tuple #[.agg #[.slice z ny cz, .int .u64 (nv (tagP (subP key n) xs (mixL (subP key n) ys)).1), .int .u64 (nv (tagP (subP key n) xs (mixL (subP key n) ys)).2)], .bool true]) ∧ SAt w' z ny (mixL (subP key n) ys) ∧ ny ≤ cz ∧ cz ≤ maxLen ∧ (z = none → ny = 0 ∧ cz = 0) ∧ Below w.heap.size w w'
/-- Others are not. -/
def SealOut (fn : Nat) : Prop := ∀ (key : BitVec 64 × BitVec 64) (n : Nn) (x y : Option Addr) (nx ny c d : Nat), 4000 < nx ∨ 4000 < ny → ∀ w : World,
  Calls Try.prog fn #[.agg #[.int .u64 (nv key.1), .int .u64 (nv key.2)], .agg #[.int .u32 (nv32 n.1), .int .u32 (nv32 n.2.1), .int .u64 (nv n.2.2)], .slice x nx c, .slice y ny d] w fun e w' => e = .returned (.tuple #[.agg #[.slice none 0 0, .int .u64 0, .int .u64 0], .bool false]) ∧ Below w.heap.size w w'
/-- What has its tag is opened. -/
def OpenYes (fn : Nat) : Prop := ∀ (key : BitVec 64 × BitVec 64) (n : Nn) (xs ys : List Int) (x y : Option Addr) (nx ny c d : Nat) (t : BitVec 64 × BitVec 64), nx ≤ 4000 → ny ≤ 4000 → tagP (subP key n) xs ys = t → Bytes xs → Bytes ys → nx ≤ c → ny ≤ d → (x = none → nx = 0 ∧ c = 0) → (y = none → ny = 0 ∧ d = 0) → ∀ w : World, SAt w x nx xs → SAt w y ny ys → 
  Calls Try.prog fn #[.agg #[.int .u64 (nv key.1), .int .u64 (nv key.2)], .agg #[.int .u32 (nv32 n.1), .int .u32 (nv32 n.2.1), .int .u64 (nv n.2.2)], .slice x nx c, .agg #[.slice y ny d, .int .u64 (nv t.1), .int .u64 (nv t.2)]] w fun e w' => ∃ z cz, e = .returned (.tuple #[.slice z ny cz, .bool true]) ∧ SAt w' z ny (mixL (subP key n) ys) ∧ Below w.heap.size w w'
/-- What hasn't is not. -/
def OpenNo (fn : Nat) : Prop := ∀ (key : BitVec 64 × BitVec 64) (n : Nn) (xs ys : List Int) (x y : Option Addr) (nx ny c d : Nat) (t : BitVec 64 × BitVec 64), nx ≤ 4000 → ny ≤ 4000 → tagP (subP key n) xs ys ≠ t → Bytes xs → Bytes ys → nx ≤ c → ny ≤ d → (x = none → nx = 0 ∧ c = 0) → (y = none → ny = 0 ∧ d = 0) → ∀ w : World, SAt w x nx xs → SAt w y ny ys → 
  Calls Try.prog fn #[.agg #[.int .u64 (nv key.1), .int .u64 (nv key.2)], .agg #[.int .u32 (nv32 n.1), .int .u32 (nv32 n.2.1), .int .u64 (nv n.2.2)], .slice x nx c, .agg #[.slice y ny d, .int .u64 (nv t.1), .int .u64 (nv t.2)]] w fun e w' => (∃ z cz, e = .returned (.tuple #[.slice z 0 cz, .bool false])) ∧ Below w.heap.size w w'
/-- What is longer is not. -/
def OpenLong (fn : Nat) : Prop := ∀ (key : BitVec 64 × BitVec 64) (n : Nn) (x y : Option Addr) (nx ny c d : Nat) (t1 t2 : Int), 4000 < nx ∨ 4000 < ny → ∀ w : World,
  Calls Try.prog fn #[.agg #[.int .u64 (nv key.1), .int .u64 (nv key.2)], .agg #[.int .u32 (nv32 n.1), .int .u32 (nv32 n.2.1), .int .u64 (nv n.2.2)], .slice x nx c, .agg #[.slice y ny d, .int .u64 t1, .int .u64 t2]] w fun e w' => (∃ z cz, e = .returned (.tuple #[.slice z 0 cz, .bool false])) ∧ Below w.heap.size w w'
end Go.Proofs.Ytkkehbebaokdmaa


/- Plain facts: a step, and the sum of bytes. -/
namespace Go.Proofs.Ytkkehbebaokdmaa
open Go.RowKit
set_option maxRecDepth 20000

/-- A step. -/
def stepP (s m : BitVec 64 × BitVec 64) : BitVec 64 × BitVec 64 := ((enc m s).1 ^^^ s.1, (enc m s).2 ^^^ s.2)
def iv : BitVec 64 × BitVec 64 := (0x6a09e667f3bcc908#64, 0xbb67ae8584caa73b#64)
theorem iv_1 : nv iv.1 = 7640891576956012808 := by decide
theorem iv_2 : nv iv.2 = 13503953896175478587 := by decide
/-- How many noughts. -/
def digN (n : Nat) : Nat := (23 - n % 16) % 16
/-- Bytes, as they are summed. -/
def msgL (xs : List Int) : List Int := xs ++ [128] ++ List.replicate (digN xs.length) 0 ++ putL xs.length 8
def msgN (n : Nat) : Nat := (n + 1 + digN n + 8) / 16
theorem msg_sixteen (n : Nat) : n + 1 + digN n + 8 = 16 * msgN n := by
  unfold msgN digN
  omega
theorem msgL_length (xs : List Int) : (msgL xs).length = 16 * msgN xs.length := by
  rw [← msg_sixteen]
  simp [msgL, putL_length]
  omega
theorem msgL_bytes {xs : List Int} (h : Bytes xs) : Bytes (msgL xs) := by
  refine ((h.append ?_).append ?_).append (putL_bytes _ _)
  · intro x hx
    simp at hx
    omega
  · intro x hx
    obtain ⟨_, rfl⟩ := List.mem_replicate.1 hx
    omega
theorem dig_end (n j : Nat) (hj : j ≤ digN n) : ((n + 1 + j) % 16 = 8) ↔ j = digN n := by
  unfold digN at hj ⊢
  omega
/-- The first k sixteens' sum. -/
def sumN (s : BitVec 64 × BitVec 64) (ys : List Int) : Nat → BitVec 64 × BitVec 64
  | 0 => s
  | k + 1 => stepP (sumN s ys k) (pairOf (six ys k))
theorem sumN_succ (s : BitVec 64 × BitVec 64) (ys : List Int) (k : Nat) : sumN s ys (k + 1) = stepP (sumN s ys k) (pairOf (six ys k)) := rfl
/-- The sum of bytes. -/
def sumP (xs : List Int) : BitVec 64 × BitVec 64 := sumN iv (msgL xs) (msgN xs.length)
end Go.Proofs.Ytkkehbebaokdmaa


/- What lockboxref6.Step and Sum come to. -/
namespace Go.Proofs.Ytkkehbebaokdmaa
open Go.RowKit
set_option maxRecDepth 20000

set_option maxHeartbeats 1000000 in
theorem rstep (s m : BitVec 64 × BitVec 64) (w : World) : Calls Try.prog 45 #[.agg #[.int .u64 (nv s.1), .int .u64 (nv s.2)], .agg #[.int .u64 (nv m.1), .int .u64 (nv m.2)]] w fun e w' => e = .returned (.agg #[.int .u64 (nv (stepP s m).1), .int .u64 (nv (stepP s m).2)]) ∧ Below w.heap.size w w' := by
  go_enter Try.func45, Try.ntmps45
  go_wp2_with fail
  have b0 := ((Box.new w (nv s.1) (nv s.2)).alloc (.cells #[.int .u64 (nv m.1), .int .u64 (nv m.2)] 30)).alloc (.cells #[.int .u64 0, .int .u64 0] 30)
  have bR := Box.new ((w.alloc (.cells #[.int .u64 (nv s.1), .int .u64 (nv s.2)] 30)).alloc (.cells #[.int .u64 (nv m.1), .int .u64 (nv m.2)] 30)) 0 0
  have hB : Below w.heap.size w (((w.alloc (.cells #[.int .u64 (nv s.1), .int .u64 (nv s.2)] 30)).alloc (.cells #[.int .u64 (nv m.1), .int .u64 (nv m.2)] 30)).alloc (.cells #[.int .u64 0, .int .u64 0] 30)) := by go_grown
  simp only [World.size_alloc] at bR
  generalize ((w.alloc (.cells #[.int .u64 (nv s.1), .int .u64 (nv s.2)] 30)).alloc (.cells #[.int .u64 (nv m.1), .int .u64 (nv m.2)] 30)).alloc (.cells #[.int .u64 0, .int .u64 0] 30) = W1 at *
  refine (rencrypt m s _).mono ?_
  rintro e w1 ⟨rfl, hb⟩
  replace b0 := b0.grown hb
  replace bR := bR.grown hb
  replace hB := hB.trans (hb.mono hB.size)
  clear hb
  have hx1 := nv_xor (enc m s).1 s.1
  have hx2 := nv_xor (enc m s).2 s.2
  have hb : Below w1.heap.size w1 (w1.alloc (.cells #[.int .u64 (nv (enc m s).1), .int .u64 (nv (enc m s).2)] 30)) := (Below.refl _ _).alloc (Nat.le_refl _) _
  replace b0 := b0.grown hb
  replace bR := bR.grown hb
  replace hB := hB.trans (hb.mono hB.size)
  clear hb
  have g0 := b0.c0
  have g1 := b0.c1
  have g2 := bR.c0
  have g3 := bR.c1
  have g4 := bR.frozen 0
  have g5 := bR.frozen 1
  go_wp2
  refine bodyPost_ret (v := .agg #[.int .u64 (nv (stepP s m).1), .int .u64 (nv (stepP s m).2)]) (by simp [results, Try.results45, go_sem, g2, g3, stepP]) rfl ⟨rfl, ?_⟩
  exact (hB.setCell (by simp only; omega) _).setCell (by simp only; omega) _
set_option maxRecDepth 10000 in
set_option maxHeartbeats 2000000 in
theorem rsum (xs : List Int) (x : Option Addr) (n c : Nat) (hn : n ≤ 50000) (bx : Bytes xs) (hnil : x = none → n = 0 ∧ c = 0) (w : World) (sx : SAt w x n xs) : Calls Try.prog 29 #[.slice x n c] w fun e w' => e = .returned (.agg #[.int .u64 (nv (sumP xs).1), .int .u64 (nv (sumP xs).2)]) ∧ Below w.heap.size w w' := by
  have hxl := sx.1
  obtain ⟨t, HG⟩ : ∃ t, Hid (sumP xs = t) := ⟨_, rfl⟩
  rw [HG.out]
  have bR := (Box.new w 0 0).alloc (.cells #[] 5)
  have hB : Below w.heap.size w ((w.alloc (.cells #[.int .u64 0, .int .u64 0] 30)).alloc (.cells #[] 5)) := by go_grown
  have hlit : ((w.alloc (.cells #[.int .u64 0, .int .u64 0] 30)).alloc (.cells #[] 5)).ownsRow (w.heap.size + 1) 5 1 (.slice (some ⟨w.heap.size + 1, 0, none⟩) 0 0) 0 (([] : List Int).map (Value.int .u8)) := by
    have := World.ownsRow_lit (base := w.heap.size + 1) (e := 5) (size := 1) (w.alloc (.cells #[.int .u64 0, .int .u64 0] 30)) #[] 0 (by rw [World.size_alloc]; exact Nat.le_refl _) (by decide) rfl
    simp only [World.size_alloc] at this
    exact this
  replace sx := sx.below hB
  have hz : w.heap.size + 1 ≤ ((w.alloc (.cells #[.int .u64 0, .int .u64 0] 30)).alloc (.cells #[] 5)).heap.size := by simp only [World.size_alloc]; omega
  have HD := hide' (dig_end n)
  go_enter Try.func29, Try.ntmps29
  go_wp2_with (at_builtin; refine wpList_app rfl _ _ rfl (w.heap.size + 1) _ 0 [] rfl hlit x n c xs rfl sx hnil (by omega) hz ?_)
  intro v1 w1 own1 hb hv1
  replace bR := bR.below hb (Nat.lt_succ_self _)
  replace hB := hB.trans (hb.mono (Nat.le_succ _))
  replace hz := Nat.le_trans hz hb.size
  clear hb hlit sx
  go_wp2_with (at_builtin; refine wpList_app rfl _ _ rfl (w.heap.size + 1) _ n xs rfl (own1.alloc _) (some ⟨w1.heap.size, 0, none⟩) 1 1 [128] rfl ((At.one w1 128).sat (by rw [World.size_alloc]; omega) rfl) (fun e => by cases e) (by omega) (by rw [World.size_alloc]; omega) ?_)
  intro v2 w2 own2 hb hv2
  replace hb := ((Below.refl (w.heap.size + 1) w1).alloc hz _).trans hb
  replace bR := bR.below hb (Nat.lt_succ_self _)
  replace hB := hB.trans (hb.mono (Nat.le_succ _))
  replace hz := Nat.le_trans hz hb.size
  clear hb own1
  go_wp2_with fail
  go_loopw [3] (fun v wr => ∃ j : Nat, j ≤ digN n ∧ v ≠ .slice none 0 0 ∧ wr.ownsRow (w.heap.size + 1) 5 1 v (n + 1 + j) ((xs ++ [128] ++ List.replicate j 0).map (Value.int .u8)) ∧ Box wr w.heap.size 0 0 ∧ w.heap.size + 1 ≤ wr.heap.size ∧ Below w.heap.size w wr) (fun v _ => 60000 - slLen v)
  case atStart => exact ⟨0, Nat.zero_le _, hv2, by simpa using own2, bR, hz, hB⟩
  case round =>
    clear own2 hB hv2 bR hz
    obtain ⟨j, hj, hv, hown, bR, hz, hB⟩ := hrel
    have hpn : digN n < 16 := Nat.mod_lt _ (by decide)
    have hlen : (xs ++ [128] ++ List.replicate j (0 : Int)).length = n + 1 + j := by simp [hxl]; omega
    obtain ⟨g, cap, rfl, hg, hgl, hgc, hcm, hat⟩ := own_bytes hlen hown hv
    by_cases hlt : j = digN n
    · have h0 : (((n + 1 + j) % 16 : Nat) = 8) := (HD.out j hj).2 hlt
      have h1 : ((n : Int) + 1 + (j : Int)) % 16 = 8 := by omega
      have HJ := hide' hlt
      clear hlt
      go_wp2_with fail
      clear h0 h1
      refine (rput_own n 8 _ (by decide) (by decide)).mono ?_
      rintro e w4 ⟨v4, rfl, own4, hb⟩
      replace hown := own_grown hown hb
      replace bR := bR.grown hb
      replace hB := hB.trans (hb.mono hB.size)
      replace hz := Nat.le_trans hz hb.size
      clear hb hat
      obtain ⟨x4, c4, rfl, s4⟩ := own_sat (putL_length _ _) own4
      have n4 : x4 = none → 8 = 0 ∧ c4 = 0 := fun e => by
        obtain ⟨_, _, h, _⟩ := s4.2 (by decide)
        rw [e] at h
        cases h
      go_wp2_with (at_builtin; refine wpList_app rfl _ _ rfl (w.heap.size + 1) _ (n + 1 + j) _ rfl hown x4 8 c4 _ rfl s4 n4 (by omega) hz ?_)
      intro v5 w5 own5 hb hv5
      replace bR := bR.below hb (Nat.lt_succ_self _)
      replace hB := hB.trans (hb.mono (Nat.le_succ _))
      replace hz := Nat.le_trans hz hb.size
      clear hb hown own4 s4 n4 hgl hgc hcm hlen hv
      have own6 : w5.ownsRow (w.heap.size + 1) 5 1 v5 (16 * msgN n) ((msgL xs).map (Value.int .u8)) := by
        have e1 : n + 1 + j + 8 = 16 * msgN n := by rw [HJ.out]; exact msg_sixteen n
        rw [← e1, msgL, hxl, ← HJ.out]
        simpa using own5
      clear own5
      have hlm := msgL_length xs
      rw [hxl] at hlm
      obtain ⟨g6, cap6, rfl, hg6, hgl6, hgc6, hcm6, hat6⟩ := own_bytes hlm own6 hv5
      obtain ⟨ys, HY⟩ : ∃ ys, Hid (msgL xs = ys) := ⟨_, rfl⟩
      have hyb : Bytes ys := by rw [← HY.out]; exact msgL_bytes bx
      obtain ⟨L, HL⟩ : ∃ L, Hid (L = 16 * msgN n) := ⟨_, rfl⟩
      have hL5 : L ≤ 51000 := by
        have := HL.out
        have := msg_sixteen n
        omega
      rw [HY.out] at hat6 hlm
      rw [← HL.out] at hlm hgc6 ⊢
      have HT : Hid (sumN iv ys (msgN n) = t) := by rw [← HG.out, sumP, HY.out, hxl]; exact hide' rfl
      clear own6 hv5 HG HD
      have b4 := Box.new w5 7640891576956012808 13503953896175478587
      have hb : Below w5.heap.size w5 (w5.alloc (.cells #[.int .u64 7640891576956012808, .int .u64 13503953896175478587] 30)) := (Below.refl _ _).alloc (Nat.le_refl _) _
      have hA6 : g6 ≠ w5.heap.size := Nat.ne_of_lt hgl6
      have hAR : w.heap.size ≠ w5.heap.size := Nat.ne_of_lt bR.lt
      replace bR := bR.grown hb
      replace hat6 := hat6.below hb hgl6
      replace hgl6 := Nat.lt_of_lt_of_le hgl6 hb.size
      replace hB := hB.trans (hb.mono hB.size)
      have hAz : w.heap.size ≤ w5.heap.size := by omega
      clear hb
      go_wp2_with fail
      generalize w5.alloc (.cells #[.int .u64 7640891576956012808, .int .u64 13503953896175478587] 30) = W6 at *
      generalize w5.heap.size = A at *
      go_loopw [5] (fun i wr => ∃ k q : Nat, Hid (q = 16 * k) ∧ q ≤ L ∧ i = .int .i64 (q : Int) ∧ Box wr A (nv (sumN iv ys k).1) (nv (sumN iv ys k).2) ∧ Box wr w.heap.size 0 0 ∧ At wr g6 0 ys ∧ g6 < wr.heap.size ∧ Below w.heap.size w wr) (fun i _ => L - (intOf i).toNat)
      case atStart => exact ⟨0, 0, rfl, Nat.zero_le _, rfl, b4, bR, hat6, hgl6, hB⟩
      case round =>
        clear b4 bR hat6 hgl6 hB
        obtain ⟨k, q, HQ, hq, rfl, b4, bR, hat6, hgl6, hB⟩ := hrel
        by_cases hlt : q < L
        · have hq16 : q + 16 ≤ L := by
            have := HQ.out
            have := HL.out
            omega
          have hsl : ∀ w, (Instr.slice 27 (.slice (some ⟨g6, 0, none⟩) L cap6) (some (.int .i64 (q : Int))) (some (.int .i64 ((q : Int) + 16))) none).run Try.prog w = .ok (.slice (some ⟨g6, q, none⟩) 16 (cap6 - q)) w := by
            intro w
            have := sl_mid (some ⟨g6, 0, none⟩) L cap6 q (q + 16) (by omega) (by omega) w
            rw [nextA, if_neg (by omega), Option.map_some, add_plain', Nat.zero_add, show q + 16 - q = 16 from by omega] at this
            exact this
          have hat7 : At wr g6 q (six ys k) := by
            rw [HQ.out]
            exact six_at hat6 k (by have := HQ.out; omega)
          have hl16 := six_length ys k (by have := HQ.out; omega)
          have HS := hide' (sumN_succ iv ys k)
          go_wp2_with fail
          refine (rpair g6 q (cap6 - q) _ _ hl16 (by omega) (by omega) (six_bytes hyb k) hgl6 hat7).mono ?_
          rintro e w7 ⟨rfl, hb⟩
          replace b4 := b4.grown hb
          replace bR := bR.grown hb
          replace hat6 := hat6.below hb hgl6
          replace hgl6 := Nat.lt_of_lt_of_le hgl6 hb.size
          replace hB := hB.trans (hb.mono hB.size)
          clear hb hsl hat7 hl16
          generalize pairOf (six ys k) = pm at *
          generalize sumN iv ys k = sk at *
          have hb : Below w7.heap.size w7 (w7.alloc (.cells #[.int .u64 (nv pm.1), .int .u64 (nv pm.2)] 30)) := (Below.refl _ _).alloc (Nat.le_refl _) _
          replace b4 := b4.grown hb
          replace bR := bR.grown hb
          replace hat6 := hat6.below hb hgl6
          replace hgl6 := Nat.lt_of_lt_of_le hgl6 hb.size
          replace hB := hB.trans (hb.mono hB.size)
          clear hb
          have k0 := b4.c0
          have k1 := b4.c1
          go_wp2_with fail
          refine (rstep sk pm _).mono ?_
          rintro e w8 ⟨rfl, hb⟩
          replace b4 := b4.grown hb
          replace bR := bR.grown hb
          replace hat6 := hat6.below hb hgl6
          replace hgl6 := Nat.lt_of_lt_of_le hgl6 hb.size
          replace hB := hB.trans (hb.mono hB.size)
          clear hb k0 k1
          have k0 := b4.c0
          have k1 := b4.c1
          have k2 := b4.frozen 0
          have k3 := b4.frozen 1
          go_wp2
          go_roundw
          case rel =>
            refine ⟨k + 1, q + 16, ?_, hq16, by go_num, ?_, bR.set2 hAR _ _, (hat6.setOther hA6 _).setOther hA6 _, by simpa using hgl6, (hB.setCell hAz _).setCell hAz _⟩
            · have := HQ.out
              exact hide' (by omega)
            · rw [HS.out]
              exact b4.put2 _ _
          case measure => simp [intOf]; omega
        · obtain rfl : q = L := by omega
          have hk : k = msgN n := by
            have := HQ.out
            have := HL.out
            omega
          rw [hk, HT.out] at b4
          have k0 := b4.c0
          have k1 := b4.c1
          have k2 := bR.frozen 0
          have k3 := bR.frozen 1
          have k4 := bR.c0
          have k5 := bR.c1
          go_wp2
          refine bodyPost_ret (v := .agg #[.int .u64 (nv t.1), .int .u64 (nv t.2)]) (by simp [results, Try.results29, go_sem, k4, k5]) rfl ⟨rfl, ?_⟩
          exact (hB.setCell (Nat.le_refl _) _).setCell (Nat.le_refl _) _
    · have h0 : ¬ (((n + 1 + j) % 16 : Nat) = 8) := fun e => hlt ((HD.out j hj).1 e)
      have h1 : ¬ ((n : Int) + 1 + (j : Int)) % 16 = 8 := by omega
      go_wp2_with (at_builtin; refine wpList_app rfl _ _ rfl (w.heap.size + 1) _ (n + 1 + j) _ rfl (hown.alloc _) (some ⟨wr.heap.size, 0, none⟩) 1 1 [0] rfl ((At.one wr 0).sat (by rw [World.size_alloc]; omega) rfl) (fun e => by cases e) (by omega) (by rw [World.size_alloc]; omega) ?_)
      intro v3 w3 own3 hb hv3
      replace hb := ((Below.refl (w.heap.size + 1) wr).alloc hz _).trans hb
      replace bR := bR.below hb (Nat.lt_succ_self _)
      replace hB := hB.trans (hb.mono (Nat.le_succ _))
      replace hz := Nat.le_trans hz hb.size
      clear hb hown
      go_wp2
      go_roundw
      case rel =>
        refine ⟨j + 1, by omega, hv3, ?_, bR, hz, hB⟩
        rw [← Nat.add_assoc]
        simpa [List.replicate_succ'] using own3
      case measure =>
        obtain ⟨_, ⟨e, _⟩ | ⟨g2, cap2, _, e, _⟩⟩ := own3
        · exact absurd e hv3
        · subst e
          simp [slLen]
          omega
end Go.Proofs.Ytkkehbebaokdmaa


/- Rows of bytes in memory. -/
namespace Go.Proofs.Ytkkehbebaokdmaa
open Go.RowKit
set_option maxRecDepth 20000

/-- The slice in this cell has these bytes. -/
def RowIn (w : World) (b o : Nat) (ys : List Int) : Prop := ∃ y c, w.cell? ⟨b, o, none⟩ = some (.slice y ys.length c) ∧ SAt w y ys.length ys ∧ ys.length ≤ c ∧ c ≤ maxLen ∧ (y = none → ys.length = 0 ∧ c = 0) ∧ Bytes ys
theorem RowIn.below {w w' : World} {b o : Nat} {ys : List Int} (h : RowIn w b o ys) (hb : Below w.heap.size w w') : RowIn w' b o ys := by
  obtain ⟨y, c, h1, h2, h3⟩ := h
  exact ⟨y, c, (hb.cell (p := ⟨b, o, none⟩) (World.block_lt_of_cell? w _ h1)).trans h1, h2.below hb, h3⟩
/-- A slice of m rows. -/
def LAt (w : World) (x : Option Addr) (m : Nat) (P : List (List Int)) : Prop := P.length = m ∧ (0 < m → ∃ b o, x = some ⟨b, o, none⟩ ∧ b < w.heap.size ∧ ∀ i, i < m → RowIn w b (o + i) (P.getD i []))
theorem LAt.below {w w' : World} {x : Option Addr} {m : Nat} {P : List (List Int)} (h : LAt w x m P) (hb : Below w.heap.size w w') : LAt w' x m P :=
  ⟨h.1, fun hm => by
    obtain ⟨b, o, e, hlt, hr⟩ := h.2 hm
    exact ⟨b, o, e, Nat.lt_of_lt_of_le hlt hb.size, fun i hi => (hr i hi).below hb⟩⟩
theorem LAt.drew {w : World} {x : Option Addr} {m : Nat} {P : List (List Int)} (h : LAt w x m P) : LAt w.drew x m P := h.below (Below.refl _ _).drew
theorem lat_none (w : World) (x : Option Addr) : LAt w x 0 [] := ⟨rfl, fun h => absurd h (by omega)⟩
/-- A slice of bytes in a cell. -/
theorem RowIn.of {w : World} {b o n c : Nat} {y : Option Addr} {ys : List Int} (h : w.cell? ⟨b, o, none⟩ = some (.slice y n c)) (hs : SAt w y n ys) (hc : n ≤ c) (hm : c ≤ maxLen) (hnil : y = none → n = 0 ∧ c = 0) (hb : Bytes ys) : RowIn w b o ys := by
  obtain rfl : ys.length = n := hs.1
  exact ⟨y, c, h, hs, hc, hm, hnil, hb⟩
theorem lat_one (w : World) {y : Option Addr} {n c : Nat} {ys : List Int} (hs : SAt w y n ys) (hc : n ≤ c) (hm : c ≤ maxLen) (hnil : y = none → n = 0 ∧ c = 0) (hb : Bytes ys) :
    LAt (w.alloc (.cells #[.slice y n c] 27)) (some ⟨w.heap.size, 0, none⟩) 1 [ys] := by
  refine ⟨rfl, fun _ => ⟨w.heap.size, 0, rfl, by rw [World.size_alloc]; omega, fun i hi => ?_⟩⟩
  obtain rfl : i = 0 := by omega
  exact RowIn.of (y := y) (n := n) (c := c) (by simp) (hs.below ((Below.refl _ _).alloc (Nat.le_refl _) _)) hc hm hnil hb
theorem lat_two (w : World) {y z : Option Addr} {n c k d : Nat} {ys zs : List Int} (hs : SAt w y n ys) (hc : n ≤ c) (hm : c ≤ maxLen) (hnil : y = none → n = 0 ∧ c = 0) (hb : Bytes ys)
    (hs2 : SAt w z k zs) (hc2 : k ≤ d) (hm2 : d ≤ maxLen) (hnil2 : z = none → k = 0 ∧ d = 0) (hb2 : Bytes zs) :
    LAt (w.alloc (.cells #[.slice y n c, .slice z k d] 27)) (some ⟨w.heap.size, 0, none⟩) 2 [ys, zs] := by
  refine ⟨rfl, fun _ => ⟨w.heap.size, 0, rfl, by rw [World.size_alloc]; omega, fun i hi => ?_⟩⟩
  match i, hi with
  | 0, _ => exact RowIn.of (y := y) (n := n) (c := c) (by simp) (hs.below ((Below.refl _ _).alloc (Nat.le_refl _) _)) hc hm hnil hb
  | 1, _ => exact RowIn.of (y := z) (n := k) (c := d) (by simp) (hs2.below ((Below.refl _ _).alloc (Nat.le_refl _) _)) hc2 hm2 hnil2 hb2
theorem At.lit (w : World) (zs : List Int) (fr : Nat × Nat) : At (w.alloc (.cells (zs.map (Value.int .u8)).toArray 5 fr)) w.heap.size 0 zs := by
  intro i hi
  rw [Nat.zero_add, World.cell?_alloc_mark]
  simp [hi]
theorem sat_lit (w : World) (zs : List Int) (fr : Nat × Nat) (n : Nat) (hn : zs.length = n) : SAt (w.alloc (.cells (zs.map (Value.int .u8)).toArray 5 fr)) (some ⟨w.heap.size, 0, none⟩) n zs :=
  (At.lit w zs fr).sat (by simp) hn
theorem flat_take (P : List (List Int)) (k : Nat) (h : k < P.length) : (P.take (k + 1)).flatten = (P.take k).flatten ++ P.getD k [] := by
  rw [List.take_succ_eq_append_getElem h, List.flatten_append]
  simp [h]
theorem LAt.bytes {w : World} {x : Option Addr} {m : Nat} {P : List (List Int)} (h : LAt w x m P) : Bytes P.flatten := by
  intro z hz
  obtain ⟨ys, hy, hzy⟩ := List.mem_flatten.1 hz
  obtain ⟨i, hi, rfl⟩ := List.getElem_of_mem hy
  obtain ⟨b, o, _, _, hr⟩ := h.2 (by rw [← h.1]; omega)
  obtain ⟨_, _, _, _, _, _, _, hb⟩ := hr i (by rw [← h.1]; exact hi)
  simp only [List.getD, List.getElem?_eq_getElem hi, Option.getD_some] at hb
  exact hb z hzy
end Go.Proofs.Ytkkehbebaokdmaa


/- What the statements ask of digest; rows of bytes in memory. -/
namespace Go.Proofs.Ytkkehbebaokdmaa
open Go.RowKit
set_option maxRecDepth 20000

def StepSaid : Prop := ∀ (s m : BitVec 64 × BitVec 64) (w : World), Calls Try.prog 58 #[.agg #[.int .u64 (nv s.1), .int .u64 (nv s.2)], .agg #[.int .u64 (nv m.1), .int .u64 (nv m.2)]] w fun e w' => e = .returned (.agg #[.int .u64 (nv (stepP s m).1), .int .u64 (nv (stepP s m).2)]) ∧ Below w.heap.size w w'
def SumSaid : Prop := ∀ (P : List (List Int)) (x : Option Addr) (m c : Nat), m ≤ 1000 → P.flatten.length ≤ 50000 → m ≤ c → (x = none → m = 0 ∧ c = 0) → ∀ w : World, LAt w x m P →
  Calls Try.prog 38 #[.slice x m c] w fun e w' => e = .returned (.agg #[.int .u64 (nv (sumP P.flatten).1), .int .u64 (nv (sumP P.flatten).2)]) ∧ Below w.heap.size w w'
theorem sum_of (hS : SumSaid) (P : List (List Int)) (x : Option Addr) (m c : Nat) (hm : m ≤ 1000) {zs : List Int} (hz : P.flatten = zs) (hl : zs.length ≤ 50000) (hc : m ≤ c) (hnil : x = none → m = 0 ∧ c = 0) (w : World) (h : LAt w x m P) {t : BitVec 64 × BitVec 64} (ht : sumP zs = t) :
    Calls Try.prog 38 #[.slice x m c] w fun e w' => e = .returned (.agg #[.int .u64 (nv t.1), .int .u64 (nv t.2)]) ∧ Below w.heap.size w w' := by
  subst hz ht
  exact hS P x m c hm hl hc hnil w h
theorem rsum_of (xs : List Int) (x : Option Addr) (n c : Nat) (hn : n ≤ 50000) (bx : Bytes xs) (hnil : x = none → n = 0 ∧ c = 0) (w : World) (sx : SAt w x n xs) {t : BitVec 64 × BitVec 64} (ht : sumP xs = t) : Calls Try.prog 29 #[.slice x n c] w fun e w' => e = .returned (.agg #[.int .u64 (nv t.1), .int .u64 (nv t.2)]) ∧ Below w.heap.size w w' := ht ▸ rsum xs x n c hn bx hnil w sx
end Go.Proofs.Ytkkehbebaokdmaa
