/- What the statements on speck come to, where speck's functions are what the document has. -/
import Derived.Test.YtacopakdnibfgaaRefEnc
import Derived.Test.YtacopakdnibfgaaEqP
namespace Go.Proofs.Ytacopakdnibfgaa
open Go.RowKit

/-- speck.Encrypt is the document's. -/
def EncSaid : Prop := ∀ (k p : BitVec 64 × BitVec 64) (w : World), Calls Try.prog 7 #[.agg #[.int .u64 (nv k.1), .int .u64 (nv k.2)], .agg #[.int .u64 (nv p.1), .int .u64 (nv p.2)]] w fun e w' => e = .returned (.agg #[.int .u64 (nv (enc k p).1), .int .u64 (nv (enc k p).2)]) ∧ Below w.heap.size w w'
/-- speck.Decrypt is the document's. -/
def DecSaid : Prop := ∀ (k p : BitVec 64 × BitVec 64) (w : World), Calls Try.prog 9 #[.agg #[.int .u64 (nv k.1), .int .u64 (nv k.2)], .agg #[.int .u64 (nv p.1), .int .u64 (nv p.2)]] w fun e w' => e = .returned (.agg #[.int .u64 (nv (dec k p).1), .int .u64 (nv (dec k p).2)]) ∧ Below w.heap.size w w'
/-- speck.Keys is the document's. -/
def KeysSaid : Prop := ∀ (p : BitVec 64 × BitVec 64) (w : World), Calls Try.prog 11 #[.agg #[.int .u64 (nv p.1), .int .u64 (nv p.2)]] w fun e w' => ∃ g cap, e = .returned (.slice (some ⟨g, 0, none⟩) 32 cap) ∧ w.heap.size ≤ g ∧ KeysAt w' g p ∧ Below w.heap.size w w'

theorem pair_eq (p q : BitVec 64 × BitVec 64) : (nv p.1 == nv q.1 && nv p.2 == nv q.2) = decide (p = q) := by
  rw [nv_eq, nv_eq, Bool.eq_iff_iff]
  simp [Prod.ext_iff]
theorem nv_self (p : BitVec 64 × BitVec 64) : (nv p.1 == nv p.1 && nv p.2 == nv p.2) = true := by simp

theorem enc_at (hE : EncSaid) (k p : BitVec 64 × BitVec 64) (k1 k2 p1 p2 x y : Int) (hk1 : nv k.1 = k1) (hk2 : nv k.2 = k2) (hp1 : nv p.1 = p1) (hp2 : nv p.2 = p2) (hx : nv (enc k p).1 = x) (hy : nv (enc k p).2 = y) (w : World) :
    Calls Try.prog 7 #[.agg #[.int .u64 k1, .int .u64 k2], .agg #[.int .u64 p1, .int .u64 p2]] w fun e w' => e = .returned (.agg #[.int .u64 x, .int .u64 y]) ∧ Below w.heap.size w w' := by
  subst hk1 hk2 hp1 hp2 hx hy
  exact hE k p w

set_option maxHeartbeats 400000 in
theorem known_true (hE : EncSaid) (w : World) : Calls Try.prog 10 #[] w fun e w' => e = .returned (.bool true) ∧ Below w.heap.size w w' := by
  have heq := eq32
  go_enter Try.func10, Try.ntmps10
  go_wp2_with fail
  refine (enc_at hE (0x0f0e0d0c0b0a0908#64, 0x0706050403020100#64) (0x6c61766975716520#64, 0x7469206564616d20#64) 1084818905618843912 506097522914230528 7809653424151160096 8388271400802151712 11987905258827821669 8674213117595946264 (by decide) (by decide) (by decide) (by decide) (by rw [enc_known]; decide) (by rw [enc_known]; decide) _).mono ?_
  rintro e w1 ⟨rfl, hb1⟩
  go_wp2
  go_ret
  exact ⟨rfl, ((Below.refl _ _).alloc (Nat.le_refl _) _).trans (hb1.mono (by simp))⟩

/-- Three Pairs in blocks of their own. -/
def Three (w : World) (a b c : Nat) (k p x : BitVec 64 × BitVec 64) : Prop := Box w a (nv k.1) (nv k.2) ∧ Box w b (nv p.1) (nv p.2) ∧ Box w c (nv x.1) (nv x.2)
theorem Three.grown {w w' : World} {a b c : Nat} {k p x : BitVec 64 × BitVec 64} (h : Three w a b c k p x) (hb : Below w.heap.size w w') : Three w' a b c k p x := ⟨h.1.grown hb, h.2.1.grown hb, h.2.2.grown hb⟩
theorem Three.six {w : World} {a b c : Nat} {k p x : BitVec 64 × BitVec 64} (h : Three w a b c k p x) : w.cell? ⟨a, 0, none⟩ = some (.int .u64 (nv k.1)) ∧ w.cell? ⟨a, 1, none⟩ = some (.int .u64 (nv k.2)) ∧ w.cell? ⟨b, 0, none⟩ = some (.int .u64 (nv p.1)) ∧ w.cell? ⟨b, 1, none⟩ = some (.int .u64 (nv p.2)) ∧ w.cell? ⟨c, 0, none⟩ = some (.int .u64 (nv x.1)) ∧ w.cell? ⟨c, 1, none⟩ = some (.int .u64 (nv x.2)) :=
  ⟨h.1.c0, h.1.c1, h.2.1.c0, h.2.1.c1, h.2.2.c0, h.2.2.c1⟩

theorem dec_back (hD : DecSaid) (k p : BitVec 64 × BitVec 64) (w : World) : Calls Try.prog 9 #[.agg #[.int .u64 (nv k.1), .int .u64 (nv k.2)], .agg #[.int .u64 (nv (enc k p).1), .int .u64 (nv (enc k p).2)]] w fun e w' => e = .returned (.agg #[.int .u64 (nv p.1), .int .u64 (nv p.2)]) ∧ Below w.heap.size w w' := by
  have := hD k (enc k p) w
  rw [decEnc] at this
  exact this
theorem enc_back (hE : EncSaid) (k p : BitVec 64 × BitVec 64) (w : World) : Calls Try.prog 7 #[.agg #[.int .u64 (nv k.1), .int .u64 (nv k.2)], .agg #[.int .u64 (nv (dec k p).1), .int .u64 (nv (dec k p).2)]] w fun e w' => e = .returned (.agg #[.int .u64 (nv p.1), .int .u64 (nv p.2)]) ∧ Below w.heap.size w w' := by
  have := hE k (dec k p) w
  rw [encDec] at this
  exact this

set_option maxHeartbeats 2000000 in
theorem blocks_any (hE : EncSaid) (hD : DecSaid) (k p : BitVec 64 × BitVec 64) (w : World) : Calls Try.prog 3 #[.agg #[.int .u64 (nv k.1), .int .u64 (nv k.2)], .agg #[.int .u64 (nv p.1), .int .u64 (nv p.2)]] w fun e w' => e = .returned (.bool true) ∧ Below w.heap.size w w' := by
  have heq := eq32
  go_enter Try.func3, Try.ntmps3
  go_wp2_with fail
  refine (hE k p _).mono ?_
  rintro e w1 ⟨rfl, hb1⟩
  have T0 : Three (w1.alloc (.cells #[.int .u64 (nv (enc k p).1), .int .u64 (nv (enc k p).2)] 24)) w.heap.size (w.heap.size + 1) w1.heap.size k p (enc k p) := by
    have b1 := (Box.new w (nv k.1) (nv k.2)).alloc (.cells #[.int .u64 (nv p.1), .int .u64 (nv p.2)] 24)
    have b2 := Box.new (w.alloc (.cells #[.int .u64 (nv k.1), .int .u64 (nv k.2)] 24)) (nv p.1) (nv p.2)
    rw [World.size_alloc] at b2
    exact ⟨(b1.grown hb1).alloc _, (b2.grown hb1).alloc _, Box.new w1 _ _⟩
  have hB1 : Below w.heap.size w (w1.alloc (.cells #[.int .u64 (nv (enc k p).1), .int .u64 (nv (enc k p).2)] 24)) := by
    have h0 : Below w.heap.size w ((w.alloc (.cells #[.int .u64 (nv k.1), .int .u64 (nv k.2)] 24)).alloc (.cells #[.int .u64 (nv p.1), .int .u64 (nv p.2)] 24)) := by go_grown
    exact (h0.trans (hb1.mono h0.size)).alloc (Nat.le_trans h0.size hb1.size) _
  clear hb1
  go_wp2_with fail
  have T1 := T0
  clear T0
  generalize w1.alloc (.cells #[.int .u64 (nv (enc k p).1), .int .u64 (nv (enc k p).2)] 24) = W at *
  refine wp_region_held_drew (S := fun w' => w'.cell? ⟨w.heap.size, 0, none⟩ = some (.int .u64 (nv k.1)) ∧ w'.cell? ⟨w.heap.size, 1, none⟩ = some (.int .u64 (nv k.2)) ∧ w'.cell? ⟨w.heap.size + 1, 0, none⟩ = some (.int .u64 (nv p.1)) ∧ w'.cell? ⟨w.heap.size + 1, 1, none⟩ = some (.int .u64 (nv p.2)) ∧ w'.cell? ⟨w1.heap.size, 0, none⟩ = some (.int .u64 (nv (enc k p).1)) ∧ w'.cell? ⟨w1.heap.size, 1, none⟩ = some (.int .u64 (nv (enc k p).2))) (by kernel_rfl) T1.six (fun hHeld => ?_)
  refine takeL 0 9 (v := ?_) rfl rfl (by kernel_rfl) (by kernel_rfl) (by kernel_rfl) (fun _ _ _ h => h) (by rfl) hHeld (fun w hSw => ?_) ?_
  rotate_left 1
  · (try dsimp only at hSw); go_simp; try with_reducible rfl
  simp only [List.set_cons_succ, List.set_cons_zero]
  refine takeL 1 10 (v := ?_) rfl rfl (by kernel_rfl) (by kernel_rfl) (by kernel_rfl) (fun _ _ _ h => h) (by rfl) hHeld (fun w hSw => ?_) ?_
  rotate_left 1
  · (try dsimp only at hSw); go_simp; try with_reducible rfl
  simp only [List.set_cons_succ, List.set_cons_zero]
  refine takeL 2 11 (v := ?_) rfl rfl (by kernel_rfl) (by kernel_rfl) (by kernel_rfl) (fun _ _ _ h => h) (by rfl) hHeld (fun w hSw => ?_) ?_
  rotate_left 1
  · (try dsimp only at hSw); go_simp; try with_reducible rfl
  simp only [List.set_cons_succ, List.set_cons_zero]
  refine onlyL 3 rfl (by kernel_rfl) (by rfl) (fun K hK => ?_)
  go_wp2_with fail
  refine (rencrypt k p _).mono ?_
  rintro e w2 ⟨rfl, hb2⟩
  have hb2 := (Below.refl _ _).drew.trans hb2
  have T2 := T1.grown hb2
  have hB2 := hB1.trans (hb2.mono hB1.size)
  refine hK.out _ _ T2.six (fun hHeld => ?_)
  clear hK K hb2 T1
  refine takeL 4 13 (v := ?_) rfl rfl (by kernel_rfl) (by kernel_rfl) (by kernel_rfl) (fun _ _ _ h => h) (by rfl) hHeld (fun w hSw => ?_) ?_
  rotate_left 1
  · (try dsimp only at hSw); go_simp; try with_reducible rfl
  simp only [List.set_cons_succ, List.set_cons_zero]
  refine takeM 5 14 13 rfl rfl rfl (by kernel_rfl) (by kernel_rfl) (by kernel_rfl) (fun _ _ _ h => h) (by rfl) hHeld rfl ?_
  simp only [List.set_cons_succ, List.set_cons_zero]
  refine takeL 6 15 (v := ?_) rfl rfl (by kernel_rfl) (by kernel_rfl) (by kernel_rfl) (fun _ _ _ h => h) (by rfl) hHeld (fun w hSw => ?_) ?_
  rotate_left 1
  · (try dsimp only at hSw); go_simp; try with_reducible rfl
  simp only [List.set_cons_succ, List.set_cons_zero]
  refine takeL 7 16 (v := ?_) rfl rfl (by kernel_rfl) (by kernel_rfl) (by kernel_rfl) (fun _ _ _ h => h) (by rfl) hHeld (fun w hSw => ?_) ?_
  rotate_left 1
  · (try dsimp only at hSw); go_simp; try with_reducible rfl
  simp only [List.set_cons_succ, List.set_cons_zero]
  refine takeL 9 18 (v := ?_) rfl rfl (by kernel_rfl) (by kernel_rfl) (by kernel_rfl) (fun _ _ _ h => h) (by rfl) hHeld (fun w hSw => ?_) ?_
  rotate_left 1
  · (try dsimp only at hSw); go_simp; try with_reducible rfl
  simp only [List.set_cons_succ, List.set_cons_zero]
  refine onlyL 8 rfl (by kernel_rfl) (by rfl) (fun K hK => ?_)
  go_wp2_with fail
  refine (dec_back hD k p _).mono ?_
  rintro e w3 ⟨rfl, hb3⟩
  have T3 := T2.grown hb3
  have hB3 := hB2.trans (hb3.mono hB2.size)
  refine hK.out _ _ T3.six (fun hHeld => ?_)
  clear hK K hb3 T2
  refine takeL 10 19 (v := ?_) rfl rfl (by kernel_rfl) (by kernel_rfl) (by kernel_rfl) (fun _ _ _ h => h) (by rfl) hHeld (fun w hSw => ?_) ?_
  rotate_left 1
  · (try dsimp only at hSw); go_simp; try with_reducible rfl
  simp only [List.set_cons_succ, List.set_cons_zero]
  refine takeL 11 20 (v := ?_) rfl rfl (by kernel_rfl) (by kernel_rfl) (by kernel_rfl) (fun _ _ _ h => h) (by rfl) hHeld (fun w hSw => ?_) ?_
  rotate_left 1
  · (try dsimp only at hSw); go_simp; try with_reducible rfl
  simp only [List.set_cons_succ, List.set_cons_zero]
  refine takeM 12 21 20 rfl rfl rfl (by kernel_rfl) (by kernel_rfl) (by kernel_rfl) (fun _ _ _ h => h) (by rfl) hHeld rfl ?_
  simp only [List.set_cons_succ, List.set_cons_zero]
  refine takeL 13 22 (v := ?_) rfl rfl (by kernel_rfl) (by kernel_rfl) (by kernel_rfl) (fun _ _ _ h => h) (by rfl) hHeld (fun w hSw => ?_) ?_
  rotate_left 1
  · (try dsimp only at hSw); go_simp; try with_reducible rfl
  simp only [List.set_cons_succ, List.set_cons_zero]
  refine takeL 14 23 (v := ?_) rfl rfl (by kernel_rfl) (by kernel_rfl) (by kernel_rfl) (fun _ _ _ h => h) (by rfl) hHeld (fun w hSw => ?_) ?_
  rotate_left 1
  · (try dsimp only at hSw); go_simp; try with_reducible rfl
  simp only [List.set_cons_succ, List.set_cons_zero]
  refine takeL 15 24 (v := ?_) rfl rfl (by kernel_rfl) (by kernel_rfl) (by kernel_rfl) (fun _ _ _ h => h) (by rfl) hHeld (fun w hSw => ?_) ?_
  rotate_left 1
  · (try dsimp only at hSw); go_simp; try with_reducible rfl
  simp only [List.set_cons_succ, List.set_cons_zero]
  refine takeL 18 27 (v := ?_) rfl rfl (by kernel_rfl) (by kernel_rfl) (by kernel_rfl) (fun _ _ _ h => h) (by rfl) hHeld (fun w hSw => ?_) ?_
  rotate_left 1
  · (try dsimp only at hSw); go_simp; try with_reducible rfl
  simp only [List.set_cons_succ, List.set_cons_zero]
  refine onlyL 16 rfl (by kernel_rfl) (by rfl) (fun K hK => ?_)
  go_wp2_with fail
  refine (hD k p _).mono ?_
  rintro e w4 ⟨rfl, hb4⟩
  have T4 := T3.grown hb4
  have hB4 := hB3.trans (hb4.mono hB3.size)
  refine hK.out _ _ T4.six (fun hHeld => ?_)
  clear hK K hb4 T3
  refine onlyL 17 rfl (by kernel_rfl) (by rfl) (fun K hK => ?_)
  go_wp2_with fail
  refine (enc_back hE k p _).mono ?_
  rintro e w5 ⟨rfl, hb5⟩
  have T5 := T4.grown hb5
  have hB5 := hB4.trans (hb5.mono hB4.size)
  refine hK.out _ _ T5.six (fun hHeld => ?_)
  clear hK K hb5 T4
  refine takeL 19 28 (v := ?_) rfl rfl (by kernel_rfl) (by kernel_rfl) (by kernel_rfl) (fun _ _ _ h => h) (by rfl) hHeld (fun w hSw => ?_) ?_
  rotate_left 1
  · (try dsimp only at hSw); go_simp; try with_reducible rfl
  simp only [List.set_cons_succ, List.set_cons_zero]
  refine takeL 20 29 (v := ?_) rfl rfl (by kernel_rfl) (by kernel_rfl) (by kernel_rfl) (fun _ _ _ h => h) (by rfl) hHeld (fun w hSw => ?_) ?_
  rotate_left 1
  · (try dsimp only at hSw); go_simp; try with_reducible rfl
  simp only [List.set_cons_succ, List.set_cons_zero]
  refine takeM 21 30 29 rfl rfl rfl (by kernel_rfl) (by kernel_rfl) (by kernel_rfl) (fun _ _ _ h => h) (by rfl) hHeld rfl ?_
  simp only [List.set_cons_succ, List.set_cons_zero]
  refine onlyL 22 rfl (by kernel_rfl) (by rfl) (fun K hK => ?_)
  go_wp2_with fail
  refine (known_true hE _).mono ?_
  rintro e w6 ⟨rfl, hb6⟩
  have T6 := T5.grown hb6
  have hB6 := hB5.trans (hb6.mono hB5.size)
  refine hK.out _ _ T6.six (fun hHeld => ?_)
  clear hK K hb6 T5
  refine takeL 23 32 (v := ?_) rfl rfl (by kernel_rfl) (by kernel_rfl) (by kernel_rfl) (fun _ _ _ h => h) (by rfl) hHeld (fun w hSw => ?_) ?_
  rotate_left 1
  · (try dsimp only at hSw); go_simp; try with_reducible rfl
  simp only [List.set_cons_succ, List.set_cons_zero]
  refine takeA 24 4 32 rfl rfl rfl (by kernel_rfl) (by kernel_rfl) (by kernel_rfl) (fun _ _ _ h => h) (by rfl) hHeld rfl ?_
  simp only [List.set_cons_succ, List.set_cons_zero]
  refine wpAnyH_done (by kernel_rfl) ?_ _
  go_wp2
  go_ret
  exact ⟨rfl, hB6⟩

theorem eq_enc (k a b : BitVec 64 × BitVec 64) : (nv (enc k a).1 == nv (enc k b).1 && nv (enc k a).2 == nv (enc k b).2) = decide (a = b) := by
  rw [pair_eq, Bool.eq_iff_iff, decide_eq_true_eq, decide_eq_true_eq]
  exact ⟨enc_inj, fun h => by rw [h]⟩
theorem eq_dec (k a b : BitVec 64 × BitVec 64) : (nv (dec k a).1 == nv (dec k b).1 && nv (dec k a).2 == nv (dec k b).2) = decide (a = b) := by
  rw [pair_eq, Bool.eq_iff_iff, decide_eq_true_eq, decide_eq_true_eq]
  exact ⟨dec_inj, fun h => by rw [h]⟩

set_option maxHeartbeats 2000000 in
theorem unlike_any (hE : EncSaid) (hD : DecSaid) (k a b : BitVec 64 × BitVec 64) (w : World) : Calls Try.prog 5 #[.agg #[.int .u64 (nv k.1), .int .u64 (nv k.2)], .agg #[.int .u64 (nv a.1), .int .u64 (nv a.2)], .agg #[.int .u64 (nv b.1), .int .u64 (nv b.2)]] w fun e w' => e = .returned (.bool true) ∧ Below w.heap.size w w' := by
  have heq := eq32
  have h1 := eq_enc k a b
  have h2 := eq_dec k a b
  have h3 := pair_eq a b
  generalize decide (a = b) = d at *
  go_enter Try.func5, Try.ntmps5
  go_wp2
  have T1 : Three (((w.alloc (.cells #[.int .u64 (nv k.1), .int .u64 (nv k.2)] 24)).alloc (.cells #[.int .u64 (nv a.1), .int .u64 (nv a.2)] 24)).alloc (.cells #[.int .u64 (nv b.1), .int .u64 (nv b.2)] 24)) w.heap.size (w.heap.size + 1) (w.heap.size + 2) k a b := by
    have b2 := Box.new (w.alloc (.cells #[.int .u64 (nv k.1), .int .u64 (nv k.2)] 24)) (nv a.1) (nv a.2)
    have b3 := Box.new ((w.alloc (.cells #[.int .u64 (nv k.1), .int .u64 (nv k.2)] 24)).alloc (.cells #[.int .u64 (nv a.1), .int .u64 (nv a.2)] 24)) (nv b.1) (nv b.2)
    simp only [World.size_alloc] at b2 b3
    exact ⟨((Box.new w (nv k.1) (nv k.2)).alloc _).alloc _, b2.alloc _, b3⟩
  have hB1 : Below w.heap.size w (((w.alloc (.cells #[.int .u64 (nv k.1), .int .u64 (nv k.2)] 24)).alloc (.cells #[.int .u64 (nv a.1), .int .u64 (nv a.2)] 24)).alloc (.cells #[.int .u64 (nv b.1), .int .u64 (nv b.2)] 24)) := by go_grown
  generalize ((w.alloc (.cells #[.int .u64 (nv k.1), .int .u64 (nv k.2)] 24)).alloc (.cells #[.int .u64 (nv a.1), .int .u64 (nv a.2)] 24)).alloc (.cells #[.int .u64 (nv b.1), .int .u64 (nv b.2)] 24) = W at *
  refine wp_region_held_drew (S := fun w' => w'.cell? ⟨w.heap.size, 0, none⟩ = some (.int .u64 (nv k.1)) ∧ w'.cell? ⟨w.heap.size, 1, none⟩ = some (.int .u64 (nv k.2)) ∧ w'.cell? ⟨w.heap.size + 1, 0, none⟩ = some (.int .u64 (nv a.1)) ∧ w'.cell? ⟨w.heap.size + 1, 1, none⟩ = some (.int .u64 (nv a.2)) ∧ w'.cell? ⟨w.heap.size + 2, 0, none⟩ = some (.int .u64 (nv b.1)) ∧ w'.cell? ⟨w.heap.size + 2, 1, none⟩ = some (.int .u64 (nv b.2))) (by kernel_rfl) T1.six (fun hHeld => ?_)
  refine takeL 0 7 (v := ?_) rfl rfl (by kernel_rfl) (by kernel_rfl) (by kernel_rfl) (fun _ _ _ h => h) (by rfl) hHeld (fun w hSw => ?_) ?_
  rotate_left 1
  · (try dsimp only at hSw); go_simp; try with_reducible rfl
  simp only [List.set_cons_succ, List.set_cons_zero]
  refine takeL 1 8 (v := ?_) rfl rfl (by kernel_rfl) (by kernel_rfl) (by kernel_rfl) (fun _ _ _ h => h) (by rfl) hHeld (fun w hSw => ?_) ?_
  rotate_left 1
  · (try dsimp only at hSw); go_simp; try with_reducible rfl
  simp only [List.set_cons_succ, List.set_cons_zero]
  refine takeL 3 10 (v := ?_) rfl rfl (by kernel_rfl) (by kernel_rfl) (by kernel_rfl) (fun _ _ _ h => h) (by rfl) hHeld (fun w hSw => ?_) ?_
  rotate_left 1
  · (try dsimp only at hSw); go_simp; try with_reducible rfl
  simp only [List.set_cons_succ, List.set_cons_zero]
  refine takeL 4 11 (v := ?_) rfl rfl (by kernel_rfl) (by kernel_rfl) (by kernel_rfl) (fun _ _ _ h => h) (by rfl) hHeld (fun w hSw => ?_) ?_
  rotate_left 1
  · (try dsimp only at hSw); go_simp; try with_reducible rfl
  simp only [List.set_cons_succ, List.set_cons_zero]
  refine takeL 7 14 (v := ?_) rfl rfl (by kernel_rfl) (by kernel_rfl) (by kernel_rfl) (fun _ _ _ h => h) (by rfl) hHeld (fun w hSw => ?_) ?_
  rotate_left 1
  · (try dsimp only at hSw); go_simp; try with_reducible rfl
  simp only [List.set_cons_succ, List.set_cons_zero]
  refine takeL 8 15 (v := ?_) rfl rfl (by kernel_rfl) (by kernel_rfl) (by kernel_rfl) (fun _ _ _ h => h) (by rfl) hHeld (fun w hSw => ?_) ?_
  rotate_left 1
  · (try dsimp only at hSw); go_simp; try with_reducible rfl
  simp only [List.set_cons_succ, List.set_cons_zero]
  refine takeL 9 16 (v := ?_) rfl rfl (by kernel_rfl) (by kernel_rfl) (by kernel_rfl) (fun _ _ _ h => h) (by rfl) hHeld (fun w hSw => ?_) ?_
  rotate_left 1
  · (try dsimp only at hSw); go_simp; try with_reducible rfl
  simp only [List.set_cons_succ, List.set_cons_zero]
  refine onlyL 2 rfl (by kernel_rfl) (by rfl) (fun K hK => ?_)
  go_wp2_with fail
  refine (hE k a _).mono ?_
  rintro e w2 ⟨rfl, hb2⟩
  have hb2 := (Below.refl _ _).drew.trans hb2
  have T2 := T1.grown hb2
  have hB2 := hB1.trans (hb2.mono hB1.size)
  refine hK.out _ _ T2.six (fun hHeld => ?_)
  clear hK K hb2 T1
  refine onlyL 5 rfl (by kernel_rfl) (by rfl) (fun K hK => ?_)
  go_wp2_with fail
  refine (hE k b _).mono ?_
  rintro e w3 ⟨rfl, hb3⟩
  have T3 := T2.grown hb3
  have hB3 := hB2.trans (hb3.mono hB2.size)
  refine hK.out _ _ T3.six (fun hHeld => ?_)
  clear hK K hb3 T2
  refine takeL 6 13 (v := ?_) rfl rfl (by kernel_rfl) (by kernel_rfl) (by kernel_rfl) (fun _ _ _ h => h) (by rfl) hHeld (fun w hSw => ?_) ?_
  rotate_left 1
  · (try dsimp only at hSw); go_simp; try with_reducible rfl
  simp only [List.set_cons_succ, List.set_cons_zero]
  refine takeL 10 17 (v := ?_) rfl rfl (by kernel_rfl) (by kernel_rfl) (by kernel_rfl) (fun _ _ _ h => h) (by rfl) hHeld (fun w hSw => ?_) ?_
  rotate_left 1
  · (try dsimp only at hSw); go_simp; try with_reducible rfl
  simp only [List.set_cons_succ, List.set_cons_zero]
  refine takeM 11 18 17 rfl rfl rfl (by kernel_rfl) (by kernel_rfl) (by kernel_rfl) (fun _ _ _ h => h) (by rfl) hHeld rfl ?_
  simp only [List.set_cons_succ, List.set_cons_zero]
  refine takeL 12 19 (v := ?_) rfl rfl (by kernel_rfl) (by kernel_rfl) (by kernel_rfl) (fun _ _ _ h => h) (by rfl) hHeld (fun w hSw => ?_) ?_
  rotate_left 1
  · (try dsimp only at hSw); go_simp; try with_reducible rfl
  simp only [List.set_cons_succ, List.set_cons_zero]
  refine takeL 13 20 (v := ?_) rfl rfl (by kernel_rfl) (by kernel_rfl) (by kernel_rfl) (fun _ _ _ h => h) (by rfl) hHeld (fun w hSw => ?_) ?_
  rotate_left 1
  · (try dsimp only at hSw); go_simp; try with_reducible rfl
  simp only [List.set_cons_succ, List.set_cons_zero]
  refine takeL 15 22 (v := ?_) rfl rfl (by kernel_rfl) (by kernel_rfl) (by kernel_rfl) (fun _ _ _ h => h) (by rfl) hHeld (fun w hSw => ?_) ?_
  rotate_left 1
  · (try dsimp only at hSw); go_simp; try with_reducible rfl
  simp only [List.set_cons_succ, List.set_cons_zero]
  refine takeL 16 23 (v := ?_) rfl rfl (by kernel_rfl) (by kernel_rfl) (by kernel_rfl) (fun _ _ _ h => h) (by rfl) hHeld (fun w hSw => ?_) ?_
  rotate_left 1
  · (try dsimp only at hSw); go_simp; try with_reducible rfl
  simp only [List.set_cons_succ, List.set_cons_zero]
  refine takeL 19 26 (v := ?_) rfl rfl (by kernel_rfl) (by kernel_rfl) (by kernel_rfl) (fun _ _ _ h => h) (by rfl) hHeld (fun w hSw => ?_) ?_
  rotate_left 1
  · (try dsimp only at hSw); go_simp; try with_reducible rfl
  simp only [List.set_cons_succ, List.set_cons_zero]
  refine takeL 20 27 (v := ?_) rfl rfl (by kernel_rfl) (by kernel_rfl) (by kernel_rfl) (fun _ _ _ h => h) (by rfl) hHeld (fun w hSw => ?_) ?_
  rotate_left 1
  · (try dsimp only at hSw); go_simp; try with_reducible rfl
  simp only [List.set_cons_succ, List.set_cons_zero]
  refine takeL 21 28 (v := ?_) rfl rfl (by kernel_rfl) (by kernel_rfl) (by kernel_rfl) (fun _ _ _ h => h) (by rfl) hHeld (fun w hSw => ?_) ?_
  rotate_left 1
  · (try dsimp only at hSw); go_simp; try with_reducible rfl
  simp only [List.set_cons_succ, List.set_cons_zero]
  refine onlyL 14 rfl (by kernel_rfl) (by rfl) (fun K hK => ?_)
  go_wp2_with fail
  refine (hD k a _).mono ?_
  rintro e w4 ⟨rfl, hb4⟩
  have T4 := T3.grown hb4
  have hB4 := hB3.trans (hb4.mono hB3.size)
  refine hK.out _ _ T4.six (fun hHeld => ?_)
  clear hK K hb4 T3
  refine onlyL 17 rfl (by kernel_rfl) (by rfl) (fun K hK => ?_)
  go_wp2_with fail
  refine (hD k b _).mono ?_
  rintro e w5 ⟨rfl, hb5⟩
  have T5 := T4.grown hb5
  have hB5 := hB4.trans (hb5.mono hB4.size)
  refine hK.out _ _ T5.six (fun hHeld => ?_)
  clear hK K hb5 T4
  refine takeL 18 25 (v := ?_) rfl rfl (by kernel_rfl) (by kernel_rfl) (by kernel_rfl) (fun _ _ _ h => h) (by rfl) hHeld (fun w hSw => ?_) ?_
  rotate_left 1
  · (try dsimp only at hSw); go_simp; try with_reducible rfl
  simp only [List.set_cons_succ, List.set_cons_zero]
  refine takeL 22 29 (v := ?_) rfl rfl (by kernel_rfl) (by kernel_rfl) (by kernel_rfl) (fun _ _ _ h => h) (by rfl) hHeld (fun w hSw => ?_) ?_
  rotate_left 1
  · (try dsimp only at hSw); go_simp; try with_reducible rfl
  simp only [List.set_cons_succ, List.set_cons_zero]
  refine takeL 23 30 (v := ?_) rfl rfl (by kernel_rfl) (by kernel_rfl) (by kernel_rfl) (fun _ _ _ h => h) (by rfl) hHeld (fun w hSw => ?_) ?_
  rotate_left 1
  · (try dsimp only at hSw); go_simp; try with_reducible rfl
  simp only [List.set_cons_succ, List.set_cons_zero]
  refine takeM 24 31 30 rfl rfl rfl (by kernel_rfl) (by kernel_rfl) (by kernel_rfl) (fun _ _ _ h => h) (by rfl) hHeld rfl ?_
  simp only [List.set_cons_succ, List.set_cons_zero]
  refine onlyL 25 rfl (by kernel_rfl) (by rfl) (fun K hK => ?_)
  go_wp2_with fail
  refine (known_true hE _).mono ?_
  rintro e w6 ⟨rfl, hb6⟩
  have T6 := T5.grown hb6
  have hB6 := hB5.trans (hb6.mono hB5.size)
  refine hK.out _ _ T6.six (fun hHeld => ?_)
  clear hK K hb6 T5
  refine takeL 26 33 (v := ?_) rfl rfl (by kernel_rfl) (by kernel_rfl) (by kernel_rfl) (fun _ _ _ h => h) (by rfl) hHeld (fun w hSw => ?_) ?_
  rotate_left 1
  · (try dsimp only at hSw); go_simp; try with_reducible rfl
  simp only [List.set_cons_succ, List.set_cons_zero]
  refine takeA 27 6 33 rfl rfl rfl (by kernel_rfl) (by kernel_rfl) (by kernel_rfl) (fun _ _ _ h => h) (by rfl) hHeld rfl ?_
  simp only [List.set_cons_succ, List.set_cons_zero]
  refine wpAnyH_done (by kernel_rfl) ?_ _
  go_wp2
  go_ret
  exact ⟨rfl, hB6⟩

set_option maxHeartbeats 2000000 in
theorem keys_any (hE : EncSaid) (hK1 : KeysSaid) (p : BitVec 64 × BitVec 64) (w : World) : Calls Try.prog 4 #[.agg #[.int .u64 (nv p.1), .int .u64 (nv p.2)]] w fun e w' => e = .returned (.bool true) ∧ Below w.heap.size w w' := by
  go_enter Try.func4, Try.ntmps4
  go_wp2
  have bp := Box.new w (nv p.1) (nv p.2)
  have hB1 : Below w.heap.size w (w.alloc (.cells #[.int .u64 (nv p.1), .int .u64 (nv p.2)] 24)) := (Below.refl _ _).alloc (Nat.le_refl _) _
  generalize w.alloc (.cells #[.int .u64 (nv p.1), .int .u64 (nv p.2)] 24) = W at *
  refine wp_region_held_drew (S := fun w' => w'.cell? ⟨w.heap.size, 0, none⟩ = some (.int .u64 (nv p.1)) ∧ w'.cell? ⟨w.heap.size, 1, none⟩ = some (.int .u64 (nv p.2))) (by kernel_rfl) ⟨bp.c0, bp.c1⟩ (fun hHeld => ?_)
  refine takeL 0 6 (v := ?_) rfl rfl (by kernel_rfl) (by kernel_rfl) (by kernel_rfl) (fun _ _ _ h => h) (by rfl) hHeld (fun w hSw => ?_) ?_
  rotate_left 1
  · (try dsimp only at hSw); go_simp; try with_reducible rfl
  simp only [List.set_cons_succ, List.set_cons_zero]
  refine takeL 2 8 (v := ?_) rfl rfl (by kernel_rfl) (by kernel_rfl) (by kernel_rfl) (fun _ _ _ h => h) (by rfl) hHeld (fun w hSw => ?_) ?_
  rotate_left 1
  · (try dsimp only at hSw); go_simp; try with_reducible rfl
  simp only [List.set_cons_succ, List.set_cons_zero]
  refine onlyL 1 rfl (by kernel_rfl) (by rfl) (fun K hK => ?_)
  go_wp2_with fail
  refine (hK1 p _).mono ?_
  rintro e w2 ⟨g, cap, rfl, hg, hk2, hb2⟩
  have hb2 := (Below.refl _ _).drew.trans hb2
  have bp2 := bp.grown hb2
  have hB2 := hB1.trans (hb2.mono hB1.size)
  refine hK.out _ _ ⟨bp2.c0, bp2.c1⟩ (fun hHeld => ?_)
  clear hK K
  refine onlyL 3 rfl (by kernel_rfl) (by rfl) (fun K hK => ?_)
  go_wp2_with fail
  refine (rkeys p _).mono ?_
  rintro e w3 ⟨g3, cap3, rfl, hg3, hk3, hb3⟩
  have bp3 := bp2.grown hb3
  have hB3 := hB2.trans (hb3.mono hB2.size)
  have hk2 := hk2.below hb3 hk2.1
  refine hK.out _ _ ⟨bp3.c0, bp3.c1⟩ (fun hHeld => ?_)
  clear hK K
  refine takeA 4 3 7 rfl rfl rfl (by kernel_rfl) (by kernel_rfl) (by kernel_rfl) (fun _ _ _ h => h) (by rfl) hHeld rfl ?_
  simp only [List.set_cons_succ, List.set_cons_zero]
  refine takeA 5 4 9 rfl rfl rfl (by kernel_rfl) (by kernel_rfl) (by kernel_rfl) (fun _ _ _ h => h) (by rfl) hHeld rfl ?_
  simp only [List.set_cons_succ, List.set_cons_zero]
  clear hHeld bp bp2 bp3 hB1 hB2 hb2 hb3 hg hg3
  refine wpAnyH_done (by kernel_rfl) ?_ _
  go_wp2_with fail
  go_loopw [5] (fun i wr => ∃ j : Nat, j ≤ 32 ∧ i = .int .i64 j ∧ Below w3.heap.size w3 wr) (fun i _ => 32 - (intOf i).toNat)
  case atStart => exact ⟨0, by decide, rfl, Below.refl _ _⟩
  case round =>
    obtain ⟨j, hj, rfl, hb⟩ := hrel
    by_cases hlt : j < 32
    · have c1 := (hk2.below hb hk2.1).2 j hlt
      have c2 := (hk3.below hb hk3.1).2 j hlt
      go_wp2
      refine wp_region_held_drew (S := fun w' => w'.cell? ⟨g, j, none⟩ = some (.int .u64 (nv (key p j))) ∧ w'.cell? ⟨g3, j, none⟩ = some (.int .u64 (nv (key p j)))) (by kernel_rfl) ⟨c1, c2⟩ (fun hHeld => ?_)
      refine takeM 0 17 3 rfl rfl rfl (by kernel_rfl) (by kernel_rfl) (by kernel_rfl) (fun _ _ _ h => h) (by rfl) hHeld rfl ?_
      simp only [List.set_cons_succ, List.set_cons_zero]
      refine takeM 1 18 5 rfl rfl rfl (by kernel_rfl) (by kernel_rfl) (by kernel_rfl) (fun _ _ _ h => h) (by rfl) hHeld rfl ?_
      simp only [List.set_cons_succ, List.set_cons_zero]
      refine takeL 2 19 (v := ?_) rfl rfl (by kernel_rfl) (by kernel_rfl) (by kernel_rfl) (fun _ _ _ h => h) (by rfl) hHeld (fun w hSw => ?_) ?_
      rotate_left 1
      · (try dsimp only at hSw); go_simp; try with_reducible rfl
      simp only [List.set_cons_succ, List.set_cons_zero]
      refine takeL 3 20 (v := ?_) rfl rfl (by kernel_rfl) (by kernel_rfl) (by kernel_rfl) (fun _ _ _ h => h) (by rfl) hHeld (fun w hSw => ?_) ?_
      rotate_left 1
      · (try dsimp only at hSw); go_simp; try with_reducible rfl
      simp only [List.set_cons_succ, List.set_cons_zero]
      refine takeM 4 21 4 rfl rfl rfl (by kernel_rfl) (by kernel_rfl) (by kernel_rfl) (fun _ _ _ h => h) (by rfl) hHeld rfl ?_
      simp only [List.set_cons_succ, List.set_cons_zero]
      refine takeM 5 22 5 rfl rfl rfl (by kernel_rfl) (by kernel_rfl) (by kernel_rfl) (fun _ _ _ h => h) (by rfl) hHeld rfl ?_
      simp only [List.set_cons_succ, List.set_cons_zero]
      refine takeL 6 23 (v := ?_) rfl rfl (by kernel_rfl) (by kernel_rfl) (by kernel_rfl) (fun _ _ _ h => h) (by rfl) hHeld (fun w hSw => ?_) ?_
      rotate_left 1
      · (try dsimp only at hSw); go_simp; try with_reducible rfl
      simp only [List.set_cons_succ, List.set_cons_zero]
      refine takeL 7 24 (v := ?_) rfl rfl (by kernel_rfl) (by kernel_rfl) (by kernel_rfl) (fun _ _ _ h => h) (by rfl) hHeld (fun w hSw => ?_) ?_
      rotate_left 1
      · (try dsimp only at hSw); go_simp; try with_reducible rfl
      simp only [List.set_cons_succ, List.set_cons_zero]
      refine takeL 8 25 (v := ?_) rfl rfl (by kernel_rfl) (by kernel_rfl) (by kernel_rfl) (fun _ _ _ h => h) (by rfl) hHeld (fun w hSw => ?_) ?_
      rotate_left 1
      · (try dsimp only at hSw); go_simp; try with_reducible rfl
      simp only [List.set_cons_succ, List.set_cons_zero]
      refine wpAnyH_done (by kernel_rfl) ?_ _
      clear c1 c2 hHeld
      go_wp2
      go_roundw
      case rel => exact ⟨j + 1, hlt, by go_num, hb.drew⟩
      case measure => simp [intOf]; omega
    · have hBr := hB3.trans (hb.mono hB3.size)
      go_wp2_with fail
      refine (known_true hE _).mono ?_
      rintro e w6 ⟨rfl, hb6⟩
      go_wp2
      go_ret
      exact ⟨rfl, hBr.trans (hb6.mono hBr.size)⟩

theorem keys_at (hK1 : KeysSaid) (p : BitVec 64 × BitVec 64) (a b : Int) (ha : nv p.1 = a) (hb : nv p.2 = b) (w : World) : Calls Try.prog 11 #[.agg #[.int .u64 a, .int .u64 b]] w fun e w' => ∃ g cap, e = .returned (.slice (some ⟨g, 0, none⟩) 32 cap) ∧ w.heap.size ≤ g ∧ KeysAt w' g p ∧ Below w.heap.size w w' := by
  subst ha hb
  exact hK1 p w
theorem enc_at0 (hE : EncSaid) (k p : BitVec 64 × BitVec 64) (a b : Int) (ha : nv k.1 = a) (hb : nv k.2 = b) (w : World) : Calls Try.prog 7 #[.agg #[.int .u64 a, .int .u64 b], .agg #[.int .u64 (nv p.1), .int .u64 (nv p.2)]] w fun e w' => e = .returned (.agg #[.int .u64 (nv (enc k p).1), .int .u64 (nv (enc k p).2)]) ∧ Below w.heap.size w w' := by
  subst ha hb
  exact hE k p w
theorem renc_at (k p : BitVec 64 × BitVec 64) (a b : Int) (ha : nv k.1 = a) (hb : nv k.2 = b) (w : World) : Calls Try.prog 8 #[.agg #[.int .u64 a, .int .u64 b], .agg #[.int .u64 (nv p.1), .int .u64 (nv p.2)]] w fun e w' => e = .returned (.agg #[.int .u64 (nv (enc k p).1), .int .u64 (nv (enc k p).2)]) ∧ Below w.heap.size w w' := by
  subst ha hb
  exact rencrypt k p w
theorem key0 : nv (key (0#64, 0#64) 0) = 0 ∧ nv (key (0#64, 0#64) 1) = 0 ∧ nv (key (0#64, 0#64) 2) = 1 := by decide
theorem seven {w : World} {g a c : Nat} {p x : BitVec 64 × BitVec 64} (hk : KeysAt w g (0#64, 0#64)) (hp : Box w a (nv p.1) (nv p.2)) (hx : Box w c (nv x.1) (nv x.2)) :
    w.cell? ⟨g, 0, none⟩ = some (.int .u64 0) ∧ w.cell? ⟨g, 1, none⟩ = some (.int .u64 0) ∧ w.cell? ⟨g, 2, none⟩ = some (.int .u64 1) ∧ w.cell? ⟨a, 0, none⟩ = some (.int .u64 (nv p.1)) ∧ w.cell? ⟨a, 1, none⟩ = some (.int .u64 (nv p.2)) ∧ w.cell? ⟨c, 0, none⟩ = some (.int .u64 (nv x.1)) ∧ w.cell? ⟨c, 1, none⟩ = some (.int .u64 (nv x.2)) := by
  refine ⟨?_, ?_, ?_, hp.c0, hp.c1, hx.c0, hx.c1⟩
  · rw [hk.2 0 (by decide), key0.1]
  · rw [hk.2 1 (by decide), key0.2.1]
  · rw [hk.2 2 (by decide), key0.2.2]

set_option maxHeartbeats 2000000 in
theorem rounds_any (hE : EncSaid) (hK1 : KeysSaid) (p : BitVec 64 × BitVec 64) (w : World) : Calls Try.prog 6 #[.agg #[.int .u64 (nv p.1), .int .u64 (nv p.2)]] w fun e w' => e = .returned (.bool true) ∧ Below w.heap.size w w' := by
  have heq := eq32
  go_enter Try.func6, Try.ntmps6
  go_wp2_with fail
  refine (keys_at hK1 (0#64, 0#64) 0 0 rfl rfl _).mono ?_
  rintro e w1 ⟨g, cap, rfl, hg, hk1, hb1⟩
  have hB0 : Below w.heap.size w (w.alloc (.cells #[.int .u64 (nv p.1), .int .u64 (nv p.2)] 24)) := (Below.refl _ _).alloc (Nat.le_refl _) _
  have bp1 := (Box.new w (nv p.1) (nv p.2)).grown hb1
  have hB1 := hB0.trans (hb1.mono hB0.size)
  have q0 := bp1.c0
  have q1 := bp1.c1
  clear hb1 hg hB0
  go_wp2_with fail
  refine (enc_at0 hE (0#64, 0#64) p 0 0 rfl rfl _).mono ?_
  rintro e w2 ⟨rfl, hb2⟩
  have bx := Box.new w2 (nv (enc (0#64, 0#64) p).1) (nv (enc (0#64, 0#64) p).2)
  have hBx : Below w2.heap.size w2 (w2.alloc (.cells #[.int .u64 (nv (enc (0#64, 0#64) p).1), .int .u64 (nv (enc (0#64, 0#64) p).2)] 24)) := (Below.refl _ _).alloc (Nat.le_refl _) _
  have bp := (bp1.grown hb2).grown hBx
  have hk := (hk1.below hb2 hk1.1).below hBx (hk1.below hb2 hk1.1).1
  have hB2 := (hB1.trans (hb2.mono hB1.size)).trans (hBx.mono (Nat.le_trans hB1.size hb2.size))
  clear q0 q1 bp1 hk1 hb2 hBx hB1
  go_wp2_with fail
  generalize w2.alloc (.cells #[.int .u64 (nv (enc (0#64, 0#64) p).1), .int .u64 (nv (enc (0#64, 0#64) p).2)] 24) = W at *
  refine wp_region_held_drew (S := fun w' => w'.cell? ⟨g, 0, none⟩ = some (.int .u64 0) ∧ w'.cell? ⟨g, 1, none⟩ = some (.int .u64 0) ∧ w'.cell? ⟨g, 2, none⟩ = some (.int .u64 1) ∧ w'.cell? ⟨w.heap.size, 0, none⟩ = some (.int .u64 (nv p.1)) ∧ w'.cell? ⟨w.heap.size, 1, none⟩ = some (.int .u64 (nv p.2)) ∧ w'.cell? ⟨w2.heap.size, 0, none⟩ = some (.int .u64 (nv (enc (0#64, 0#64) p).1)) ∧ w'.cell? ⟨w2.heap.size, 1, none⟩ = some (.int .u64 (nv (enc (0#64, 0#64) p).2))) (by kernel_rfl) (seven hk bp bx) (fun hHeld => ?_)
  refine takeM 0 10 3 rfl rfl rfl (by kernel_rfl) (by kernel_rfl) (by kernel_rfl) (fun _ _ _ h => h) (by rfl) hHeld rfl ?_
  simp only [List.set_cons_succ, List.set_cons_zero]
  refine takeL 1 11 (v := ?_) rfl rfl (by kernel_rfl) (by kernel_rfl) (by kernel_rfl) (fun _ _ _ h => h) (by rfl) hHeld (fun w hSw => ?_) ?_
  rotate_left 1
  · (try dsimp only at hSw); go_simp; try with_reducible rfl
  simp only [List.set_cons_succ, List.set_cons_zero]
  refine takeL 2 12 (v := ?_) rfl rfl (by kernel_rfl) (by kernel_rfl) (by kernel_rfl) (fun _ _ _ h => h) (by rfl) hHeld (fun w hSw => ?_) ?_
  rotate_left 1
  · (try dsimp only at hSw); go_simp; try with_reducible rfl
  simp only [List.set_cons_succ, List.set_cons_zero]
  refine takeM 3 13 12 rfl rfl rfl (by kernel_rfl) (by kernel_rfl) (by kernel_rfl) (fun _ _ _ h => h) (by rfl) hHeld rfl ?_
  simp only [List.set_cons_succ, List.set_cons_zero]
  refine takeM 4 14 3 rfl rfl rfl (by kernel_rfl) (by kernel_rfl) (by kernel_rfl) (fun _ _ _ h => h) (by rfl) hHeld rfl ?_
  simp only [List.set_cons_succ, List.set_cons_zero]
  refine takeL 5 15 (v := ?_) rfl rfl (by kernel_rfl) (by kernel_rfl) (by kernel_rfl) (fun _ _ _ h => h) (by rfl) hHeld (fun w hSw => ?_) ?_
  rotate_left 1
  · (try dsimp only at hSw); go_simp; try with_reducible rfl
  simp only [List.set_cons_succ, List.set_cons_zero]
  refine takeL 6 16 (v := ?_) rfl rfl (by kernel_rfl) (by kernel_rfl) (by kernel_rfl) (fun _ _ _ h => h) (by rfl) hHeld (fun w hSw => ?_) ?_
  rotate_left 1
  · (try dsimp only at hSw); go_simp; try with_reducible rfl
  simp only [List.set_cons_succ, List.set_cons_zero]
  refine takeL 7 17 (v := ?_) rfl rfl (by kernel_rfl) (by kernel_rfl) (by kernel_rfl) (fun _ _ _ h => h) (by rfl) hHeld (fun w hSw => ?_) ?_
  rotate_left 1
  · (try dsimp only at hSw); go_simp; try with_reducible rfl
  simp only [List.set_cons_succ, List.set_cons_zero]
  refine takeL 8 18 (v := ?_) rfl rfl (by kernel_rfl) (by kernel_rfl) (by kernel_rfl) (fun _ _ _ h => h) (by rfl) hHeld (fun w hSw => ?_) ?_
  rotate_left 1
  · (try dsimp only at hSw); go_simp; try with_reducible rfl
  simp only [List.set_cons_succ, List.set_cons_zero]
  refine takeM 9 19 18 rfl rfl rfl (by kernel_rfl) (by kernel_rfl) (by kernel_rfl) (fun _ _ _ h => h) (by rfl) hHeld rfl ?_
  simp only [List.set_cons_succ, List.set_cons_zero]
  refine takeM 10 20 3 rfl rfl rfl (by kernel_rfl) (by kernel_rfl) (by kernel_rfl) (fun _ _ _ h => h) (by rfl) hHeld rfl ?_
  simp only [List.set_cons_succ, List.set_cons_zero]
  refine takeL 11 21 (v := ?_) rfl rfl (by kernel_rfl) (by kernel_rfl) (by kernel_rfl) (fun _ _ _ h => h) (by rfl) hHeld (fun w hSw => ?_) ?_
  rotate_left 1
  · (try dsimp only at hSw); go_simp; try with_reducible rfl
  simp only [List.set_cons_succ, List.set_cons_zero]
  refine takeL 12 22 (v := ?_) rfl rfl (by kernel_rfl) (by kernel_rfl) (by kernel_rfl) (fun _ _ _ h => h) (by rfl) hHeld (fun w hSw => ?_) ?_
  rotate_left 1
  · (try dsimp only at hSw); go_simp; try with_reducible rfl
  simp only [List.set_cons_succ, List.set_cons_zero]
  refine takeL 13 23 (v := ?_) rfl rfl (by kernel_rfl) (by kernel_rfl) (by kernel_rfl) (fun _ _ _ h => h) (by rfl) hHeld (fun w hSw => ?_) ?_
  rotate_left 1
  · (try dsimp only at hSw); go_simp; try with_reducible rfl
  simp only [List.set_cons_succ, List.set_cons_zero]
  refine takeL 14 24 (v := ?_) rfl rfl (by kernel_rfl) (by kernel_rfl) (by kernel_rfl) (fun _ _ _ h => h) (by rfl) hHeld (fun w hSw => ?_) ?_
  rotate_left 1
  · (try dsimp only at hSw); go_simp; try with_reducible rfl
  simp only [List.set_cons_succ, List.set_cons_zero]
  refine takeM 15 25 24 rfl rfl rfl (by kernel_rfl) (by kernel_rfl) (by kernel_rfl) (fun _ _ _ h => h) (by rfl) hHeld rfl ?_
  simp only [List.set_cons_succ, List.set_cons_zero]
  refine takeM 16 26 3 rfl rfl rfl (by kernel_rfl) (by kernel_rfl) (by kernel_rfl) (fun _ _ _ h => h) (by rfl) hHeld rfl ?_
  simp only [List.set_cons_succ, List.set_cons_zero]
  refine takeL 17 27 (v := ?_) rfl rfl (by kernel_rfl) (by kernel_rfl) (by kernel_rfl) (fun _ _ _ h => h) (by rfl) hHeld (fun w hSw => ?_) ?_
  rotate_left 1
  · (try dsimp only at hSw); go_simp; try with_reducible rfl
  simp only [List.set_cons_succ, List.set_cons_zero]
  refine takeL 18 28 (v := ?_) rfl rfl (by kernel_rfl) (by kernel_rfl) (by kernel_rfl) (fun _ _ _ h => h) (by rfl) hHeld (fun w hSw => ?_) ?_
  rotate_left 1
  · (try dsimp only at hSw); go_simp; try with_reducible rfl
  simp only [List.set_cons_succ, List.set_cons_zero]
  refine takeL 19 29 (v := ?_) rfl rfl (by kernel_rfl) (by kernel_rfl) (by kernel_rfl) (fun _ _ _ h => h) (by rfl) hHeld (fun w hSw => ?_) ?_
  rotate_left 1
  · (try dsimp only at hSw); go_simp; try with_reducible rfl
  simp only [List.set_cons_succ, List.set_cons_zero]
  refine takeL 20 30 (v := ?_) rfl rfl (by kernel_rfl) (by kernel_rfl) (by kernel_rfl) (fun _ _ _ h => h) (by rfl) hHeld (fun w hSw => ?_) ?_
  rotate_left 1
  · (try dsimp only at hSw); go_simp; try with_reducible rfl
  simp only [List.set_cons_succ, List.set_cons_zero]
  refine takeM 21 31 30 rfl rfl rfl (by kernel_rfl) (by kernel_rfl) (by kernel_rfl) (fun _ _ _ h => h) (by rfl) hHeld rfl ?_
  simp only [List.set_cons_succ, List.set_cons_zero]
  refine takeL 22 32 (v := ?_) rfl rfl (by kernel_rfl) (by kernel_rfl) (by kernel_rfl) (fun _ _ _ h => h) (by rfl) hHeld (fun w hSw => ?_) ?_
  rotate_left 1
  · (try dsimp only at hSw); go_simp; try with_reducible rfl
  simp only [List.set_cons_succ, List.set_cons_zero]
  refine takeL 23 33 (v := ?_) rfl rfl (by kernel_rfl) (by kernel_rfl) (by kernel_rfl) (fun _ _ _ h => h) (by rfl) hHeld (fun w hSw => ?_) ?_
  rotate_left 1
  · (try dsimp only at hSw); go_simp; try with_reducible rfl
  simp only [List.set_cons_succ, List.set_cons_zero]
  refine takeL 24 34 (v := ?_) rfl rfl (by kernel_rfl) (by kernel_rfl) (by kernel_rfl) (fun _ _ _ h => h) (by rfl) hHeld (fun w hSw => ?_) ?_
  rotate_left 1
  · (try dsimp only at hSw); go_simp; try with_reducible rfl
  simp only [List.set_cons_succ, List.set_cons_zero]
  refine onlyL 25 rfl (by kernel_rfl) (by rfl) (fun K hK => ?_)
  go_wp2_with fail
  refine (renc_at (0#64, 0#64) p 0 0 rfl rfl _).mono ?_
  rintro e w3 ⟨rfl, hb3⟩
  have hb3 := (Below.refl _ _).drew.trans hb3
  have hB3 := hB2.trans (hb3.mono hB2.size)
  have hk3 := hk.below hb3 hk.1
  have bp3 := bp.grown hb3
  have bx3 := bx.grown hb3
  refine hK.out _ _ (seven hk3 bp3 bx3) (fun hHeld => ?_)
  clear hK K
  refine takeL 26 36 (v := ?_) rfl rfl (by kernel_rfl) (by kernel_rfl) (by kernel_rfl) (fun _ _ _ h => h) (by rfl) hHeld (fun w hSw => ?_) ?_
  rotate_left 1
  · (try dsimp only at hSw); go_simp; try with_reducible rfl
  simp only [List.set_cons_succ, List.set_cons_zero]
  refine takeL 27 37 (v := ?_) rfl rfl (by kernel_rfl) (by kernel_rfl) (by kernel_rfl) (fun _ _ _ h => h) (by rfl) hHeld (fun w hSw => ?_) ?_
  rotate_left 1
  · (try dsimp only at hSw); go_simp; try with_reducible rfl
  simp only [List.set_cons_succ, List.set_cons_zero]
  refine takeM 28 38 37 rfl rfl rfl (by kernel_rfl) (by kernel_rfl) (by kernel_rfl) (fun _ _ _ h => h) (by rfl) hHeld rfl ?_
  simp only [List.set_cons_succ, List.set_cons_zero]
  refine onlyL 29 rfl (by kernel_rfl) (by rfl) (fun K hK => ?_)
  go_wp2_with fail
  refine (known_true hE _).mono ?_
  rintro e w4 ⟨rfl, hb4⟩
  have hB4 := hB3.trans (hb4.mono hB3.size)
  refine hK.out _ _ (seven (hk3.below hb4 hk3.1) (bp3.grown hb4) (bx3.grown hb4)) (fun hHeld => ?_)
  clear hK K
  refine takeL 30 40 (v := ?_) rfl rfl (by kernel_rfl) (by kernel_rfl) (by kernel_rfl) (fun _ _ _ h => h) (by rfl) hHeld (fun w hSw => ?_) ?_
  rotate_left 1
  · (try dsimp only at hSw); go_simp; try with_reducible rfl
  simp only [List.set_cons_succ, List.set_cons_zero]
  refine takeA 31 2 40 rfl rfl rfl (by kernel_rfl) (by kernel_rfl) (by kernel_rfl) (fun _ _ _ h => h) (by rfl) hHeld rfl ?_
  simp only [List.set_cons_succ, List.set_cons_zero]
  refine wpAnyH_done (by kernel_rfl) ?_ _
  go_wp2
  go_ret
  exact ⟨rfl, hB4⟩

end Go.Proofs.Ytacopakdnibfgaa
