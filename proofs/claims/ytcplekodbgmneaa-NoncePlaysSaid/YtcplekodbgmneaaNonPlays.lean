/- NoncePlays' walk. -/
import Derived.Test.YtcplekodbgmneaaObjB
import Derived.Test.YtcplekodbgmneaaNonLaws
import Derived.Test.YtcplekodbgmneaaRefNon
import Derived.Test.YtcplekodbgmneaaViewI
namespace Go.Proofs.Ytcplekodbgmneaa
open Go.RowKit
set_option maxRecDepth 20000

variable {Inv : (Nat → Prop) → World → Value → Nat × Nat → Prop}
/-- What both makers answer: one number and one error, as many left. -/
def NxtV (B n : Nat) (ep s : Int) : Int × Int × Int × Int × Nat :=
  if s < 0 ∨ 65535 < s then (0, 0, 0, 1, n) else if n < 100 then (ep, s, (B : Int) * 4294967296 + n + 1, 0, n + 1) else (0, 0, 0, 6, n)
theorem nxt_le {B n : Nat} {ep s : Int} (hn : n ≤ 100) : (NxtV B n ep s).2.2.2.2 ≤ 100 := by
  unfold NxtV
  split
  · exact hn
  · split
    · show n + 1 ≤ 100
      omega
    · exact hn
theorem nnxt (hO : MkIs Inv) (F : Nat → Prop) (v : Value) (B n : Nat) (ep s : Int) (hB : B < 4294967296) (hn : n ≤ 100) {a b c e : Int} {n' : Nat} (h : NxtV B n ep s = (a, b, c, e, n')) (w : World) (hI : Inv F w v (B, n)) :
    Calls Try.prog 9 #[v, .int .u32 ep, .int .i64 s] w fun x w' => ∃ F', x = .returned (.tuple #[.agg #[.int .u32 a, .int .u32 b, .int .u64 c], .int .i64 e]) ∧ KeptG Inv F w v F' w' (B, n') := by
  unfold NxtV at h
  split at h
  · rename_i hs
    simp only [Prod.mk.injEq] at h
    obtain ⟨rfl, rfl, rfl, rfl, rfl⟩ := h
    exact hO.nextArg F v B n ep s hs w hI
  · rename_i hs
    obtain ⟨s, rfl⟩ : ∃ k : Nat, s = k := ⟨s.toNat, by omega⟩
    split at h
    · rename_i hlt
      simp only [Prod.mk.injEq] at h
      obtain ⟨rfl, rfl, rfl, rfl, rfl⟩ := h
      exact hO.next F v B n ep s hB hlt (by omega) w hI
    · simp only [Prod.mk.injEq] at h
      obtain ⟨rfl, rfl, rfl, rfl, rfl⟩ := h
      obtain rfl : n = 100 := by omega
      exact hO.nextEnd F v B ep s (by omega) w hI
theorem rnxt (F : Nat → Prop) (v : Value) (B n : Nat) (ep s : Int) (hB : B < 4294967296) (hn : n ≤ 100) {a b c e : Int} {n' : Nat} (h : NxtV B n ep s = (a, b, c, e, n')) (w : World) (hI : RMInv F w v (B, n)) :
    Calls Try.prog 10 #[v, .int .u32 ep, .int .i64 s] w fun x w' => ∃ F', x = .returned (.tuple #[.agg #[.int .u32 a, .int .u32 b, .int .u64 c], .int .i64 e]) ∧ KeptG RMInv F w v F' w' (B, n') := by
  unfold NxtV at h
  split at h
  · rename_i hs
    simp only [Prod.mk.injEq] at h
    obtain ⟨rfl, rfl, rfl, rfl, rfl⟩ := h
    exact rmnextArg F v B n ep s hs w hI
  · rename_i hs
    obtain ⟨s, rfl⟩ : ∃ k : Nat, s = k := ⟨s.toNat, by omega⟩
    split at h
    · rename_i hlt
      simp only [Prod.mk.injEq] at h
      obtain ⟨rfl, rfl, rfl, rfl, rfl⟩ := h
      exact rmnext F v B n ep s hB hlt (by omega) w hI
    · simp only [Prod.mk.injEq] at h
      obtain ⟨rfl, rfl, rfl, rfl, rfl⟩ := h
      obtain rfl : n = 100 := by omega
      exact rmnextEnd F v B ep s (by omega) w hI
/-- A number of a row that came in. -/
theorem int_at {w : World} {x : Option Addr} {m : Nat} {L : List Int} (h : RowsAt 1 IntR w x m L) {i : Nat} (hi : i < m) : ∃ b o, x = some ⟨b, o, none⟩ ∧ b < w.heap.size ∧ w.cell? ⟨b, o + i, none⟩ = some (.int .i64 (L.getD i default)) := by
  obtain ⟨b, o, rfl, hb, hc⟩ := h.2 (by omega)
  obtain ⟨cs, _, hcs, hr⟩ := hc i hi
  exact ⟨b, o, rfl, hb, by simpa using hcs 0 (.int .i64 (L.getD i default)) (by rw [hr]; rfl)⟩
theorem u32_at {w : World} {x : Option Addr} {m : Nat} {L : List Int} (h : RowsAt 1 U32R w x m L) {i : Nat} (hi : i < m) : ∃ b o, x = some ⟨b, o, none⟩ ∧ b < w.heap.size ∧ w.cell? ⟨b, o + i, none⟩ = some (.int .u32 (L.getD i default)) := by
  obtain ⟨b, o, rfl, hb, hc⟩ := h.2 (by omega)
  obtain ⟨cs, _, hcs, hr⟩ := hc i hi
  exact ⟨b, o, rfl, hb, by simpa using hcs 0 (.int .u32 (L.getD i default)) (by rw [hr]; rfl)⟩
set_option maxHeartbeats 4000000 in
theorem nplays (hO : MkIs Inv) (B : Nat) (x1 x2 : Option Addr) (m1 m2 c1 c2 : Nat) (L1 L2 : List Int) (w : World) (hB64 : B < 18446744073709551616) (f1 : m1 ≤ c1 ∧ c1 ≤ maxLen ∧ (x1 = none → m1 = 0 ∧ c1 = 0)) (f2 : m2 ≤ c2 ∧ c2 ≤ maxLen ∧ (x2 = none → m2 = 0 ∧ c2 = 0)) (s1 : RowsAt 1 U32R w x1 m1 L1) (s2 : RowsAt 1 IntR w x2 m2 L2) :
    Calls Try.prog 3 #[.int .u64 (B : Int), .slice x1 m1 c1, .slice x2 m2 c2] w fun e w' => e = .returned (.bool true) ∧ Below w.heap.size w w' := by
  have heq := eqN
  by_cases hm2 : 250 < m2
  · have h1 : (250 : Int) < m2 := by omega
    go_enter Try.func3, Try.ntmps3
    go_wp2
    go_ret
    exact ⟨rfl, Below.refl _ _⟩
  have h2 : ¬ (250 : Int) < m2 := by omega
  by_cases hm1 : 250 < m1
  · have h1 : (250 : Int) < m1 := by omega
    go_enter Try.func3, Try.ntmps3
    go_wp2
    go_ret
    exact ⟨rfl, Below.refl _ _⟩
  have h1 : ¬ (250 : Int) < m1 := by omega
  by_cases hb : 4294967296 ≤ B
  · go_enter Try.func3, Try.ntmps3
    go_wp2_with fail
    refine (hO.makeNo B hb _).mono ?_
    rintro e w1 ⟨rfl, hb1⟩
    go_wp2_with fail
    refine (rmmakeNo B hb _).mono ?_
    rintro e w2 ⟨rfl, hb2⟩
    replace hb1 := hb1.trans (hb2.mono hb1.size)
    clear hb2
    go_wp2_with fail
    go_loopw [11] (fun i wr => i = .int .i64 0 ∧ Below w.heap.size w wr) (fun i _ => 0)
    case atStart => exact ⟨rfl, hb1⟩
    case round =>
      clear hb1
      obtain ⟨rfl, hb1⟩ := hrel
      by_cases h0 : 0 < m2
      · have h0' : (0 : Int) < m2 := by omega
        go_wp2_with fail
        refine (nknown hO _).mono ?_
        rintro e w5 ⟨rfl, hb⟩
        replace hb1 := hb1.trans (hb.mono hb1.size)
        go_wp2
        go_ret
        exact ⟨rfl, hb1⟩
      · have h0' : ¬ (0 : Int) < m2 := by omega
        go_wp2_with fail
        refine (nknown hO _).mono ?_
        rintro e w5 ⟨rfl, hb⟩
        replace hb1 := hb1.trans (hb.mono hb1.size)
        go_wp2
        go_ret
        exact ⟨rfl, hb1⟩
  have HB : Hid (B < 4294967296) := hide' (by omega)
  clear hb hB64
  go_enter Try.func3, Try.ntmps3
  go_wp2_with fail
  refine (hO.make B HB.out _).mono ?_
  rintro e w1 ⟨v1, F, rfl, hI, hF, hb⟩
  obtain ⟨a1, rfl⟩ := hO.base.ptr hI
  have M0 : ObjIn Inv w F (.pointer (some a1)) (B, 0) w1 := ⟨hI, hF, hb⟩
  clear hI hF hb
  go_wp2_with fail
  refine (rmmake B HB.out _).mono ?_
  rintro e w2 ⟨v2, G, rfl, hI, hG, hb⟩
  have hbx : ∃ bx, v2 = .pointer (some ⟨bx, 0, none⟩) := by
    obtain ⟨bx, e, _⟩ := hI
    exact ⟨bx, e⟩
  obtain ⟨bx, rfl⟩ := hbx
  have M : Duo Inv RMInv w F (.pointer (some a1)) (B, 0) G (.pointer (some ⟨bx, 0, none⟩)) (B, 0) w2 := M0.duo hO.base hI hG hb
  clear hI hG hb M0
  go_wp2_with fail
  go_loopw [11] (fun i wr => ∃ (k n : Nat) (F G : Nat → Prop), k ≤ m2 ∧ n ≤ 100 ∧ i = .int .i64 (k : Int) ∧ Duo Inv RMInv w F (.pointer (some a1)) (B, n) G (.pointer (some ⟨bx, 0, none⟩)) (B, n) wr) (fun i _ => m2 - (intOf i).toNat)
  case atStart => exact ⟨0, 0, F, G, by omega, by omega, rfl, M⟩
  case round =>
    clear M F G
    obtain ⟨k, n, F, G, hk, hn, rfl, M⟩ := hrel
    by_cases hlt : k < m2
    · obtain ⟨b2, o2, rfl, hb2, hc2⟩ := int_at s2 hlt
      have hs2 : wr.cell? ⟨b2, o2 + k, none⟩ = some (.int .i64 (L2.getD k default)) := (M.hB.cell (p := ⟨b2, o2 + k, none⟩) hb2).trans hc2
      generalize L2.getD k default = s at *
      have HC2 := hide' hc2
      clear hc2
      have hlt' : (k : Int) < m2 := by omega
      by_cases h0 : 0 < m1
      · have h0' : (0 : Int) < m1 := by omega
        obtain ⟨r, hr, hmod⟩ : ∃ r : Nat, r < m1 ∧ k % m1 = r := ⟨_, Nat.mod_lt _ h0, rfl⟩
        obtain ⟨b1, o1, rfl, hb1, hc1⟩ := u32_at s1 (i := k % m1) (Nat.mod_lt _ h0)
        rw [hmod] at hc1
        have hs1 : wr.cell? ⟨b1, o1 + r, none⟩ = some (.int .u32 (L1.getD r default)) := (M.hB.cell (p := ⟨b1, o1 + r, none⟩) hb1).trans hc1
        generalize L1.getD r default = ep at *
        clear hc1
        have hmodi : (k : Int) % (m1 : Int) = (r : Int) := by omega
        have HM := hide' hmod
        clear hmod
        go_wp2_with fail
        obtain ⟨⟨va, vb, vc, ve, n'⟩, hV⟩ : ∃ V, NxtV B n ep s = V := ⟨_, rfl⟩
        have hn' : n' ≤ 100 := by
          have := nxt_le (B := B) (ep := ep) (s := s) hn
          rw [hV] at this
          exact this
        refine (nnxt hO F _ B n ep s HB.out hn hV _ M.one).mono ?_
        rintro e w3 ⟨F2, rfl, hK⟩
        replace M := M.o1 rmbase hK
        clear hK hs2
        have bP := CBox.new 34 w3 #[.int .u32 va, .int .u32 vb, .int .u64 vc]
        have hnP := M.new hO.base rmbase
        have hb : Below w3.heap.size w3 (w3.alloc (.cells #[.int .u32 va, .int .u32 vb, .int .u64 vc] 34)) := (Below.refl _ _).alloc (Nat.le_refl _) _
        replace M := M.quiet hO.base rmbase hb
        clear hb
        have hs2 := (M.hB.cell (p := ⟨b2, o2 + k, none⟩) hb2).trans HC2.out
        go_wp2_with fail
        refine (rnxt G _ B n ep s HB.out hn hV _ M.two).mono ?_
        rintro e w4 ⟨G2, rfl, hK⟩
        replace M := M.o2 hO.base hK
        replace bP := bP.off hK.off hnP.2.1
        clear hK hs2
        have hbX : CBox 41 w4 bx #[.int .u64 (B : Int), .int .i64 (n' : Int)] ∧ ¬ F2 bx := by
          obtain ⟨b, e, h, hg⟩ := M.two
          obtain rfl : bx = b := by simpa using e
          exact ⟨h, fun hf => M.dis bx hf ((hg bx).2 rfl)⟩
        obtain ⟨bX, hnX⟩ := hbX
        generalize w3.heap.size = P at *
        generalize w3.alloc (.cells #[.int .u32 va, .int .u32 vb, .int .u64 vc] 34) = w3' at *
        have hnQ := M.new hO.base rmbase
        have bQ := CBox.new 34 w4 #[.int .u32 va, .int .u32 vb, .int .u64 vc]
        have hb : Below w4.heap.size w4 (w4.alloc (.cells #[.int .u32 va, .int .u32 vb, .int .u64 vc] 34)) := (Below.refl _ _).alloc (Nat.le_refl _) _
        replace M := M.quiet hO.base rmbase hb
        replace bP := bP.grown hb
        replace bX := bX.grown hb
        clear hb
        go_wp2_with fail
        generalize w4.heap.size = Q at *
        generalize w4.alloc (.cells #[.int .u32 va, .int .u32 vb, .int .u64 vc] 34) = wr at *
        refine wp_region_held_drew (S := fun w' => Off F2 wr w') (by kernel_rfl) (Off.refl _ _).drew (fun hHeld => ?_)
        refine takeL 0 85 (v := ?_) rfl rfl (by kernel_rfl) (by kernel_rfl) (by kernel_rfl) (fun _ _ _ h => h) (by rfl) hHeld (fun w hSw => ?_) ?_
        rotate_left 1
        · (try dsimp only at hSw)
          have e0_ := (bP.off hSw hnP.1).cell 0
          have e1_ := (bP.off hSw hnP.1).cell 1
          have e2_ := (bP.off hSw hnP.1).cell 2
          clear hSw
          go_simp
          try with_reducible rfl
        simp only [List.set_cons_succ, List.set_cons_zero]
        refine takeL 1 86 (v := ?_) rfl rfl (by kernel_rfl) (by kernel_rfl) (by kernel_rfl) (fun _ _ _ h => h) (by rfl) hHeld (fun w hSw => ?_) ?_
        rotate_left 1
        · (try dsimp only at hSw)
          have e0_ := (bQ.off hSw hnQ.1).cell 0
          have e1_ := (bQ.off hSw hnQ.1).cell 1
          have e2_ := (bQ.off hSw hnQ.1).cell 2
          clear hSw
          go_simp
          try with_reducible rfl
        simp only [List.set_cons_succ, List.set_cons_zero]
        refine takeL 2 87 (v := .bool false) rfl rfl (by kernel_rfl) (by kernel_rfl) (by kernel_rfl) (fun _ _ _ h => h) (by rfl) hHeld (fun w hSw => ?_) ?_
        · clear hSw
          go_simp
        simp only [List.set_cons_succ, List.set_cons_zero]
        refine takeM 3 88 87 rfl rfl rfl (by kernel_rfl) (by kernel_rfl) (by kernel_rfl) (fun _ _ _ h => h) (by rfl) hHeld rfl ?_
        simp only [List.set_cons_succ, List.set_cons_zero]
        refine takeM 4 89 14 rfl rfl rfl (by kernel_rfl) (by kernel_rfl) (by kernel_rfl) (fun _ _ _ h => h) (by rfl) hHeld rfl ?_
        simp only [List.set_cons_succ, List.set_cons_zero]
        refine takeM 5 90 16 rfl rfl rfl (by kernel_rfl) (by kernel_rfl) (by kernel_rfl) (fun _ _ _ h => h) (by rfl) hHeld rfl ?_
        simp only [List.set_cons_succ, List.set_cons_zero]
        refine takeL 6 91 (v := .bool false) rfl rfl (by kernel_rfl) (by kernel_rfl) (by kernel_rfl) (fun _ _ _ h => h) (by rfl) hHeld (fun w hSw => ?_) ?_
        · clear hSw
          go_simp
        simp only [List.set_cons_succ, List.set_cons_zero]
        refine takeL 7 92 (v := ?_) rfl rfl (by kernel_rfl) (by kernel_rfl) (by kernel_rfl) (fun _ _ _ h => h) (by rfl) hHeld (fun w hSw => ?_) ?_
        rotate_left 1
        · (try dsimp only at hSw)
          clear hSw
          go_simp
          try with_reducible rfl
        simp only [List.set_cons_succ, List.set_cons_zero]
        refine takeM 8 93 92 rfl rfl rfl (by kernel_rfl) (by kernel_rfl) (by kernel_rfl) (fun _ _ _ h => h) (by rfl) hHeld rfl ?_
        simp only [List.set_cons_succ, List.set_cons_zero]
        refine takeM 9 94 7 rfl rfl rfl (by kernel_rfl) (by kernel_rfl) (by kernel_rfl) (fun _ _ _ h => h) (by rfl) hHeld rfl ?_
        simp only [List.set_cons_succ, List.set_cons_zero]
        refine takeM 11 96 9 rfl rfl rfl (by kernel_rfl) (by kernel_rfl) (by kernel_rfl) (fun _ _ _ h => h) (by rfl) hHeld rfl ?_
        simp only [List.set_cons_succ, List.set_cons_zero]
        refine takeL 12 97 (v := ?_) rfl rfl (by kernel_rfl) (by kernel_rfl) (by kernel_rfl) (fun _ _ _ h => h) (by rfl) hHeld (fun w hSw => ?_) ?_
        rotate_left 1
        · (try dsimp only at hSw)
          clear hSw
          go_simp
          try with_reducible rfl
        simp only [List.set_cons_succ, List.set_cons_zero]
        refine takeL 13 98 (v := ?_) rfl rfl (by kernel_rfl) (by kernel_rfl) (by kernel_rfl) (fun _ _ _ h => h) (by rfl) hHeld (fun w hSw => ?_) ?_
        rotate_left 1
        · (try dsimp only at hSw)
          clear hSw
          go_simp
          try with_reducible rfl
        simp only [List.set_cons_succ, List.set_cons_zero]
        refine takeL 14 99 (v := ?_) rfl rfl (by kernel_rfl) (by kernel_rfl) (by kernel_rfl) (fun _ _ _ h => h) (by rfl) hHeld (fun w hSw => ?_) ?_
        rotate_left 1
        · (try dsimp only at hSw)
          have e0_ := (bX.off hSw hnX).cell 1
          clear hSw
          go_simp
          try with_reducible rfl
        simp only [List.set_cons_succ, List.set_cons_zero]
        refine takeL 15 100 (v := ?_) rfl rfl (by kernel_rfl) (by kernel_rfl) (by kernel_rfl) (fun _ _ _ h => h) (by rfl) hHeld (fun w hSw => ?_) ?_
        rotate_left 1
        · (try dsimp only at hSw)
          clear hSw
          go_simp
          try with_reducible rfl
        simp only [List.set_cons_succ, List.set_cons_zero]
        refine onlyL 10 rfl (by kernel_rfl) (by rfl) (fun K hK => ?_)
        go_wp2_with fail
        refine (hO.left F2 _ B n' hn' _ (M.quiet hO.base rmbase (Below.refl _ _).drew).one).mono ?_
        rintro e w5 ⟨F3, rfl, hK2⟩
        replace M := (M.quiet hO.base rmbase (Below.refl _ _).drew).o1 rmbase hK2
        have hoff5 : Off F2 wr w5 := hHeld.trans hK2.off (fun _ h => Or.inl h)
        clear hK2 bP bQ bX hnX hnP hnQ hHeld
        refine hK.out _ _ hoff5 (fun hHeld => ?_)
        clear hK K
        refine takeL 16 101 (v := .bool false) rfl rfl (by kernel_rfl) (by kernel_rfl) (by kernel_rfl) (fun _ _ _ h => h) (by rfl) hHeld (fun w hSw => ?_) ?_
        · clear hSw
          go_simp
        simp only [List.set_cons_succ, List.set_cons_zero]
        refine takeL 17 102 (v := .bool false) rfl rfl (by kernel_rfl) (by kernel_rfl) (by kernel_rfl) (fun _ _ _ h => h) (by rfl) hHeld (fun w hSw => ?_) ?_
        · clear hSw
          go_simp
        simp only [List.set_cons_succ, List.set_cons_zero]
        refine wpAnyH_done (by kernel_rfl) ?_ _
        go_wp2
        go_roundw
        case rel => exact ⟨k + 1, n', F3, G2, by omega, hn', by go_num, M⟩
        case measure => simp [intOf]; omega
      · have h0' : ¬ (0 : Int) < m1 := by omega
        go_wp2_with fail
        obtain ⟨⟨va, vb, vc, ve, n'⟩, hV⟩ : ∃ V, NxtV B n 0 s = V := ⟨_, rfl⟩
        have hn' : n' ≤ 100 := by
          have := nxt_le (B := B) (ep := 0) (s := s) hn
          rw [hV] at this
          exact this
        refine (nnxt hO F _ B n 0 s HB.out hn hV _ M.one).mono ?_
        rintro e w3 ⟨F2, rfl, hK⟩
        replace M := M.o1 rmbase hK
        clear hK hs2
        have bP := CBox.new 34 w3 #[.int .u32 va, .int .u32 vb, .int .u64 vc]
        have hnP := M.new hO.base rmbase
        have hb : Below w3.heap.size w3 (w3.alloc (.cells #[.int .u32 va, .int .u32 vb, .int .u64 vc] 34)) := (Below.refl _ _).alloc (Nat.le_refl _) _
        replace M := M.quiet hO.base rmbase hb
        clear hb
        have hs2 := (M.hB.cell (p := ⟨b2, o2 + k, none⟩) hb2).trans HC2.out
        go_wp2_with fail
        refine (rnxt G _ B n 0 s HB.out hn hV _ M.two).mono ?_
        rintro e w4 ⟨G2, rfl, hK⟩
        replace M := M.o2 hO.base hK
        replace bP := bP.off hK.off hnP.2.1
        clear hK hs2
        have hbX : CBox 41 w4 bx #[.int .u64 (B : Int), .int .i64 (n' : Int)] ∧ ¬ F2 bx := by
          obtain ⟨b, e, h, hg⟩ := M.two
          obtain rfl : bx = b := by simpa using e
          exact ⟨h, fun hf => M.dis bx hf ((hg bx).2 rfl)⟩
        obtain ⟨bX, hnX⟩ := hbX
        generalize w3.heap.size = P at *
        generalize w3.alloc (.cells #[.int .u32 va, .int .u32 vb, .int .u64 vc] 34) = w3' at *
        have hnQ := M.new hO.base rmbase
        have bQ := CBox.new 34 w4 #[.int .u32 va, .int .u32 vb, .int .u64 vc]
        have hb : Below w4.heap.size w4 (w4.alloc (.cells #[.int .u32 va, .int .u32 vb, .int .u64 vc] 34)) := (Below.refl _ _).alloc (Nat.le_refl _) _
        replace M := M.quiet hO.base rmbase hb
        replace bP := bP.grown hb
        replace bX := bX.grown hb
        clear hb
        go_wp2_with fail
        generalize w4.heap.size = Q at *
        generalize w4.alloc (.cells #[.int .u32 va, .int .u32 vb, .int .u64 vc] 34) = wr at *
        refine wp_region_held_drew (S := fun w' => Off F2 wr w') (by kernel_rfl) (Off.refl _ _).drew (fun hHeld => ?_)
        refine takeL 0 85 (v := ?_) rfl rfl (by kernel_rfl) (by kernel_rfl) (by kernel_rfl) (fun _ _ _ h => h) (by rfl) hHeld (fun w hSw => ?_) ?_
        rotate_left 1
        · (try dsimp only at hSw)
          have e0_ := (bP.off hSw hnP.1).cell 0
          have e1_ := (bP.off hSw hnP.1).cell 1
          have e2_ := (bP.off hSw hnP.1).cell 2
          clear hSw
          go_simp
          try with_reducible rfl
        simp only [List.set_cons_succ, List.set_cons_zero]
        refine takeL 1 86 (v := ?_) rfl rfl (by kernel_rfl) (by kernel_rfl) (by kernel_rfl) (fun _ _ _ h => h) (by rfl) hHeld (fun w hSw => ?_) ?_
        rotate_left 1
        · (try dsimp only at hSw)
          have e0_ := (bQ.off hSw hnQ.1).cell 0
          have e1_ := (bQ.off hSw hnQ.1).cell 1
          have e2_ := (bQ.off hSw hnQ.1).cell 2
          clear hSw
          go_simp
          try with_reducible rfl
        simp only [List.set_cons_succ, List.set_cons_zero]
        refine takeL 2 87 (v := .bool false) rfl rfl (by kernel_rfl) (by kernel_rfl) (by kernel_rfl) (fun _ _ _ h => h) (by rfl) hHeld (fun w hSw => ?_) ?_
        · clear hSw
          go_simp
        simp only [List.set_cons_succ, List.set_cons_zero]
        refine takeM 3 88 87 rfl rfl rfl (by kernel_rfl) (by kernel_rfl) (by kernel_rfl) (fun _ _ _ h => h) (by rfl) hHeld rfl ?_
        simp only [List.set_cons_succ, List.set_cons_zero]
        refine takeM 4 89 14 rfl rfl rfl (by kernel_rfl) (by kernel_rfl) (by kernel_rfl) (fun _ _ _ h => h) (by rfl) hHeld rfl ?_
        simp only [List.set_cons_succ, List.set_cons_zero]
        refine takeM 5 90 16 rfl rfl rfl (by kernel_rfl) (by kernel_rfl) (by kernel_rfl) (fun _ _ _ h => h) (by rfl) hHeld rfl ?_
        simp only [List.set_cons_succ, List.set_cons_zero]
        refine takeL 6 91 (v := .bool false) rfl rfl (by kernel_rfl) (by kernel_rfl) (by kernel_rfl) (fun _ _ _ h => h) (by rfl) hHeld (fun w hSw => ?_) ?_
        · clear hSw
          go_simp
        simp only [List.set_cons_succ, List.set_cons_zero]
        refine takeL 7 92 (v := ?_) rfl rfl (by kernel_rfl) (by kernel_rfl) (by kernel_rfl) (fun _ _ _ h => h) (by rfl) hHeld (fun w hSw => ?_) ?_
        rotate_left 1
        · (try dsimp only at hSw)
          clear hSw
          go_simp
          try with_reducible rfl
        simp only [List.set_cons_succ, List.set_cons_zero]
        refine takeM 8 93 92 rfl rfl rfl (by kernel_rfl) (by kernel_rfl) (by kernel_rfl) (fun _ _ _ h => h) (by rfl) hHeld rfl ?_
        simp only [List.set_cons_succ, List.set_cons_zero]
        refine takeM 9 94 7 rfl rfl rfl (by kernel_rfl) (by kernel_rfl) (by kernel_rfl) (fun _ _ _ h => h) (by rfl) hHeld rfl ?_
        simp only [List.set_cons_succ, List.set_cons_zero]
        refine takeM 11 96 9 rfl rfl rfl (by kernel_rfl) (by kernel_rfl) (by kernel_rfl) (fun _ _ _ h => h) (by rfl) hHeld rfl ?_
        simp only [List.set_cons_succ, List.set_cons_zero]
        refine takeL 12 97 (v := ?_) rfl rfl (by kernel_rfl) (by kernel_rfl) (by kernel_rfl) (fun _ _ _ h => h) (by rfl) hHeld (fun w hSw => ?_) ?_
        rotate_left 1
        · (try dsimp only at hSw)
          clear hSw
          go_simp
          try with_reducible rfl
        simp only [List.set_cons_succ, List.set_cons_zero]
        refine takeL 13 98 (v := ?_) rfl rfl (by kernel_rfl) (by kernel_rfl) (by kernel_rfl) (fun _ _ _ h => h) (by rfl) hHeld (fun w hSw => ?_) ?_
        rotate_left 1
        · (try dsimp only at hSw)
          clear hSw
          go_simp
          try with_reducible rfl
        simp only [List.set_cons_succ, List.set_cons_zero]
        refine takeL 14 99 (v := ?_) rfl rfl (by kernel_rfl) (by kernel_rfl) (by kernel_rfl) (fun _ _ _ h => h) (by rfl) hHeld (fun w hSw => ?_) ?_
        rotate_left 1
        · (try dsimp only at hSw)
          have e0_ := (bX.off hSw hnX).cell 1
          clear hSw
          go_simp
          try with_reducible rfl
        simp only [List.set_cons_succ, List.set_cons_zero]
        refine takeL 15 100 (v := ?_) rfl rfl (by kernel_rfl) (by kernel_rfl) (by kernel_rfl) (fun _ _ _ h => h) (by rfl) hHeld (fun w hSw => ?_) ?_
        rotate_left 1
        · (try dsimp only at hSw)
          clear hSw
          go_simp
          try with_reducible rfl
        simp only [List.set_cons_succ, List.set_cons_zero]
        refine onlyL 10 rfl (by kernel_rfl) (by rfl) (fun K hK => ?_)
        go_wp2_with fail
        refine (hO.left F2 _ B n' hn' _ (M.quiet hO.base rmbase (Below.refl _ _).drew).one).mono ?_
        rintro e w5 ⟨F3, rfl, hK2⟩
        replace M := (M.quiet hO.base rmbase (Below.refl _ _).drew).o1 rmbase hK2
        have hoff5 : Off F2 wr w5 := hHeld.trans hK2.off (fun _ h => Or.inl h)
        clear hK2 bP bQ bX hnX hnP hnQ hHeld
        refine hK.out _ _ hoff5 (fun hHeld => ?_)
        clear hK K
        refine takeL 16 101 (v := .bool false) rfl rfl (by kernel_rfl) (by kernel_rfl) (by kernel_rfl) (fun _ _ _ h => h) (by rfl) hHeld (fun w hSw => ?_) ?_
        · clear hSw
          go_simp
        simp only [List.set_cons_succ, List.set_cons_zero]
        refine takeL 17 102 (v := .bool false) rfl rfl (by kernel_rfl) (by kernel_rfl) (by kernel_rfl) (fun _ _ _ h => h) (by rfl) hHeld (fun w hSw => ?_) ?_
        · clear hSw
          go_simp
        simp only [List.set_cons_succ, List.set_cons_zero]
        refine wpAnyH_done (by kernel_rfl) ?_ _
        go_wp2
        go_roundw
        case rel => exact ⟨k + 1, n', F3, G2, by omega, hn', by go_num, M⟩
        case measure => simp [intOf]; omega
    · go_wp2_with fail
      refine (nknown hO _).mono ?_
      rintro e w5 ⟨rfl, hb⟩
      replace M := M.quiet hO.base rmbase hb
      go_wp2
      go_ret
      exact ⟨rfl, M.hB⟩
end Go.Proofs.Ytcplekodbgmneaa
