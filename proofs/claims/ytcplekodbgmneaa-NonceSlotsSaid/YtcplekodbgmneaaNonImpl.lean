/- The landed maker of numbers: a boot and how many are left, in a block of its own. -/
import Derived.Test.YtcplekodbgmneaaNonSaid
import Derived.Test.YtcplekodbgmneaaNonB
namespace Go.Proofs.Ytcplekodbgmneaa
open Go.RowKit
set_option maxRecDepth 20000

/-- A maker that was made. -/
def MInv (F : Nat → Prop) (w : World) (v : Value) (st : Nat × Nat) : Prop := ∃ b, v = .pointer (some ⟨b, 0, none⟩) ∧ CBox 51 w b #[.int .u64 (st.1 : Int), .int .i64 (100 - (st.2 : Int))] ∧ ∀ k, F k ↔ k = b
theorem mbase : ObjBase MInv := by
  refine ⟨?_, ?_, ?_⟩
  · rintro F w w' v st ⟨b, rfl, h, hF⟩ _ hb
    exact ⟨b, rfl, (hb b ((hF b).2 rfl)).trans h, hF⟩
  · rintro F w v st ⟨b, rfl, h, hF⟩ k hk
    rw [(hF k).1 hk]
    exact h.lt
  · rintro F w v st ⟨b, rfl, h, hF⟩
    exact ⟨_, rfl⟩
theorem mmake (B : Nat) (hB : B < 4294967296) (w : World) : Calls Try.prog 7 #[.int .u64 (B : Int)] w fun e w' => ∃ v F, e = .returned (.tuple #[v, .int .i64 0]) ∧ MInv F w' v (B, 0) ∧ (∀ k, F k → w.heap.size ≤ k) ∧ Below w.heap.size w w' := by
  have hb : ¬ (4294967296 : Int) ≤ B := by omega
  have hN := CBox.new 51 w #[.int .u64 (B : Int), .int .i64 100]
  have hA : Below w.heap.size w (w.alloc (.cells #[.int .u64 (B : Int), .int .i64 100] 51)) := (Below.refl _ _).alloc (Nat.le_refl _) _
  go_enter Try.func7, Try.ntmps7
  go_wp2
  go_ret2
  exact ⟨_, rfl, fun k => k = w.heap.size, ⟨w.heap.size, rfl, hN, fun _ => Iff.rfl⟩, fun k hk => hk ▸ Nat.le_refl _, hA⟩
theorem mmakeNo (B : Nat) (hB : 4294967296 ≤ B) (w : World) : Calls Try.prog 7 #[.int .u64 (B : Int)] w fun e w' => e = .returned (.tuple #[.pointer none, .int .i64 1]) ∧ Below w.heap.size w w' := by
  have hb : (4294967296 : Int) ≤ B := by omega
  go_enter Try.func7, Try.ntmps7
  go_wp2
  go_ret2
  exact ⟨rfl, Below.refl _ _⟩
theorem mleftB (b : Nat) (B l : Int) (w : World) (h : CBox 51 w b #[.int .u64 B, .int .i64 l]) : Calls Try.prog 11 #[.pointer (some ⟨b, 0, none⟩)] w fun e w' => e = .returned (.int .i64 l) ∧ Below w.heap.size w w' := by
  have c1 := h.cell 1
  clear h
  go_enter Try.func11, Try.ntmps11
  go_wp2
  go_ret
  exact ⟨rfl, Below.refl _ _⟩
theorem mleft (F : Nat → Prop) (v : Value) (B n : Nat) (_hn : n ≤ 100) (w : World) (hI : MInv F w v (B, n)) : Calls Try.prog 11 #[v] w fun e w' => ∃ F', e = .returned (.int .i64 (100 - (n : Int))) ∧ KeptG MInv F w v F' w' (B, n) := by
  have hI0 := hI
  obtain ⟨b, rfl, h, hF⟩ := hI
  refine (mleftB b _ _ w h).mono ?_
  rintro e w' ⟨rfl, hb⟩
  exact ⟨F, rfl, mbase.kept hI0 hb⟩
theorem mleftNil (w : World) : Calls Try.prog 11 #[.pointer none] w fun e w' => e = .returned (.int .i64 0) ∧ Below w.heap.size w w' := by
  go_enter Try.func11, Try.ntmps11
  go_wp2
  go_ret
  exact ⟨rfl, Below.refl _ _⟩
theorem mboot (a b : Int) (V : Nat) (_hV : V < 18446744073709551616) (w : World) : Calls Try.prog 13 #[.agg #[.int .u32 a, .int .u32 b, .int .u64 (V : Int)]] w fun e w' => e = .returned (.int .u64 ((V / 4294967296 : Nat) : Int)) ∧ Below w.heap.size w w' := by
  have hA : Below w.heap.size w (w.alloc (.cells #[.int .u32 a, .int .u32 b, .int .u64 (V : Int)] 34)) := (Below.refl _ _).alloc (Nat.le_refl _) _
  have c2 := (CBox.new 34 w #[.int .u32 a, .int .u32 b, .int .u64 (V : Int)]).cell 2
  go_enter Try.func13, Try.ntmps13
  go_wp2
  go_ret
  exact ⟨by go_num, hA⟩
set_option maxHeartbeats 1000000 in
theorem mnextArg (F : Nat → Prop) (v : Value) (B n : Nat) (ep s : Int) (hs : s < 0 ∨ 65535 < s) (w : World) (hI : MInv F w v (B, n)) :
    Calls Try.prog 9 #[v, .int .u32 ep, .int .i64 s] w fun e w' => ∃ F', e = .returned (.tuple #[.agg #[.int .u32 0, .int .u32 0, .int .u64 0], .int .i64 1]) ∧ KeptG MInv F w v F' w' (B, n) := by
  have hA : Below w.heap.size w (w.alloc (.cells #[.int .u32 0, .int .u32 0, .int .u64 0] 34)) := (Below.refl _ _).alloc (Nat.le_refl _) _
  have hs' : s < 0 ∨ ¬ s < 0 ∧ 65536 ≤ s := by omega
  rcases hs' with h1 | ⟨h1, h2⟩
  · go_enter Try.func9, Try.ntmps9
    go_wp2
    refine bodyPost_ret (v := .tuple #[.agg #[.int .u32 0, .int .u32 0, .int .u64 0], .int .i64 1]) (by simp [results, Try.results9, go_sem]) rfl (by first | exact ⟨rfl, F, mbase.kept hI (by go_grown)⟩ | exact ⟨F, rfl, mbase.kept hI (by go_grown)⟩)
  · go_enter Try.func9, Try.ntmps9
    go_wp2
    refine bodyPost_ret (v := .tuple #[.agg #[.int .u32 0, .int .u32 0, .int .u64 0], .int .i64 1]) (by simp [results, Try.results9, go_sem]) rfl (by first | exact ⟨rfl, F, mbase.kept hI (by go_grown)⟩ | exact ⟨F, rfl, mbase.kept hI (by go_grown)⟩)
theorem mnextNil (ep : Int) (s : Nat) (hs : s ≤ 65535) (w : World) : Calls Try.prog 9 #[.pointer none, .int .u32 ep, .int .i64 (s : Int)] w fun e w' => (∃ a b c, e = .returned (.tuple #[.agg #[.int .u32 a, .int .u32 b, .int .u64 c], .int .i64 6])) ∧ Below w.heap.size w w' := by
  have h1 : ¬ (s : Int) < 0 := by omega
  have h2 : ¬ (65536 : Int) ≤ s := by omega
  have hA : Below w.heap.size w (w.alloc (.cells #[.int .u32 0, .int .u32 0, .int .u64 0] 34)) := (Below.refl _ _).alloc (Nat.le_refl _) _
  have bN := CBox.new 34 w #[.int .u32 0, .int .u32 0, .int .u64 0]
  go_enter Try.func9, Try.ntmps9
  go_wp2_with fail
  refine (mleftNil _).mono ?_
  rintro e w1 ⟨rfl, hb⟩
  replace bN := bN.grown hb
  replace hA := hA.trans (hb.mono hA.size)
  have f0 := bN.frozen 0
  have f1 := bN.frozen 1
  have f2 := bN.frozen 2
  have d0 := bN.cell 0
  have d1 := bN.cell 1
  have d2 := bN.cell 2
  have HBN := hide' bN
  clear bN
  go_wp2
  have bM := ((HBN.out.put 0 (.int .u32 0)).put 1 (.int .u32 0)).put 2 (.int .u64 0)
  have k0 := bM.cell 0
  have k1 := bM.cell 1
  have k2 := bM.cell 2
  refine bodyPost_ret (v := .tuple #[.agg #[.int .u32 0, .int .u32 0, .int .u64 0], .int .i64 6]) (by simp [results, Try.results9, go_sem, k0, k1, k2]) rfl ⟨⟨_, _, _, rfl⟩, ?_⟩
  exact ((hA.setCell (Nat.le_refl _) _).setCell (Nat.le_refl _) _).setCell (Nat.le_refl _) _
theorem mnextEnd (F : Nat → Prop) (v : Value) (B : Nat) (ep : Int) (s : Nat) (hs : s ≤ 65535) (w : World) (hI : MInv F w v (B, 100)) :
    Calls Try.prog 9 #[v, .int .u32 ep, .int .i64 (s : Int)] w fun e w' => ∃ F', e = .returned (.tuple #[.agg #[.int .u32 0, .int .u32 0, .int .u64 0], .int .i64 6]) ∧ KeptG MInv F w v F' w' (B, 100) := by
  have h1 : ¬ (s : Int) < 0 := by omega
  have h2 : ¬ (65536 : Int) ≤ s := by omega
  have hI0 := hI
  obtain ⟨b, rfl, h, hF⟩ := hI
  have hl := h.lt
  have hA : Below w.heap.size w (w.alloc (.cells #[.int .u32 0, .int .u32 0, .int .u64 0] 34)) := (Below.refl _ _).alloc (Nat.le_refl _) _
  have bN := CBox.new 34 w #[.int .u32 0, .int .u32 0, .int .u64 0]
  replace h : CBox 51 w b #[.int .u64 (B : Int), .int .i64 0] := h
  replace h := h.grown hA
  have HF := hide' hF
  clear hF
  go_enter Try.func9, Try.ntmps9
  go_wp2_with fail
  refine (mleftB b B 0 _ h).mono ?_
  rintro e w1 ⟨rfl, hb⟩
  replace bN := bN.grown hb
  replace hA := hA.trans (hb.mono hA.size)
  have f0 := bN.frozen 0
  have f1 := bN.frozen 1
  have f2 := bN.frozen 2
  have d0 := bN.cell 0
  have d1 := bN.cell 1
  have d2 := bN.cell 2
  have HBN := hide' bN
  clear bN
  go_wp2
  have bM := ((HBN.out.put 0 (.int .u32 0)).put 1 (.int .u32 0)).put 2 (.int .u64 0)
  have k0 := bM.cell 0
  have k1 := bM.cell 1
  have k2 := bM.cell 2
  refine bodyPost_ret (v := .tuple #[.agg #[.int .u32 0, .int .u32 0, .int .u64 0], .int .i64 6]) (by simp [results, Try.results9, go_sem, k0, k1, k2]) rfl ?_
  have hL := ((hA.setCell (p := ⟨w.heap.size, 0, none⟩) (Nat.le_refl _) (.int .u32 0)).setCell (p := ⟨w.heap.size, 1, none⟩) (Nat.le_refl _) (.int .u32 0)).setCell (p := ⟨w.heap.size, 2, none⟩) (Nat.le_refl _) (.int .u64 0)
  first | exact ⟨rfl, F, mbase.kept hI0 hL⟩ | exact ⟨F, rfl, mbase.kept hI0 hL⟩
set_option maxHeartbeats 1000000 in
theorem mnext (F : Nat → Prop) (v : Value) (B n : Nat) (ep : Int) (s : Nat) (hB : B < 4294967296) (hn : n < 100) (hs : s ≤ 65535) (w : World) (hI : MInv F w v (B, n)) :
    Calls Try.prog 9 #[v, .int .u32 ep, .int .i64 (s : Int)] w fun e w' => ∃ F', e = .returned (.tuple #[.agg #[.int .u32 ep, .int .u32 (s : Int), .int .u64 ((B : Int) * 4294967296 + n + 1)], .int .i64 0]) ∧ KeptG MInv F w v F' w' (B, n + 1) := by
  have h1 : ¬ (s : Int) < 0 := by omega
  have h2 : ¬ (65536 : Int) ≤ s := by omega
  obtain ⟨b, rfl, h, hF⟩ := hI
  have hl := h.lt
  have hne : w.heap.size ≠ b := by omega
  have hA : Below w.heap.size w (w.alloc (.cells #[.int .u32 0, .int .u32 0, .int .u64 0] 34)) := (Below.refl _ _).alloc (Nat.le_refl _) _
  have bN := CBox.new 34 w #[.int .u32 0, .int .u32 0, .int .u64 0]
  obtain ⟨l, HL⟩ : ∃ l : Int, Hid (100 - (n : Int) = l) := ⟨_, rfl⟩
  obtain ⟨ver, HV⟩ : ∃ ver : Int, Hid ((B : Int) * 4294967296 + n + 1 = ver) := ⟨_, rfl⟩
  replace h : CBox 51 w b #[.int .u64 (B : Int), .int .i64 (100 - (n : Int))] := h
  rw [HL.out] at h
  rw [HV.out]
  replace h := h.grown hA
  have hl0 : ¬ l = 0 := by have := HL.out; omega
  have hw0 : IntKind.i64.wrap (l - 1) = l - 1 := by
    have := HL.out
    rw [IntKind.wrap_i64]
    omega
  have hw1 : IntKind.i64.wrap (100 - (l - 1)) = 100 - (l - 1) := by
    have := HL.out
    rw [IntKind.wrap_i64]
    omega
  have hw2 : IntKind.u64.wrap (100 - (l - 1)) = 100 - (l - 1) := by
    have := HL.out
    rw [IntKind.wrap_u64]
    omega
  have hw3 : IntKind.u64.wrap (IntKind.u64.wrap ((B : Int) * 4294967296) + (100 - (l - 1))) = ver := by
    have := HL.out
    have := HV.out
    rw [IntKind.wrap_u64, IntKind.wrap_u64]
    omega
  have hw4 : IntKind.u32.wrap (s : Int) = s := by
    rw [IntKind.wrap_u32]
    omega
  have HF := hide' hF
  have HB := hide' hB
  have HN := hide' hn
  clear hF hB hn
  go_enter Try.func9, Try.ntmps9
  go_wp2_with fail
  refine (mleftB b B l _ h).mono ?_
  rintro e w1 ⟨rfl, hb⟩
  replace bN := bN.grown hb
  replace h := h.grown hb
  replace hA := hA.trans (hb.mono hA.size)
  have g0 := h.cell 1
  have g1 := h.frozen 1
  have g2 := h.cell 0
  have f0 := bN.frozen 0
  have f1 := bN.frozen 1
  have f2 := bN.frozen 2
  have d0 := bN.cell 0
  have d1 := bN.cell 1
  have d2 := bN.cell 2
  have HBN := hide' bN
  have HH := hide' h
  replace hA := hide' hA
  clear hb h1 h2 bN h
  go_wp2
  have hh2 : CBox 51 (w1.setCell ⟨b, 1, none⟩ (.int .i64 (l - 1))) b #[.int .u64 (B : Int), .int .i64 (l - 1)] := HH.out.put 1 (.int .i64 (l - 1))
  have o1 : Off (fun k => k = b) w (w1.setCell ⟨b, 1, none⟩ (.int .i64 (l - 1))) := Off.setCell (F := fun k => k = b) (p := ⟨b, 1, none⟩) (Off.of_below hA.out) (Or.inl rfl) _
  have bN2 : CBox 34 (w1.setCell ⟨b, 1, none⟩ (.int .i64 (l - 1))) w.heap.size #[.int .u32 0, .int .u32 0, .int .u64 0] := (Below.heap_setCell w1 ⟨b, 1, none⟩ _ w.heap.size hne).trans HBN.out
  generalize w1.setCell ⟨b, 1, none⟩ (.int .i64 (l - 1)) = w2 at *
  have bM := ((bN2.put 0 (.int .u32 ep)).put 1 (.int .u32 (s : Int))).put 2 (.int .u64 ver)
  have k0 := bM.cell 0
  have k1 := bM.cell 1
  have k2 := bM.cell 2
  have o2 := ((o1.setCell (p := ⟨w.heap.size, 0, none⟩) (Or.inr (Nat.le_refl _)) (.int .u32 ep)).setCell (p := ⟨w.heap.size, 1, none⟩) (Or.inr (Nat.le_refl _)) (.int .u32 (s : Int))).setCell (p := ⟨w.heap.size, 2, none⟩) (Or.inr (Nat.le_refl _)) (.int .u64 ver)
  have o3 : Off (fun k => k = w.heap.size) w2 (((w2.setCell ⟨w.heap.size, 0, none⟩ (.int .u32 ep)).setCell ⟨w.heap.size, 1, none⟩ (.int .u32 (s : Int))).setCell ⟨w.heap.size, 2, none⟩ (.int .u64 ver)) := Off.setCell (F := fun k => k = w.heap.size) (p := ⟨w.heap.size, 2, none⟩) (Off.setCell (F := fun k => k = w.heap.size) (p := ⟨w.heap.size, 1, none⟩) (Off.setCell (F := fun k => k = w.heap.size) (p := ⟨w.heap.size, 0, none⟩) (Off.refl _ _) (Or.inl rfl) (.int .u32 ep)) (Or.inl rfl) (.int .u32 (s : Int))) (Or.inl rfl) (.int .u64 ver)
  have hh3 := hh2.off o3 (fun e => hne e.symm)
  refine bodyPost_ret (v := .tuple #[.agg #[.int .u32 ep, .int .u32 (s : Int), .int .u64 ver], .int .i64 0]) (by simp [results, Try.results9, go_sem, k0, k1, k2]) rfl ?_
  have hl2 : l - 1 = 100 - ((n + 1 : Nat) : Int) := by
    have := HL.out
    omega
  rw [hl2] at hh3
  have hK : KeptG MInv F w (.pointer (some ⟨b, 0, none⟩)) F (((w2.setCell ⟨w.heap.size, 0, none⟩ (.int .u32 ep)).setCell ⟨w.heap.size, 1, none⟩ (.int .u32 (s : Int))).setCell ⟨w.heap.size, 2, none⟩ (.int .u64 ver)) (B, n + 1) :=
    ⟨⟨b, rfl, hh3, HF.out⟩, fun _ h => Or.inl h, o2.mono (fun k hk => Or.inl ((HF.out k).2 hk))⟩
  first | exact ⟨rfl, F, hK⟩ | exact ⟨F, rfl, hK⟩
/-- The program's maker is what the statements ask. -/
theorem mk_is : MkIs MInv where
  base := mbase
  make := mmake
  makeNo := mmakeNo
  next := mnext
  nextArg := mnextArg
  nextEnd := mnextEnd
  left := mleft
  nextNil := mnextNil
  leftNil := mleftNil
  boot := mboot
end Go.Proofs.Ytcplekodbgmneaa
