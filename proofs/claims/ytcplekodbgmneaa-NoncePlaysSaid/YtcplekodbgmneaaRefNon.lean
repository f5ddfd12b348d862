/- The document's maker of numbers. -/
import Derived.Test.YtcplekodbgmneaaNonSaid
import Derived.Test.YtcplekodbgmneaaNonB
import Derived.Test.YtcplekodbgmneaaRegion
namespace Go.Proofs.Ytcplekodbgmneaa
open Go.RowKit
set_option maxRecDepth 20000

def RMInv (F : Nat → Prop) (w : World) (v : Value) (st : Nat × Nat) : Prop := ∃ b, v = .pointer (some ⟨b, 0, none⟩) ∧ CBox 41 w b #[.int .u64 (st.1 : Int), .int .i64 (st.2 : Int)] ∧ ∀ k, F k ↔ k = b
theorem rmbase : ObjBase RMInv := by
  refine ⟨?_, ?_, ?_⟩
  · rintro F w w' v st ⟨b, rfl, h, hF⟩ _ hb
    exact ⟨b, rfl, (hb b ((hF b).2 rfl)).trans h, hF⟩
  · rintro F w v st ⟨b, rfl, h, hF⟩ k hk
    rw [(hF k).1 hk]
    exact h.lt
  · rintro F w v st ⟨b, rfl, h, hF⟩
    exact ⟨_, rfl⟩
theorem rmmake (B : Nat) (hB : B < 4294967296) (w : World) : Calls Try.prog 8 #[.int .u64 (B : Int)] w fun e w' => ∃ v F, e = .returned (.tuple #[v, .int .i64 0]) ∧ RMInv F w' v (B, 0) ∧ (∀ k, F k → w.heap.size ≤ k) ∧ Below w.heap.size w w' := by
  have hb : ¬ (4294967296 : Int) ≤ B := by omega
  have hN := CBox.new 41 w #[.int .u64 (B : Int), .int .i64 0]
  have hA : Below w.heap.size w (w.alloc (.cells #[.int .u64 (B : Int), .int .i64 0] 41)) := (Below.refl _ _).alloc (Nat.le_refl _) _
  go_enter Try.func8, Try.ntmps8
  go_wp2
  go_ret2
  exact ⟨_, rfl, fun k => k = w.heap.size, ⟨w.heap.size, rfl, hN, fun _ => Iff.rfl⟩, fun k hk => hk ▸ Nat.le_refl _, hA⟩
theorem rmmakeNo (B : Nat) (hB : 4294967296 ≤ B) (w : World) : Calls Try.prog 8 #[.int .u64 (B : Int)] w fun e w' => e = .returned (.tuple #[.pointer none, .int .i64 1]) ∧ Below w.heap.size w w' := by
  have hb : (4294967296 : Int) ≤ B := by omega
  go_enter Try.func8, Try.ntmps8
  go_wp2
  go_ret2
  exact ⟨rfl, Below.refl _ _⟩
set_option maxHeartbeats 1000000 in
theorem rmnextArg (F : Nat → Prop) (v : Value) (B n : Nat) (ep s : Int) (hs : s < 0 ∨ 65535 < s) (w : World) (hI : RMInv F w v (B, n)) :
    Calls Try.prog 10 #[v, .int .u32 ep, .int .i64 s] w fun e w' => ∃ F', e = .returned (.tuple #[.agg #[.int .u32 0, .int .u32 0, .int .u64 0], .int .i64 1]) ∧ KeptG RMInv F w v F' w' (B, n) := by
  have hA : Below w.heap.size w (w.alloc (.cells #[.int .u32 0, .int .u32 0, .int .u64 0] 34)) := (Below.refl _ _).alloc (Nat.le_refl _) _
  have hs' : s < 0 ∨ ¬ s < 0 ∧ 65535 < s := by omega
  rcases hs' with h1 | ⟨h1, h2⟩
  · go_enter Try.func10, Try.ntmps10
    go_wp2
    refine bodyPost_ret (v := .tuple #[.agg #[.int .u32 0, .int .u32 0, .int .u64 0], .int .i64 1]) (by simp [results, Try.results10, go_sem]) rfl (by first | exact ⟨rfl, F, rmbase.kept hI (by go_grown)⟩ | exact ⟨F, rfl, rmbase.kept hI (by go_grown)⟩)
  · go_enter Try.func10, Try.ntmps10
    go_wp2
    refine bodyPost_ret (v := .tuple #[.agg #[.int .u32 0, .int .u32 0, .int .u64 0], .int .i64 1]) (by simp [results, Try.results10, go_sem]) rfl (by first | exact ⟨rfl, F, rmbase.kept hI (by go_grown)⟩ | exact ⟨F, rfl, rmbase.kept hI (by go_grown)⟩)
set_option maxHeartbeats 1000000 in
theorem rmnextEnd (F : Nat → Prop) (v : Value) (B : Nat) (ep : Int) (s : Nat) (hs : s ≤ 65535) (w : World) (hI : RMInv F w v (B, 100)) :
    Calls Try.prog 10 #[v, .int .u32 ep, .int .i64 (s : Int)] w fun e w' => ∃ F', e = .returned (.tuple #[.agg #[.int .u32 0, .int .u32 0, .int .u64 0], .int .i64 6]) ∧ KeptG RMInv F w v F' w' (B, 100) := by
  have h1 : ¬ (s : Int) < 0 := by omega
  have h2 : ¬ (65535 : Int) < s := by omega
  have hI0 := hide' hI
  obtain ⟨b, rfl, h, hF⟩ := hI
  have hl := h.lt
  have hne : w.heap.size ≠ b := by omega
  have hA : Below w.heap.size w (w.alloc (.cells #[.int .u32 0, .int .u32 0, .int .u64 0] 34)) := (Below.refl _ _).alloc (Nat.le_refl _) _
  have bN := CBox.new 34 w #[.int .u32 0, .int .u32 0, .int .u64 0]
  replace h : CBox 41 w b #[.int .u64 (B : Int), .int .i64 100] := h
  have c1 := h.cell 1
  have HF := hide' hF
  clear hF h
  replace hA := hide' hA
  clear bN
  go_enter Try.func10, Try.ntmps10
  go_wp2
  refine bodyPost_ret (v := .tuple #[.agg #[.int .u32 0, .int .u32 0, .int .u64 0], .int .i64 6]) (by simp [results, Try.results10, go_sem]) rfl (by first | exact ⟨rfl, F, rmbase.kept hI0.out (by go_grown)⟩ | exact ⟨F, rfl, rmbase.kept hI0.out (by go_grown)⟩)
theorem or_boot (B n : Nat) (hB : B < 4294967296) (hn : n < 4294967296) : bits .or .u64 ((B : Int) * 4294967296) (n : Int) = (B : Int) * 4294967296 + n := by
  have h := u64_or_nat (B * 4294967296) n (by omega) (by omega)
  rw [Int.natCast_mul] at h
  have h2 : B * 4294967296 ||| n = B * 4294967296 + n := by
    have := Nat.shiftLeft_add_eq_or_of_lt (a := B) (b := n) (i := 32) (by omega)
    rw [Nat.shiftLeft_eq] at this
    exact this.symm
  rw [h2] at h
  exact h
set_option maxHeartbeats 1000000 in
theorem rmnext (F : Nat → Prop) (v : Value) (B n : Nat) (ep : Int) (s : Nat) (hB : B < 4294967296) (hn : n < 100) (hs : s ≤ 65535) (w : World) (hI : RMInv F w v (B, n)) :
    Calls Try.prog 10 #[v, .int .u32 ep, .int .i64 (s : Int)] w fun e w' => ∃ F', e = .returned (.tuple #[.agg #[.int .u32 ep, .int .u32 (s : Int), .int .u64 ((B : Int) * 4294967296 + n + 1)], .int .i64 0]) ∧ KeptG RMInv F w v F' w' (B, n + 1) := by
  have h1 : ¬ (s : Int) < 0 := by omega
  have h2 : ¬ (65535 : Int) < s := by omega
  obtain ⟨b, rfl, h, hF⟩ := hI
  have hl := h.lt
  have hne : w.heap.size ≠ b := by omega
  have hA : Below w.heap.size w (w.alloc (.cells #[.int .u32 0, .int .u32 0, .int .u64 0] 34)) := (Below.refl _ _).alloc (Nat.le_refl _) _
  have bN := CBox.new 34 w #[.int .u32 0, .int .u32 0, .int .u64 0]
  obtain ⟨ver, HV⟩ : ∃ ver : Int, Hid ((B : Int) * 4294967296 + n + 1 = ver) := ⟨_, rfl⟩
  replace h : CBox 41 w b #[.int .u64 (B : Int), .int .i64 (n : Int)] := h
  rw [HV.out]
  have HH := hide' h
  clear h hA bN
  have hw0 : ¬ (100 : Int) ≤ n := by omega
  have hw1 : IntKind.i64.wrap ((n : Int) + 1) = n + 1 := by
    rw [IntKind.wrap_i64]
    omega
  have hw2 : IntKind.u64.wrap ((n : Int) + 1) = n + 1 := by
    rw [IntKind.wrap_u64]
    omega
  have hw3 : bits .or .u64 (IntKind.u64.wrap ((B : Int) * 4294967296)) ((n : Int) + 1) = ver := by
    have := HV.out
    rw [show IntKind.u64.wrap ((B : Int) * 4294967296) = (B : Int) * 4294967296 from by rw [IntKind.wrap_u64]; omega]
    have := or_boot B (n + 1) hB (by omega)
    rw [Int.natCast_add, Int.natCast_one] at this
    rw [this]
    omega
  have hw4 : IntKind.u32.wrap (s : Int) = s := by
    rw [IntKind.wrap_u32]
    omega
  have HF := hide' hF
  have HB := hide' hB
  have HN := hide' hn
  have g0 := HH.out.cell 1
  have g1 := HH.out.frozen 1
  clear hF hB hn
  go_enter Try.func10, Try.ntmps10
  go_wp2_with fail
  have hA2 : Below w.heap.size (w.setCell ⟨b, 1, none⟩ (.int .i64 ((n : Int) + 1))) ((w.setCell ⟨b, 1, none⟩ (.int .i64 ((n : Int) + 1))).alloc (.cells #[.int .u32 0, .int .u32 0, .int .u64 0] 34)) := (Below.refl _ _).alloc (by simp) _
  have h2 : CBox 41 ((w.setCell ⟨b, 1, none⟩ (.int .i64 ((n : Int) + 1))).alloc (.cells #[.int .u32 0, .int .u32 0, .int .u64 0] 34)) b #[.int .u64 (B : Int), .int .i64 ((n : Int) + 1)] := (hA2.block b hl).trans (HH.out.put 1 (.int .i64 ((n : Int) + 1)))
  have bN : CBox 34 ((w.setCell ⟨b, 1, none⟩ (.int .i64 ((n : Int) + 1))).alloc (.cells #[.int .u32 0, .int .u32 0, .int .u64 0] 34)) w.heap.size #[.int .u32 0, .int .u32 0, .int .u64 0] := by
    have := CBox.new 34 (w.setCell ⟨b, 1, none⟩ (.int .i64 ((n : Int) + 1))) #[.int .u32 0, .int .u32 0, .int .u64 0]
    simpa using this
  have o1 : Off (fun k => k = b) w ((w.setCell ⟨b, 1, none⟩ (.int .i64 ((n : Int) + 1))).alloc (.cells #[.int .u32 0, .int .u32 0, .int .u64 0] 34)) := (Off.setCell (F := fun k => k = b) (p := ⟨b, 1, none⟩) (Off.refl _ w) (Or.inl rfl) _).alloc _
  generalize (w.setCell ⟨b, 1, none⟩ (.int .i64 ((n : Int) + 1))).alloc (.cells #[.int .u32 0, .int .u32 0, .int .u64 0] 34) = wq at *
  have hne' : ¬ b = w.heap.size := fun e => hne e.symm
  clear hA2
  obtain ⟨A, HA⟩ : ∃ A, Hid (w.heap.size = A) := ⟨_, rfl⟩
  rw [HA.out] at bN hne' ⊢
  refine wp_region_held_drew (S := fun w' => Off (fun k => k = A) wq w') (by kernel_rfl) (Off.refl _ _).drew (fun hHeld => ?_)
  refine takeM 0 28 1 rfl rfl rfl (by kernel_rfl) (by kernel_rfl) (by kernel_rfl) (fun _ _ _ h => h) (by rfl) hHeld rfl ?_
  simp only [List.set_cons_succ, List.set_cons_zero]
  refine takeM 1 29 2 rfl rfl rfl (by kernel_rfl) (by kernel_rfl) (by kernel_rfl) (fun _ _ _ h => h) (by rfl) hHeld rfl ?_
  simp only [List.set_cons_succ, List.set_cons_zero]
  refine takeL 2 30 (v := ?_) rfl rfl (by kernel_rfl) (by kernel_rfl) (by kernel_rfl) (fun _ _ _ h => h) (by rfl) hHeld (fun w hSw => ?_) ?_
  rotate_left 1
  · (try dsimp only at hSw)
    clear hSw
    go_simp
    try with_reducible rfl
  simp only [List.set_cons_succ, List.set_cons_zero]
  refine takeM 3 31 0 rfl rfl rfl (by kernel_rfl) (by kernel_rfl) (by kernel_rfl) (fun _ _ _ h => h) (by rfl) hHeld rfl ?_
  simp only [List.set_cons_succ, List.set_cons_zero]
  refine takeL 4 32 (v := ?_) rfl rfl (by kernel_rfl) (by kernel_rfl) (by kernel_rfl) (fun _ _ _ h => h) (by rfl) hHeld (fun w hSw => ?_) ?_
  rotate_left 1
  · (try dsimp only at hSw)
    clear hSw
    go_simp
    try with_reducible rfl
  simp only [List.set_cons_succ, List.set_cons_zero]
  refine takeL 5 33 (v := ?_) rfl rfl (by kernel_rfl) (by kernel_rfl) (by kernel_rfl) (fun _ _ _ h => h) (by rfl) hHeld (fun w hSw => ?_) ?_
  rotate_left 1
  · (try dsimp only at hSw)
    clear hSw
    go_simp
    try with_reducible rfl
  simp only [List.set_cons_succ, List.set_cons_zero]
  refine takeL 6 34 (v := ?_) rfl rfl (by kernel_rfl) (by kernel_rfl) (by kernel_rfl) (fun _ _ _ h => h) (by rfl) hHeld (fun w hSw => ?_) ?_
  rotate_left 1
  · (try dsimp only at hSw)
    have hx_ := h2.off hSw hne'
    have e0_ := hx_.cell 0
    have e1_ := hx_.cell 1
    clear hx_
    clear hSw
    go_simp
    try with_reducible rfl
  simp only [List.set_cons_succ, List.set_cons_zero]
  refine takeL 7 35 (v := ?_) rfl rfl (by kernel_rfl) (by kernel_rfl) (by kernel_rfl) (fun _ _ _ h => h) (by rfl) hHeld (fun w hSw => ?_) ?_
  rotate_left 1
  · (try dsimp only at hSw)
    clear hSw
    go_simp
    try with_reducible rfl
  simp only [List.set_cons_succ, List.set_cons_zero]
  refine takeM 8 36 0 rfl rfl rfl (by kernel_rfl) (by kernel_rfl) (by kernel_rfl) (fun _ _ _ h => h) (by rfl) hHeld rfl ?_
  simp only [List.set_cons_succ, List.set_cons_zero]
  refine takeL 9 37 (v := ?_) rfl rfl (by kernel_rfl) (by kernel_rfl) (by kernel_rfl) (fun _ _ _ h => h) (by rfl) hHeld (fun w hSw => ?_) ?_
  rotate_left 1
  · (try dsimp only at hSw)
    clear hSw
    go_simp
    try with_reducible rfl
  simp only [List.set_cons_succ, List.set_cons_zero]
  refine takeL 10 38 (v := ?_) rfl rfl (by kernel_rfl) (by kernel_rfl) (by kernel_rfl) (fun _ _ _ h => h) (by rfl) hHeld (fun w hSw => ?_) ?_
  rotate_left 1
  · (try dsimp only at hSw)
    clear hSw
    go_simp
    try with_reducible rfl
  simp only [List.set_cons_succ, List.set_cons_zero]
  refine takeL 11 39 (v := ?_) rfl rfl (by kernel_rfl) (by kernel_rfl) (by kernel_rfl) (fun _ _ _ h => h) (by rfl) hHeld (fun w hSw => ?_) ?_
  rotate_left 1
  · (try dsimp only at hSw)
    have hx_ := h2.off hSw hne'
    have e0_ := hx_.cell 0
    have e1_ := hx_.cell 1
    clear hx_
    clear hSw
    go_simp
    try with_reducible rfl
  simp only [List.set_cons_succ, List.set_cons_zero]
  refine takeL 12 40 (v := ?_) rfl rfl (by kernel_rfl) (by kernel_rfl) (by kernel_rfl) (fun _ _ _ h => h) (by rfl) hHeld (fun w hSw => ?_) ?_
  rotate_left 1
  · (try dsimp only at hSw)
    clear hSw
    go_simp
    try with_reducible rfl
  simp only [List.set_cons_succ, List.set_cons_zero]
  refine takeL 13 41 (v := ?_) rfl rfl (by kernel_rfl) (by kernel_rfl) (by kernel_rfl) (fun _ _ _ h => h) (by rfl) hHeld (fun w hSw => ?_) ?_
  rotate_left 1
  · (try dsimp only at hSw)
    clear hSw
    go_simp
    try with_reducible rfl
  simp only [List.set_cons_succ, List.set_cons_zero]
  refine takeL 14 42 (v := ?_) rfl rfl (by kernel_rfl) (by kernel_rfl) (by kernel_rfl) (fun _ _ _ h => h) (by rfl) hHeld (fun w hSw => ?_) ?_
  rotate_left 1
  · (try dsimp only at hSw)
    clear hSw
    go_simp
    try with_reducible rfl
  simp only [List.set_cons_succ, List.set_cons_zero]
  have f0 := bN.frozen 0
  have f1 := bN.frozen 1
  have f2 := bN.frozen 2
  have d0 := bN.cell 0
  have d1 := bN.cell 1
  have d2 := bN.cell 2
  refine onlyL 15 rfl (by kernel_rfl) (by rfl) (fun K hK => ?_)
  go_wp2_with fail
  have o2 : Off (fun k => k = A) wq (((wq.setCell ⟨A, 0, none⟩ (.int .u32 ep)).setCell ⟨A, 1, none⟩ (.int .u32 (s : Int))).setCell ⟨A, 2, none⟩ (.int .u64 ver)).drew := Off.drew (Off.setCell (F := fun k => k = A) (p := ⟨A, 2, none⟩) (Off.setCell (F := fun k => k = A) (p := ⟨A, 1, none⟩) (Off.setCell (F := fun k => k = A) (p := ⟨A, 0, none⟩) (Off.refl _ _) (Or.inl rfl) _) (Or.inl rfl) _) (Or.inl rfl) _)
  have bM : CBox 34 (((wq.setCell ⟨A, 0, none⟩ (.int .u32 ep)).setCell ⟨A, 1, none⟩ (.int .u32 (s : Int))).setCell ⟨A, 2, none⟩ (.int .u64 ver)).drew A #[.int .u32 ep, .int .u32 (s : Int), .int .u64 ver] := ((bN.put 0 (.int .u32 ep)).put 1 (.int .u32 (s : Int))).put 2 (.int .u64 ver)
  have h3 := h2.off o2 hne'
  have o3 := o1.trans o2 (fun i hi => Or.inr (by rw [HA.out, hi]; exact Nat.le_refl _))
  refine hK.out _ _ o2 (fun hHeld => ?_)
  generalize (((wq.setCell ⟨A, 0, none⟩ (.int .u32 ep)).setCell ⟨A, 1, none⟩ (.int .u32 (s : Int))).setCell ⟨A, 2, none⟩ (.int .u64 ver)).drew = wz at *
  clear hK K f0 f1 f2 d0 d1 d2
  refine onlyL 16 rfl (by kernel_rfl) (by rfl) (fun K hK => ?_)
  go_wp2_with fail
  refine hK.out _ _ hHeld (fun hHeld => ?_)
  clear hK K
  refine wpAnyH_done (by kernel_rfl) ?_ _
  go_wp2
  have k0 := bM.cell 0
  have k1 := bM.cell 1
  have k2 := bM.cell 2
  refine bodyPost_ret (v := .tuple #[.agg #[.int .u32 ep, .int .u32 (s : Int), .int .u64 ver], .int .i64 0]) (by simp [results, Try.results10, go_sem, k0, k1, k2]) rfl ?_
  have e : (n : Int) + 1 = ((n + 1 : Nat) : Int) := by omega
  rw [e] at h3
  have hK : KeptG RMInv F w (.pointer (some ⟨b, 0, none⟩)) F wz (B, n + 1) := ⟨⟨b, rfl, h3, HF.out⟩, fun _ h => Or.inl h, o3.mono (fun k hk => Or.inl ((HF.out k).2 hk))⟩
  first | exact ⟨rfl, F, hK⟩ | exact ⟨F, rfl, hK⟩
end Go.Proofs.Ytcplekodbgmneaa
