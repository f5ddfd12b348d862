/- The landed counter. -/
import Derived.Test.YtdehnfgepnnaiaaCntSaid
import Derived.Test.YtdehnfgepnnaiaaPowImpl
namespace Go.Proofs.Ytdehnfgepnnaiaa
open Go.RowKit
set_option maxRecDepth 20000

def CtInv (p : Option Addr) (F : Nat → Prop) (w : World) (v : Value) (st : CSt) : Prop := ∃ b, v = .pointer (some ⟨b, 0, none⟩) ∧ CBox 44 w b #[.pointer p, .int .u64 (st.1 : Int), .int .u64 (st.2.1 : Int), .int .u64 (st.2.2 : Int)] ∧ ∀ k, F k ↔ k = b
theorem ctbase (p : Option Addr) : ObjBase (CtInv p) := by
  refine ⟨?_, ?_, ?_⟩
  · rintro F w w' v _ ⟨b, rfl, h, hF⟩ _ hb
    exact ⟨b, rfl, (hb b ((hF b).2 rfl)).trans h, hF⟩
  · rintro F w v _ ⟨b, rfl, h, hF⟩ k hk
    rw [(hF k).1 hk]
    exact CBox.lt h
  · rintro F w v _ ⟨b, rfl, _, _⟩
    exact ⟨_, rfl⟩
theorem ctwrap {n : Nat} (h : n ≤ 1000000) : IntKind.u64.wrap ((n : Int) + 1) = ((n + 1 : Nat) : Int) := by
  rw [IntKind.wrap_u64]
  omega
set_option maxHeartbeats 1000000 in
/-- The inner function spend: a step of its power. -/
theorem ctspend (p : Option Addr) (G : Nat → Prop) (b : Nat) (st : CSt) (q : PSt) (hq : q.2.2 ≤ 1000000) (w : World) (h : CBox 44 w b #[.pointer p, .int .u64 (st.1 : Int), .int .u64 (st.2.1 : Int), .int .u64 (st.2.2 : Int)]) (hP : PwInv G w (.pointer p) q) :
    Calls Try.prog 20 #[.pointer (some ⟨b, 0, none⟩)] w fun e w' => ∃ G', e = .returned (.bool (pSpend q).1) ∧ KeptG PwInv G w (.pointer p) G' w' (pSpend q).2 := by
  have hsp := pow_is.spend G (.pointer p) q hq w hP
  obtain ⟨r, q', hs⟩ : ∃ r q', pSpend q = (r, q') := ⟨_, _, rfl⟩
  rw [hs] at hsp ⊢
  dsimp only at hsp ⊢
  have c0 : w.cell? ⟨b, 0, none⟩ = some (.pointer p) := CBox.cell h 0
  clear hq hs h
  go_enter Try.func20, Try.ntmps20
  go_wp2_with fail
  refine hsp.mono ?_
  rintro e w1 ⟨G', rfl, hK⟩
  clear c0 hsp
  go_wp2
  go_ret
  first | exact ⟨rfl, G', hK⟩ | exact ⟨G', rfl, hK⟩
theorem ctspendNil (w : World) : Calls Try.prog 20 #[.pointer none] w fun e w' => e = .returned (.bool false) ∧ Below w.heap.size w w' := by
  go_enter Try.func20, Try.ntmps20
  go_wp2
  go_ret
  exact ⟨rfl, Below.refl _ _⟩
set_option maxHeartbeats 1000000 in
theorem ctbump (p : Option Addr) (F G : Nat → Prop) (v : Value) (st : CSt) (q : PSt) (hn : st.1 ≤ 1000000) (hq : q.2.2 ≤ 1000000) (w : World) (hI : CtInv p F w v st) (hP : PwInv G w (.pointer p) q) (hd : ∀ k, F k → ¬ G k) :
    Calls Try.prog 8 #[v] w fun e w' => ∃ F' G', e = .returned (.bool (pSpend q).1) ∧ KeptD (CtInv p) PwInv F G w v (.pointer p) F' G' w' (if (pSpend q).1 = true then cBump st else st) (pSpend q).2 := by
  obtain ⟨b, rfl, h, hF⟩ := hI
  have hsp := ctspend p G b st q hq w h hP
  obtain ⟨r, q', hs⟩ : ∃ r q', pSpend q = (r, q') := ⟨_, _, rfl⟩
  rw [hs] at hsp ⊢
  dsimp only at hsp ⊢
  obtain ⟨V, B, A⟩ := st
  dsimp only at hn h
  have hw := ctwrap hn
  have hlt : ∀ k, F k → k < w.heap.size := fun k hk => (hF k).1 hk ▸ CBox.lt h
  have hFb := hide' ((hF b).2 rfl)
  have hF' := hide' hF
  clear hn hq hs hF
  go_enter Try.func8, Try.ntmps8
  go_wp2_with fail
  refine hsp.mono ?_
  rintro e w1 ⟨G', rfl, hK⟩
  have h1 := CBox.off h hK.off (hd b hFb.out)
  clear h hsp
  cases r
  · go_wp2
    go_ret
    first | exact ⟨rfl, F, G', hK.thenOne pwbase hd hlt ⟨b, rfl, h1, hF'.out⟩ (Off.refl _ _)⟩ | exact ⟨F, G', rfl, hK.thenOne pwbase hd hlt ⟨b, rfl, h1, hF'.out⟩ (Off.refl _ _)⟩
  · obtain ⟨z, hz⟩ : ∃ z : Int, Hid (z = ((V + 1 : Nat) : Int)) := ⟨_, rfl⟩
    rw [← hz.out] at hw
    have c1 : w1.cell? ⟨b, 1, none⟩ = some (.int .u64 (V : Int)) := CBox.cell h1 1
    have f1 := CBox.frozen h1 1
    have h2 : CBox 44 (w1.setCell ⟨b, 1, none⟩ (.int .u64 z)) b _ := CBox.put h1 1 (.int .u64 z)
    have c2 : (w1.setCell ⟨b, 1, none⟩ (.int .u64 z)).cell? ⟨b, 2, none⟩ = some (.int .u64 (B : Int)) := CBox.cell h2 2
    have c3 : (w1.setCell ⟨b, 1, none⟩ (.int .u64 z)).cell? ⟨b, 3, none⟩ = some (.int .u64 (A : Int)) := CBox.cell h2 3
    have f3 := CBox.frozen h2 3
    have h3 : CBox 44 ((w1.setCell ⟨b, 1, none⟩ (.int .u64 z)).setCell ⟨b, 3, none⟩ (.int .u64 (B : Int))) b _ := CBox.put h2 3 (.int .u64 (B : Int))
    have o3 : Off F w1 ((w1.setCell ⟨b, 1, none⟩ (.int .u64 z)).setCell ⟨b, 3, none⟩ (.int .u64 (B : Int))) := Off.setCell (p := ⟨b, 3, none⟩) (Off.setCell (p := ⟨b, 1, none⟩) (Off.refl _ w1) (Or.inl hFb.out) _) (Or.inl hFb.out) _
    have hI3 : ∀ n : Int, z = n → CBox 44 ((w1.setCell ⟨b, 1, none⟩ (.int .u64 z)).setCell ⟨b, 3, none⟩ (.int .u64 (B : Int))) b #[.pointer p, .int .u64 n, .int .u64 (B : Int), .int .u64 (B : Int)] := fun n e => e ▸ h3
    clear h1 h2 h3
    go_wp2
    go_ret
    first | exact ⟨rfl, F, G', hK.thenOne pwbase hd hlt ⟨b, rfl, hI3 _ hz.out, hF'.out⟩ o3⟩ | exact ⟨F, G', rfl, hK.thenOne pwbase hd hlt ⟨b, rfl, hI3 _ hz.out, hF'.out⟩ o3⟩
set_option maxHeartbeats 1000000 in
theorem ctboot (p : Option Addr) (F G : Nat → Prop) (v : Value) (st : CSt) (q : PSt) (hn : st.2.1 ≤ 1000000) (hq : q.2.2 ≤ 1000000) (w : World) (hI : CtInv p F w v st) (hP : PwInv G w (.pointer p) q) (hd : ∀ k, F k → ¬ G k) :
    Calls Try.prog 10 #[v] w fun e w' => ∃ F' G', e = .returned (.bool (pSpend q).1) ∧ KeptD (CtInv p) PwInv F G w v (.pointer p) F' G' w' (if (pSpend q).1 = true then cBoot st else st) (pSpend q).2 := by
  obtain ⟨b, rfl, h, hF⟩ := hI
  have hsp := ctspend p G b st q hq w h hP
  obtain ⟨r, q', hs⟩ : ∃ r q', pSpend q = (r, q') := ⟨_, _, rfl⟩
  rw [hs] at hsp ⊢
  dsimp only at hsp ⊢
  obtain ⟨V, B, A⟩ := st
  dsimp only at hn h
  have hw := ctwrap hn
  have hlt : ∀ k, F k → k < w.heap.size := fun k hk => (hF k).1 hk ▸ CBox.lt h
  have hFb := hide' ((hF b).2 rfl)
  have hF' := hide' hF
  clear hn hq hs hF
  go_enter Try.func10, Try.ntmps10
  go_wp2_with fail
  refine hsp.mono ?_
  rintro e w1 ⟨G', rfl, hK⟩
  have h1 := CBox.off h hK.off (hd b hFb.out)
  clear h hsp
  cases r
  · go_wp2
    go_ret
    first | exact ⟨rfl, F, G', hK.thenOne pwbase hd hlt ⟨b, rfl, h1, hF'.out⟩ (Off.refl _ _)⟩ | exact ⟨F, G', rfl, hK.thenOne pwbase hd hlt ⟨b, rfl, h1, hF'.out⟩ (Off.refl _ _)⟩
  · have c1 : w1.cell? ⟨b, 2, none⟩ = some (.int .u64 (B : Int)) := CBox.cell h1 2
    have f1 := CBox.frozen h1 2
    have h2 : CBox 44 (w1.setCell ⟨b, 2, none⟩ (.int .u64 ((B + 1 : Nat) : Int))) b _ := CBox.put h1 2 (.int .u64 ((B + 1 : Nat) : Int))
    have o2 : Off F w1 (w1.setCell ⟨b, 2, none⟩ (.int .u64 ((B + 1 : Nat) : Int))) := Off.setCell (p := ⟨b, 2, none⟩) (Off.refl _ w1) (Or.inl hFb.out) _
    clear h1
    go_wp2
    go_ret
    first | exact ⟨rfl, F, G', hK.thenOne pwbase hd hlt ⟨b, rfl, h2, hF'.out⟩ o2⟩ | exact ⟨F, G', rfl, hK.thenOne pwbase hd hlt ⟨b, rfl, h2, hF'.out⟩ o2⟩
theorem ctmake (p : Option Addr) (w : World) : Calls Try.prog 7 #[.pointer p] w fun e w' => ∃ v F, e = .returned v ∧ CtInv p F w' v (0, 0, 0) ∧ (∀ k, F k → w.heap.size ≤ k) ∧ Below w.heap.size w w' := by
  have hN := CBox.new 44 w #[.pointer p, .int .u64 0, .int .u64 0, .int .u64 0]
  have hA : Below w.heap.size w (w.alloc (.cells #[.pointer p, .int .u64 0, .int .u64 0, .int .u64 0] 44)) := (Below.refl _ _).alloc (Nat.le_refl _) _
  go_enter Try.func7, Try.ntmps7
  go_wp2
  go_ret
  exact ⟨_, fun k => k = w.heap.size, rfl, ⟨w.heap.size, rfl, hN, fun _ => Iff.rfl⟩, fun k hk => hk ▸ Nat.le_refl _, hA⟩
theorem ctvalue (p : Option Addr) (F : Nat → Prop) (v : Value) (st : CSt) (w : World) (hI : CtInv p F w v st) : Calls Try.prog 16 #[v] w fun e w' => e = .returned (.int .u64 (st.1 : Int)) ∧ Below w.heap.size w w' := by
  obtain ⟨b, rfl, h, hF⟩ := hI
  have c0 : w.cell? ⟨b, 1, none⟩ = some (.int .u64 (st.1 : Int)) := CBox.cell h 1
  clear h
  generalize (st.1 : Int) = o at *
  go_enter Try.func16, Try.ntmps16
  go_wp2
  go_ret
  exact ⟨rfl, Below.refl _ _⟩
theorem ctvalueNil (w : World) : Calls Try.prog 16 #[.pointer none] w fun e w' => e = .returned (.int .u64 0) ∧ Below w.heap.size w w' := by
  go_enter Try.func16, Try.ntmps16
  go_wp2
  go_ret
  exact ⟨rfl, Below.refl _ _⟩
theorem ctboots (p : Option Addr) (F : Nat → Prop) (v : Value) (st : CSt) (w : World) (hI : CtInv p F w v st) : Calls Try.prog 17 #[v] w fun e w' => e = .returned (.int .u64 (st.2.1 : Int)) ∧ Below w.heap.size w w' := by
  obtain ⟨b, rfl, h, hF⟩ := hI
  have c0 : w.cell? ⟨b, 2, none⟩ = some (.int .u64 (st.2.1 : Int)) := CBox.cell h 2
  clear h
  generalize (st.2.1 : Int) = o at *
  go_enter Try.func17, Try.ntmps17
  go_wp2
  go_ret
  exact ⟨rfl, Below.refl _ _⟩
theorem ctbootsNil (w : World) : Calls Try.prog 17 #[.pointer none] w fun e w' => e = .returned (.int .u64 0) ∧ Below w.heap.size w w' := by
  go_enter Try.func17, Try.ntmps17
  go_wp2
  go_ret
  exact ⟨rfl, Below.refl _ _⟩
theorem ctat (p : Option Addr) (F : Nat → Prop) (v : Value) (st : CSt) (w : World) (hI : CtInv p F w v st) : Calls Try.prog 18 #[v] w fun e w' => e = .returned (.int .u64 (st.2.2 : Int)) ∧ Below w.heap.size w w' := by
  obtain ⟨b, rfl, h, hF⟩ := hI
  have c0 : w.cell? ⟨b, 3, none⟩ = some (.int .u64 (st.2.2 : Int)) := CBox.cell h 3
  clear h
  generalize (st.2.2 : Int) = o at *
  go_enter Try.func18, Try.ntmps18
  go_wp2
  go_ret
  exact ⟨rfl, Below.refl _ _⟩
theorem ctatNil (w : World) : Calls Try.prog 18 #[.pointer none] w fun e w' => e = .returned (.int .u64 0) ∧ Below w.heap.size w w' := by
  go_enter Try.func18, Try.ntmps18
  go_wp2
  go_ret
  exact ⟨rfl, Below.refl _ _⟩
theorem ctbumpNil (w : World) : Calls Try.prog 8 #[.pointer none] w fun e w' => e = .returned (.bool false) ∧ Below w.heap.size w w' := by
  go_enter Try.func8, Try.ntmps8
  go_wp2_with fail
  refine (ctspendNil w).mono ?_
  rintro e w1 ⟨rfl, hb⟩
  go_wp2
  go_ret
  exact ⟨rfl, hb⟩
theorem ctbootNil (w : World) : Calls Try.prog 10 #[.pointer none] w fun e w' => e = .returned (.bool false) ∧ Below w.heap.size w w' := by
  go_enter Try.func10, Try.ntmps10
  go_wp2_with fail
  refine (ctspendNil w).mono ?_
  rintro e w1 ⟨rfl, hb⟩
  go_wp2
  go_ret
  exact ⟨rfl, hb⟩
theorem cnt_is : CntIs PwInv CtInv where
  base := ctbase
  make := ctmake
  bump := ctbump
  boot := ctboot
  value := ctvalue
  boots := ctboots
  at_ := ctat
  bumpNil := ctbumpNil
  bootNil := ctbootNil
  valueNil := ctvalueNil
  bootsNil := ctbootsNil
  atNil := ctatNil
end Go.Proofs.Ytdehnfgepnnaiaa
