/- The document's counter. -/
import Derived.Test.YtdehnfgepnnaiaaCntSaid
import Derived.Test.YtdehnfgepnnaiaaRefPow
namespace Go.Proofs.Ytdehnfgepnnaiaa
open Go.RowKit
set_option maxRecDepth 20000

def RCInv (p : Option Addr) (F : Nat → Prop) (w : World) (v : Value) (st : CSt) : Prop := ∃ b, v = .pointer (some ⟨b, 0, none⟩) ∧ CBox 33 w b #[.pointer p, .int .u64 (st.1 : Int), .int .u64 (st.2.1 : Int), .int .u64 (st.2.2 : Int)] ∧ ∀ k, F k ↔ k = b
theorem rcbase (p : Option Addr) : ObjBase (RCInv p) := by
  refine ⟨?_, ?_, ?_⟩
  · rintro F w w' v _ ⟨b, rfl, h, hF⟩ _ hb
    exact ⟨b, rfl, (hb b ((hF b).2 rfl)).trans h, hF⟩
  · rintro F w v _ ⟨b, rfl, h, hF⟩ k hk
    rw [(hF k).1 hk]
    exact CBox.lt h
  · rintro F w v _ ⟨b, rfl, _, _⟩
    exact ⟨_, rfl⟩
theorem rcwrap {n : Nat} (h : n ≤ 1000000) : IntKind.u64.wrap ((n : Int) + 1) = ((n + 1 : Nat) : Int) := by
  rw [IntKind.wrap_u64]
  omega
set_option maxHeartbeats 1000000 in
theorem rcbump (p : Option Addr) (F G : Nat → Prop) (v : Value) (st : CSt) (q : PSt) (hn : st.1 ≤ 1000000) (hq : q.2.2 ≤ 1000000) (w : World) (hI : RCInv p F w v st) (hP : RPInv G w (.pointer p) q) (hd : ∀ k, F k → ¬ G k) :
    Calls Try.prog 9 #[v] w fun e w' => ∃ F' G', e = .returned (.bool (pSpend q).1) ∧ KeptD (RCInv p) RPInv F G w v (.pointer p) F' G' w' (if (pSpend q).1 = true then cBump st else st) (pSpend q).2 := by
  obtain ⟨b, rfl, h, hF⟩ := hI
  have hsp := rspend G (.pointer p) q hq w hP
  obtain ⟨r, q', hs⟩ : ∃ r q', pSpend q = (r, q') := ⟨_, _, rfl⟩
  rw [hs] at hsp ⊢
  dsimp only at hsp ⊢
  obtain ⟨V, B, A⟩ := st
  dsimp only at hn h
  have hw := rcwrap hn
  have hlt : ∀ k, F k → k < w.heap.size := fun k hk => (hF k).1 hk ▸ CBox.lt h
  have hFb := hide' ((hF b).2 rfl)
  have hF' := hide' hF
  have c0 : w.cell? ⟨b, 0, none⟩ = some (.pointer p) := CBox.cell h 0
  clear hn hq hs hF
  go_enter Try.func9, Try.ntmps9
  go_wp2_with fail
  refine hsp.mono ?_
  rintro e w1 ⟨G', rfl, hK⟩
  have h1 := CBox.off h hK.off (hd b hFb.out)
  clear h c0 hsp
  cases r
  · go_wp2
    go_ret
    first | exact ⟨rfl, F, G', hK.thenOne rpbase hd hlt ⟨b, rfl, h1, hF'.out⟩ (Off.refl _ _)⟩ | exact ⟨F, G', rfl, hK.thenOne rpbase hd hlt ⟨b, rfl, h1, hF'.out⟩ (Off.refl _ _)⟩
  · obtain ⟨z, hz⟩ : ∃ z : Int, Hid (z = ((V + 1 : Nat) : Int)) := ⟨_, rfl⟩
    rw [← hz.out] at hw
    have c1 : w1.cell? ⟨b, 1, none⟩ = some (.int .u64 (V : Int)) := CBox.cell h1 1
    have f1 := CBox.frozen h1 1
    have h2 : CBox 33 (w1.setCell ⟨b, 1, none⟩ (.int .u64 z)) b _ := CBox.put h1 1 (.int .u64 z)
    have c2 : (w1.setCell ⟨b, 1, none⟩ (.int .u64 z)).cell? ⟨b, 2, none⟩ = some (.int .u64 (B : Int)) := CBox.cell h2 2
    have c3 : (w1.setCell ⟨b, 1, none⟩ (.int .u64 z)).cell? ⟨b, 3, none⟩ = some (.int .u64 (A : Int)) := CBox.cell h2 3
    have f3 := CBox.frozen h2 3
    have h3 : CBox 33 ((w1.setCell ⟨b, 1, none⟩ (.int .u64 z)).setCell ⟨b, 3, none⟩ (.int .u64 (B : Int))) b _ := CBox.put h2 3 (.int .u64 (B : Int))
    have o3 : Off F w1 ((w1.setCell ⟨b, 1, none⟩ (.int .u64 z)).setCell ⟨b, 3, none⟩ (.int .u64 (B : Int))) := Off.setCell (p := ⟨b, 3, none⟩) (Off.setCell (p := ⟨b, 1, none⟩) (Off.refl _ w1) (Or.inl hFb.out) _) (Or.inl hFb.out) _
    have hI3 : ∀ n : Int, z = n → CBox 33 ((w1.setCell ⟨b, 1, none⟩ (.int .u64 z)).setCell ⟨b, 3, none⟩ (.int .u64 (B : Int))) b #[.pointer p, .int .u64 n, .int .u64 (B : Int), .int .u64 (B : Int)] := fun n e => e ▸ h3
    clear h1 h2 h3
    go_wp2
    go_ret
    first | exact ⟨rfl, F, G', hK.thenOne rpbase hd hlt ⟨b, rfl, hI3 _ hz.out, hF'.out⟩ o3⟩ | exact ⟨F, G', rfl, hK.thenOne rpbase hd hlt ⟨b, rfl, hI3 _ hz.out, hF'.out⟩ o3⟩
set_option maxHeartbeats 1000000 in
theorem rcboot (p : Option Addr) (F G : Nat → Prop) (v : Value) (st : CSt) (q : PSt) (hn : st.2.1 ≤ 1000000) (hq : q.2.2 ≤ 1000000) (w : World) (hI : RCInv p F w v st) (hP : RPInv G w (.pointer p) q) (hd : ∀ k, F k → ¬ G k) :
    Calls Try.prog 11 #[v] w fun e w' => ∃ F' G', e = .returned (.bool (pSpend q).1) ∧ KeptD (RCInv p) RPInv F G w v (.pointer p) F' G' w' (if (pSpend q).1 = true then cBoot st else st) (pSpend q).2 := by
  obtain ⟨b, rfl, h, hF⟩ := hI
  have hsp := rspend G (.pointer p) q hq w hP
  obtain ⟨r, q', hs⟩ : ∃ r q', pSpend q = (r, q') := ⟨_, _, rfl⟩
  rw [hs] at hsp ⊢
  dsimp only at hsp ⊢
  obtain ⟨V, B, A⟩ := st
  dsimp only at hn h
  have hw := rcwrap hn
  have hlt : ∀ k, F k → k < w.heap.size := fun k hk => (hF k).1 hk ▸ CBox.lt h
  have hFb := hide' ((hF b).2 rfl)
  have hF' := hide' hF
  have c0 : w.cell? ⟨b, 0, none⟩ = some (.pointer p) := CBox.cell h 0
  clear hn hq hs hF
  go_enter Try.func11, Try.ntmps11
  go_wp2_with fail
  refine hsp.mono ?_
  rintro e w1 ⟨G', rfl, hK⟩
  have h1 := CBox.off h hK.off (hd b hFb.out)
  clear h c0 hsp
  cases r
  · go_wp2
    go_ret
    first | exact ⟨rfl, F, G', hK.thenOne rpbase hd hlt ⟨b, rfl, h1, hF'.out⟩ (Off.refl _ _)⟩ | exact ⟨F, G', rfl, hK.thenOne rpbase hd hlt ⟨b, rfl, h1, hF'.out⟩ (Off.refl _ _)⟩
  · have c1 : w1.cell? ⟨b, 2, none⟩ = some (.int .u64 (B : Int)) := CBox.cell h1 2
    have f1 := CBox.frozen h1 2
    have h2 : CBox 33 (w1.setCell ⟨b, 2, none⟩ (.int .u64 ((B + 1 : Nat) : Int))) b _ := CBox.put h1 2 (.int .u64 ((B + 1 : Nat) : Int))
    have o2 : Off F w1 (w1.setCell ⟨b, 2, none⟩ (.int .u64 ((B + 1 : Nat) : Int))) := Off.setCell (p := ⟨b, 2, none⟩) (Off.refl _ w1) (Or.inl hFb.out) _
    clear h1
    go_wp2
    go_ret
    first | exact ⟨rfl, F, G', hK.thenOne rpbase hd hlt ⟨b, rfl, h2, hF'.out⟩ o2⟩ | exact ⟨F, G', rfl, hK.thenOne rpbase hd hlt ⟨b, rfl, h2, hF'.out⟩ o2⟩
end Go.Proofs.Ytdehnfgepnnaiaa
