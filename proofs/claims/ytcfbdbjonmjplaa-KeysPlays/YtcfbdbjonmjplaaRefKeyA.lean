/- The document's keys: Add. -/
import Derived.Test.YtcfbdbjonmjplaaRefKey
import Derived.Test.YtcfbdbjonmjplaaRefSpk
import Derived.Test.YtcfbdbjonmjplaaOwnB
namespace Go.Proofs.Ytcfbdbjonmjplaa
open Go.RowKit
set_option maxRecDepth 20000
theorem Try.info33 : (Try.prog.info? 33).map (fun i => (i.zero, i.size, i.bytes)) = some (some (.int .u32 0), 1, 4) := by kernel_rfl
set_option maxHeartbeats 2000000 in
theorem rkadd (p : Option Addr) (F G : Nat → Prop) (v : Value) (st : KSt) (q : PSt) (hok : KOk st) (hq : q.2.2 ≤ 1000000) (w : World) (hI : RKInv p F w v st) (hP : RPInv G w (.pointer p) q) (hd : ∀ k, F k → ¬ G k) :
    Calls Try.prog 11 #[v] w fun e w' => ∃ F' G', e = .returned (.bool (pSpend q).1) ∧ KeptD (RKInv p) RPInv F G w v (.pointer p) F' G' w' (if (pSpend q).1 = true then kAdd st else st) (pSpend q).2 := by
  obtain ⟨i0, hi, hz0, hz1, hz2⟩ := info_parts Try.info33
  obtain ⟨b, g, n, cap, hn, rfl, h, hbg, hr, hF⟩ := hI
  have hsp := rspend G (.pointer p) q hq w hP
  obtain ⟨r, q', hs⟩ : ∃ r q', pSpend q = (r, q') := ⟨_, _, rfl⟩
  rw [hs] at hsp ⊢
  dsimp only at hsp ⊢
  obtain ⟨s, lo, cur⟩ := st
  have hlt : ∀ k, F k → k < w.heap.size := fun k hk => ((hF k).1 hk).elim (fun e => e ▸ CBox.lt h) (fun e => e ▸ hr.lt)
  have hFb := hide' ((hF b).2 (Or.inl rfl))
  have hFg := hide' ((hF g).2 (Or.inr rfl))
  have hF' := hide' hF
  have HOK := hide' hok
  have hn1 : n ≤ 1000000 := by
    have h1 : n + lo = cur + 1 := hn.out
    have h2 : 1 ≤ lo := hok.1
    have h3 : cur ≤ 1000000 := hok.2.2
    omega
  have c0 : w.cell? ⟨b, 0, none⟩ = some (.pointer p) := CBox.cell h 0
  clear hq hs hF hok
  go_enter Try.func11, Try.ntmps11
  go_wp2_with fail
  refine hsp.mono ?_
  rintro e w1 ⟨G', rfl, hK⟩
  have h1 := CBox.off h hK.off (hd b hFb.out)
  have r1 := hr.off hK.off (hd g hFg.out)
  have HB := hide' hbg
  clear h c0 hsp hr hbg
  cases r
  · go_wp2
    go_ret
    first | exact ⟨rfl, F, G', hK.thenOne rpbase hd hlt ⟨b, g, n, cap, hn, rfl, h1, HB.out, r1, hF'.out⟩ (Off.refl _ _)⟩ | exact ⟨F, G', rfl, hK.thenOne rpbase hd hlt ⟨b, g, n, cap, hn, rfl, h1, HB.out, r1, hF'.out⟩ (Off.refl _ _)⟩
  · obtain ⟨z, hz⟩ : ∃ z : Int, Hid (z = ((lo + n : Nat) : Int)) := ⟨_, rfl⟩
    have hw : IntKind.u32.wrap ((cur : Int) + 1) = z := by
      have h1 : n + lo = cur + 1 := hn.out
      have h3 : cur ≤ 1000000 := HOK.out.2.2
      have := hz.out
      rw [IntKind.wrap_u32]
      omega
    have c2 : w1.cell? ⟨b, 2, none⟩ = some (.slice (some ⟨g, 0, none⟩) n cap) := CBox.cell h1 2
    have hA : Below w1.heap.size w1 (w1.alloc (.cells #[] 33)) := (Below.refl _ _).alloc (Nat.le_refl _) _
    have c2' := (hA.cell (p := ⟨b, 2, none⟩) (CBox.lt h1)).trans c2
    have ownL := World.ownsRow_lit (base := w1.heap.size) (e := 33) (size := 1) w1 #[] 0 (Nat.le_refl _) (by decide) rfl
    have r2 : URow (w1.alloc (.cells #[] 33)) g n cap lo := r1.stay (hA.block _ r1.lt)
    go_wp2_with (at_builtin; refine wpList_append_at rfl _ _ 41 rfl w1.heap.size 33 i0 (.int .u32 0) 1 4 Try.underlying41 hi hz0 hz1 hz2 rfl (by decide) _ 0 [] rfl ownL ⟨g, 0, none⟩ n cap (rowU lo n) rfl (by rw [rowU_len]; omega) (World.ownsRow.cells r2 (g := g) rfl) (rowU_one _ _) (by unfold maxLen; omega) (by omega) (by rw [World.size_alloc]; omega) ?_)
    · intro v2 w3 own3 grow3 _
      have hB3 : Below w1.heap.size w1 w3 := Below.grown hA grow3 (by simp) (own_block ownL)
      replace own3 : w3.ownsRow w1.heap.size 33 1 v2 n (rowU lo n) := by simpa using own3
      have h3 := CBox.grown h1 hB3
      have r3 := r1.stay (hB3.block _ r1.lt)
      clear grow3 ownL r2 hA
      go_wp2_with fail
      refine (rkcurrent p F _ (s, lo, cur) HOK.out _ ⟨b, g, n, cap, hn, rfl, h3, HB.out, r3, hF'.out⟩).mono ?_
      rintro e w4 ⟨rfl, hb4⟩
      have own4 := own_off own3 (Off.of_below (F := fun _ => False) hb4) (fun _ _ h => h)
      have hB4 := hB3.trans (hb4.mono hB3.size)
      have hs4 := hB4.size
      clear hb4 own3 h3 r3 hB3
      dsimp only
      go_wp2_with (at_builtin; refine wpList_append_at rfl _ _ 41 rfl w1.heap.size 33 i0 (.int .u32 0) 1 4 Try.underlying41 hi hz0 hz1 hz2 rfl (by decide) _ n (rowU lo n) rfl (own4.alloc _) ⟨w4.heap.size, 0, none⟩ 1 1 [.int .u32 z] rfl rfl (app1_at _ _ _) (app1_one _ rfl) (by unfold maxLen; omega) (by omega) (by rw [World.size_alloc]; omega) ?_)
      · intro v5 w5 own5 grow5 _
        have hB5 : Below w1.heap.size w1 w5 := Below.grown (hB4.alloc hB4.size _) grow5 (by simp; omega) (own_block own4)
        obtain ⟨g5, cap5, rfl, hg5, r5⟩ := URow.of (lo := lo) own5 (by rw [hz.out, rowU_snoc]) (by omega)
        have HE : Hid (n + 1 + lo = cur + 1 + 1) := by
          have : n + lo = cur + 1 := hn.out
          exact hide' (by omega)
        clear own4 own5 grow5 hB4 hs4
        have hbg5 : b ≠ g5 := by
          have := CBox.lt h1
          omega
        have h5 := CBox.grown h1 hB5
        have c25 : w5.cell? ⟨b, 2, none⟩ = some (.slice (some ⟨g, 0, none⟩) n cap) := CBox.cell h5 2
        have f25 := CBox.frozen h5 2
        have h6 : CBox 44 (w5.setCell ⟨b, 2, none⟩ (.slice (some ⟨g5, 0, none⟩) (n + 1) cap5)) b _ := CBox.put h5 2 (.slice (some ⟨g5, 0, none⟩) (n + 1) cap5)
        have r6 := r5.stay (w' := w5.setCell ⟨b, 2, none⟩ (.slice (some ⟨g5, 0, none⟩) (n + 1) cap5)) (Below.heap_setCell w5 ⟨b, 2, none⟩ _ g5 (Ne.symm hbg5))
        have o6 : Off F w1 (w5.setCell ⟨b, 2, none⟩ (.slice (some ⟨g5, 0, none⟩) (n + 1) cap5)) := Off.setCell (p := ⟨b, 2, none⟩) (Off.of_below hB5) (Or.inl hFb.out) _
        have HN : Hid (∀ k, (k = b ∨ k = g5) → F k ∨ w1.heap.size ≤ k) := hide' (fun k hk => hk.elim (fun e => Or.inl (e ▸ hFb.out)) (fun e => Or.inr (e ▸ hg5)))
        have HB5 := hide' hbg5
        clear hbg5 h5 r5 hB5
        go_wp2
        go_ret
        first | exact ⟨rfl, fun k => k = b ∨ k = g5, G', hK.thenNew rpbase hd hlt ⟨b, g5, _, cap5, HE, rfl, h6, HB5.out, r6, fun _ => Iff.rfl⟩ o6 HN.out⟩ | exact ⟨fun k => k = b ∨ k = g5, G', rfl, hK.thenNew rpbase hd hlt ⟨b, g5, _, cap5, HE, rfl, h6, HB5.out, r6, fun _ => Iff.rfl⟩ o6 HN.out⟩
end Go.Proofs.Ytcfbdbjonmjplaa
