/- The document's keys: Erase. -/
import Derived.Test.YtcfbdbjonmjplaaRefKeyA
import Derived.Test.YtcfbdbjonmjplaaRefSpk
import Derived.Test.YtcfbdbjonmjplaaOwnB
namespace Go.Proofs.Ytcfbdbjonmjplaa
open Go.RowKit
set_option maxRecDepth 20000
set_option maxHeartbeats 4000000 in
theorem rkerase (p : Option Addr) (F G : Nat → Prop) (v : Value) (st : KSt) (q : PSt) (B : Nat) (_hB32 : U32 B) (hok : KOk st) (hq : q.2.2 ≤ 1000000) (w : World) (hI : RKInv p F w v st) (hP : RPInv G w (.pointer p) q) (hd : ∀ k, F k → ¬ G k) :
    Calls Try.prog 13 #[v, .int .u32 (B : Int)] w fun e w' => ∃ F' G', e = .returned (.bool (pSpend q).1) ∧ KeptD (RKInv p) RPInv F G w v (.pointer p) F' G' w' (if (pSpend q).1 = true then kErase st B else st) (pSpend q).2 := by
  obtain ⟨i0, hi, hz0, hz1, hz2⟩ := info_parts Try.info33
  obtain ⟨b, g, n, cap, hn, rfl, h, hbg, hr, hF⟩ := hI
  have hsp := rspend G (.pointer p) q hq w hP
  obtain ⟨r, q', hs⟩ : ∃ r q', pSpend q = (r, q') := ⟨_, _, rfl⟩
  rw [hs] at hsp ⊢
  dsimp only at hsp ⊢
  obtain ⟨s, lo, cur⟩ := st
  have hlt : ∀ k, F k → k < w.heap.size := fun k hk => ((hF k).1 hk).elim (fun e => e ▸ CBox.lt h) (fun e => e ▸ hr.lt)
  have hFb := hide' ((hF b).2 (Or.inl rfl))
  have hFg := hide' ((hF g).2 (Or.inr rfl))
  have hF' := hide' hF
  have HOK := hide' hok
  have hn1 : n ≤ 1000000 := by
    have h1 : n + lo = cur + 1 := hn.out
    have h2 : 1 ≤ lo := hok.1
    have h3 : cur ≤ 1000000 := hok.2.2
    omega
  have c0 : w.cell? ⟨b, 0, none⟩ = some (.pointer p) := CBox.cell h 0
  clear hq hs hF hok
  go_enter Try.func13, Try.ntmps13
  go_wp2_with fail
  refine hsp.mono ?_
  rintro e w1 ⟨G', rfl, hK⟩
  have h1 := CBox.off h hK.off (hd b hFb.out)
  have r1 := hr.off hK.off (hd g hFg.out)
  have HB := hide' hbg
  clear h c0 hsp hr hbg
  have hltF := hide' hlt
  cases r
  · go_wp2
    go_ret
    first | exact ⟨rfl, F, G', hK.thenOne rpbase hd hlt ⟨b, g, n, cap, hn, rfl, h1, HB.out, r1, hF'.out⟩ (Off.refl _ _)⟩ | exact ⟨F, G', rfl, hK.thenOne rpbase hd hlt ⟨b, g, n, cap, hn, rfl, h1, HB.out, r1, hF'.out⟩ (Off.refl _ _)⟩
  · obtain ⟨lo', hlo⟩ : ∃ l, Hid (l = min (max lo B) cur) := ⟨_, rfl⟩
    have c2 : w1.cell? ⟨b, 2, none⟩ = some (.slice (some ⟨g, 0, none⟩) n cap) := CBox.cell h1 2
    go_wp2_with fail
    go_loopw [5, 6] (fun l i wr => ∃ k : Nat, k ≤ n ∧ i = .int .i64 (k : Int) ∧ wr.ownsRow w1.heap.size 33 1 l (lo + k - lo') (rowU lo' (lo + k - lo')) ∧ Below w1.heap.size w1 wr) (fun _ i _ => n - (intOf i).toNat)
    case atStart =>
      have h0 : lo + 0 - lo' = 0 := by
        have := hlo.out
        have h2 : lo ≤ cur := HOK.out.2.1
        omega
      refine ⟨0, Nat.zero_le _, rfl, ?_, Below.refl _ _⟩
      rw [h0]
      exact World.ownsRow_nil _ _ _ _
    case round =>
      obtain ⟨k, hk, rfl, own, hB⟩ := hrel
      have h3 := CBox.grown h1 hB
      have c3 : wr.cell? ⟨b, 2, none⟩ = some (.slice (some ⟨g, 0, none⟩) n cap) := CBox.cell h3 2
      by_cases hlt : k < n
      · have hlt' : (k : Int) < n := by omega
        have r3 := r1.stay (hB.block _ r1.lt)
        have hu := r3.cell hlt
        obtain ⟨z, hz⟩ : ∃ z : Int, Hid (z = ((lo + k : Nat) : Int)) := ⟨_, rfl⟩
        rw [← hz.out] at hu
        have hw : IntKind.i64.wrap ((k : Int) + 1) = (k : Int) + 1 := by
          rw [IntKind.wrap_i64]
          omega
        have hS := hB.size
        have keep : lo' ≤ lo + k → ∀ (v' : Value) (w' : World), w'.ownsRow w1.heap.size 33 1 v' (lo + k - lo' + 1) (rowU lo' (lo + k - lo') ++ [.int .u32 z]) → w'.ownsRow w1.heap.size 33 1 v' (lo + (k + 1) - lo') (rowU lo' (lo + (k + 1) - lo')) := by
          intro hle v' w' h
          rw [hz.out, show lo + k = lo' + (lo + k - lo') from by omega, Nat.add_sub_cancel_left, rowU_snoc] at h
          rw [show lo + (k + 1) - lo' = lo + k - lo' + 1 from by omega]
          exact h
        have HK := hide' keep
        have hm1 : lo + k - lo' ≤ 1000000 := by
          have h1 : n + lo = cur + 1 := hn.out
          have h3 : cur ≤ 1000000 := HOK.out.2.2
          omega
        clear keep r3
        by_cases hb : B ≤ lo + k
        · have hzb : (B : Int) ≤ z := by
            rw [hz.out]
            omega
          have hle : lo' ≤ lo + k := by
            have := hlo.out
            omega
          go_wp2_with (at_builtin; refine wpList_append_at rfl _ _ 41 rfl w1.heap.size 33 i0 (.int .u32 0) 1 4 Try.underlying41 hi hz0 hz1 hz2 rfl (by decide) _ (lo + k - lo') (rowU lo' (lo + k - lo')) rfl (own.alloc _) ⟨wr.heap.size, 0, none⟩ 1 1 [.int .u32 z] rfl rfl (app1_at _ _ _) (app1_one _ rfl) (by unfold maxLen; omega) (by omega) (by rw [World.size_alloc]; omega) ?_)
          · intro v' w4 own4 grow4 _
            have hB4 : Below w1.heap.size w1 w4 := Below.grown (hB.alloc hS _) grow4 (by simp; omega) (own_block own)
            have own5 := HK.out hle v' w4 own4
            clear own own4 grow4 hB
            go_wp2
            go_roundw
            case rel => exact ⟨k + 1, by omega, by go_num, own5, hB4⟩
            case measure => simp [intOf]; omega
        · have hzb : ¬ (B : Int) ≤ z := by
            rw [hz.out]
            omega
          by_cases hl : k = n - 1
          · have hwn : IntKind.i64.wrap ((n : Int) - 1) = (k : Int) := by
              rw [IntKind.wrap_i64]
              omega
            have hle : lo' ≤ lo + k := by
              have h1 : n + lo = cur + 1 := hn.out
              have := hlo.out
              omega
            clear hl
            go_wp2_with (at_builtin; refine wpList_append_at rfl _ _ 41 rfl w1.heap.size 33 i0 (.int .u32 0) 1 4 Try.underlying41 hi hz0 hz1 hz2 rfl (by decide) _ (lo + k - lo') (rowU lo' (lo + k - lo')) rfl (own.alloc _) ⟨wr.heap.size, 0, none⟩ 1 1 [.int .u32 z] rfl rfl (app1_at _ _ _) (app1_one _ rfl) (by unfold maxLen; omega) (by omega) (by rw [World.size_alloc]; omega) ?_)
            · intro v' w4 own4 grow4 _
              have hB4 : Below w1.heap.size w1 w4 := Below.grown (hB.alloc hS _) grow4 (by simp; omega) (own_block own)
              have own5 := HK.out hle v' w4 own4
              clear own own4 grow4 hB
              go_wp2
              go_roundw
              case rel => exact ⟨k + 1, by omega, by go_num, own5, hB4⟩
              case measure => simp [intOf]; omega
          · have hwn : IntKind.i64.wrap ((n : Int) - 1) = (n : Int) - 1 := by
              rw [IntKind.wrap_i64]
              omega
            have hkn : ¬ (k : Int) = (n : Int) - 1 := by omega
            have hle : lo + (k + 1) - lo' = lo + k - lo' := by
              have h1 : n + lo = cur + 1 := hn.out
              have := hlo.out
              omega
            have own' := own
            rw [← hle] at own'
            clear own
            go_wp2
            go_roundw
            case rel => exact ⟨k + 1, by omega, by go_num, own', hB⟩
            case measure => simp [intOf]; omega
      · have hlt' : ¬ (k : Int) < n := by omega
        obtain rfl : k = n := by omega
        have hkd : kErase (s, lo, cur) B = (s, lo', cur) := by rw [hlo.out]; rfl
        have hpos : 0 < lo + k - lo' := by
          have h1 : k + lo = cur + 1 := hn.out
          have := hlo.out
          omega
        obtain ⟨g5, cap5, rfl, hg5, r5⟩ := URow.of (lo := lo') own rfl hpos
        obtain ⟨w5, rfl⟩ : ∃ w5, w5 = wr := ⟨_, rfl⟩
        have hB5 := hB
        have HE : Hid (lo + k - lo' + lo' = cur + 1) := by
          have h1 : k + lo = cur + 1 := hn.out
          have := hlo.out
          exact hide' (by omega)
        have HKD := hide' hkd
        generalize lo + k - lo' = n5 at r5 HE hpos ⊢
        clear hkd
        clear own hpos hlt hB h3
        have hbg5 : b ≠ g5 := by
          have := CBox.lt h1
          omega
        have h5 := CBox.grown h1 hB5
        have c25 : w5.cell? ⟨b, 2, none⟩ = some (.slice (some ⟨g, 0, none⟩) k cap) := CBox.cell h5 2
        have f25 := CBox.frozen h5 2
        have h6 : CBox 44 (w5.setCell ⟨b, 2, none⟩ (.slice (some ⟨g5, 0, none⟩) (n5) cap5)) b _ := CBox.put h5 2 (.slice (some ⟨g5, 0, none⟩) (n5) cap5)
        have r6 := r5.stay (w' := w5.setCell ⟨b, 2, none⟩ (.slice (some ⟨g5, 0, none⟩) (n5) cap5)) (Below.heap_setCell w5 ⟨b, 2, none⟩ _ g5 (Ne.symm hbg5))
        have o6 : Off F w1 (w5.setCell ⟨b, 2, none⟩ (.slice (some ⟨g5, 0, none⟩) (n5) cap5)) := Off.setCell (p := ⟨b, 2, none⟩) (Off.of_below hB5) (Or.inl hFb.out) _
        have HN : Hid (∀ k, (k = b ∨ k = g5) → F k ∨ w1.heap.size ≤ k) := hide' (fun k hk => hk.elim (fun e => Or.inl (e ▸ hFb.out)) (fun e => Or.inr (e ▸ hg5)))
        have HB5 := hide' hbg5
        clear hbg5 h5 r5 hB5
        have hInv : ∀ W, CBox 44 W b #[.pointer p, .int .u64 (nv s), .slice (some ⟨g5, 0, none⟩) n5 cap5] → URow W g5 n5 cap5 lo' → RKInv p (fun k => k = b ∨ k = g5) W (.pointer (some ⟨b, 0, none⟩)) (kErase (s, lo, cur) B) := by
          intro W hc hu
          rw [HKD.out]
          exact ⟨b, g5, _, cap5, HE, rfl, hc, HB5.out, hu, fun _ => Iff.rfl⟩
        have hI6 := hide' (hInv _ h6 r6)
        clear hInv h6 r6
        go_wp2
        go_ret
        first | exact ⟨rfl, fun k => k = b ∨ k = g5, G', hK.thenNew rpbase hd hltF.out hI6.out o6 HN.out⟩ | exact ⟨fun k => k = b ∨ k = g5, G', rfl, hK.thenNew rpbase hd hltF.out hI6.out o6 HN.out⟩
end Go.Proofs.Ytcfbdbjonmjplaa
