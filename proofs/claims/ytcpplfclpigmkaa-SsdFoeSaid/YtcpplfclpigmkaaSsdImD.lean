/- The landed device: Snap, Read. -/
import Derived.Test.YtcpplfclpigmkaaSsdImC
namespace Go.Proofs.Ytcpplfclpigmkaa
open Go.RowKit
set_option maxRecDepth 20000

theorem ponC (b : Nat) (st : PSt) (w : World) (h : PwBox w b st) : Calls Try.prog 27 #[.pointer (some ⟨b, 0, none⟩)] w fun e w' => e = .returned (.bool st.1) ∧ Clean w w' := by
  have c0 : w.cell? ⟨b, 0, none⟩ = some (.bool st.1) := CBox.cell h 0
  clear h
  generalize st.1 = o at *
  go_enter Try.func27, Try.ntmps27
  go_wp2
  go_ret
  exact ⟨rfl, Clean.refl _⟩
set_option maxHeartbeats 1000000 in
theorem isnap (p : Option Addr) (F : Nat → Prop) (v : Value) (st : SsdSt) (w : World) (hD : DvInv p F w v st) :
    Calls Try.prog 11 #[v] w fun e w' => ∃ z cz F', e = .returned (.slice z st.B.length cz) ∧ KeptG (DvInv p) F w v F' w' st ∧ SIn (NewOf w F') w' z st.B.length st.cur ∧ Fit z st.B.length cz ∧ Soft w w' := by
  have hlt := (dvbase p).lt hD
  have HK := hide' (fun w' => (dvbase p).kept (w' := w') hD)
  have HLT := hide' hlt
  clear hlt
  obtain ⟨b, g, FB, vD, f, rfl, h, hF⟩ := hD
  have HO := hide' h.olt
  clear hF
  have c0 : w.cell? ⟨b, 0, none⟩ = some (.slice (some ⟨g, 0, none⟩) st.B.length st.B.length) := CBox.cell h.box 0
  have hcl := icloneN ⟨g, 0, none⟩ st.B.length st.B.length st.B (by have := h.len; omega) w (h.row.sin (G := fun _ => True) trivial).sat
  go_enter Try.func11, Try.ntmps11
  go_wp2_with fail
  refine hcl.mono ?_
  clear hcl c0
  rintro e w1 ⟨v1, rfl, own1, hc1, hv1⟩
  obtain ⟨gz, cz, tail, rfl, hgz, hnc, hcm, hr⟩ := own_rowC own1 hv1
  clear hv1 own1
  have h1 := h.below hc1.b
  have hwt := iwait FB b g p vD f st w1 h1
  go_wp2_with fail
  refine hwt.mono ?_
  clear hwt
  rintro e w2 ⟨z, c2, rfl, fz, ht, hc2⟩
  have hc12 := hc1.trans hc2
  replace hr := hr.off (Off.of_below (F := fun _ => False) hc2.b) (fun h => h)
  have hly := ilay gz st.B.length cz st.B tail z st.Wt.length c2 st.Wt rfl hnc (by have := fz.1; have := fz.2.1; omega) h.wf w2 hr (ht.mono' (fun k hk e => by
    have := HO.out k (Or.inr (Or.inr hk))
    omega))
  go_wp2_with fail
  refine hly.mono ?_
  clear hly ht
  rintro e w3 ⟨rfl, hr3, ho3⟩
  go_wp2
  go_ret
  have hlen := layW_len st.Wt st.B h.wf
  have hB : Below w.heap.size w w3 := hc12.b.trans (ho3.o.below (fun k e => by omega) hc12.b.size)
  refine ⟨_, _, _, rfl, HK.out _ hB, ?_, ⟨hnc, hcm, fun e => by cases e⟩, fun k i hk => ?_⟩
  · have := hr3.sin (G := NewOf w _) ⟨hgz, fun hf => by have := HLT.out gz hf; omega⟩
    rw [hlen] at this
    exact this
  · by_cases e : k = gz
    · subst e
      exact hr3.frozen i
    · rcases Nat.lt_or_ge k w2.heap.size with hl | hl
      · rw [ho3.o.frozen (p := ⟨k, i, none⟩) hl e]
        exact hc12.f k i hk
      · exact ho3.s k i hl
set_option maxHeartbeats 1000000 in
theorem iread (p : Option Addr) (F G : Nat → Prop) (v : Value) (st : SsdSt) (q : PSt) (off n : Nat) (hoff : off + n ≤ st.B.length) (hq : q.1 = true) (w : World) (hD : DvInv p F w v st) (hP : PwInv G w (.pointer p) q) :
    Calls Try.prog 17 #[v, .int .i64 (off : Int), .int .i64 (n : Int)] w fun e w' => ∃ z cz F', e = .returned (.tuple #[.slice z n cz, .bool true]) ∧ KeptG (DvInv p) F w v F' w' st ∧ SIn (NewOf w F') w' z n ((st.cur.drop off).take n) ∧ Fit z n cz ∧ Soft w w' := by
  have hb0 := dvbase p
  have HD := hide' hD
  have HF := hide' (hb0.lt hD)
  obtain ⟨b, g, FB, vD, f, rfl, h, -⟩ := hD
  obtain ⟨bq, hp, hbq, -, -⟩ := hP
  obtain rfl : p = some ⟨bq, 0, none⟩ := by simpa using hp
  clear hp
  have hlen := h.len
  have HL := hide' (layW_len st.Wt st.B h.wf)
  have hi := iwithin b g st.B.length _ vD f off n hoff h.len w h.box
  have hbx := hide' h.box
  clear h
  have hw : IntKind.i64.wrap ((off : Int) + n) = (off : Int) + n := by
    rw [IntKind.wrap_i64]
    omega
  go_enter Try.func17, Try.ntmps17
  go_wp2_with fail
  refine hi.mono ?_
  clear hi
  rintro e w0 ⟨rfl, hc0⟩
  have k1 : w0.cell? ⟨b, 1, none⟩ = some (.pointer (some ⟨bq, 0, none⟩)) := CBox.cell (CBox.grown hbx.out hc0.b) 1
  have hon := ponC bq q w0 (CBox.grown hbq hc0.b)
  rw [hq] at hon
  go_wp2_with fail
  refine hon.mono ?_
  clear hon k1
  rintro e w1 ⟨rfl, hc1⟩
  have hc01 := hc0.trans hc1
  have hD1 := hb0.below HD.out hc01.b
  have hsn := isnap _ F _ st w1 hD1
  obtain ⟨N, HN⟩ : ∃ N, Hid (st.B.length = N) := ⟨_, rfl⟩
  rw [HN.out] at hsn hoff hlen
  clear hc0 hc1
  go_wp2_with fail
  refine hsn.mono ?_
  clear hsn hD1
  rintro e w2 ⟨z, cz, F', rfl, hK, hs, fz, hso⟩
  have hsl := sl_mid z N cz off (off + n) (by omega) (by have := fz.1; omega) w2
  have hm2 : off + n - off = n := by omega
  rw [hm2, Int.natCast_add] at hsl
  have hcl : (st.cur).length = N := by rw [← HN.out]; exact HL.out
  have hxs : SAt w2 (nextA z cz off) n ((st.cur.drop off).take n) := (hs.sat.tail (s := off) fz.1).head (s := n) (by omega)
  have hnn : nextA z cz off = none → n = 0 ∧ cz - off = 0 := fun e => by
    have hz : z = none := by
      unfold nextA at e
      split at e
      · exact e
      · cases z <;> simp_all
    obtain ⟨h1, h2⟩ := fz.2.2 hz
    omega
  have hcn := iclone (nextA z cz off) n (cz - off) _ (by omega) hnn w2 hxs
  clear hs hxs hnn hm2
  generalize nextA z cz off = z2 at *
  go_wp2_with fail
  refine hcn.mono ?_
  clear hcn hsl
  rintro e w3 ⟨v3, rfl, own3, hc3⟩
  obtain ⟨z3, c3, rfl, hs3, hn3, hm3, hz3⟩ := own_sin (by rw [List.length_take, List.length_drop, hcl]; omega) own3
  have hb3 := own_block own3
  go_wp2
  go_ret2
  have h12 := hK.off.size
  have h01 := hc01.b.size
  have hpost : KeptG (DvInv (some ⟨bq, 0, none⟩)) F w (.pointer (some ⟨b, 0, none⟩)) F' w3 st :=
    ⟨hb0.below hK.inv hc3.b, fun k hk => (hK.sub k hk).imp id (fun e => Nat.le_trans h01 e), ((Off.of_below hc01.b).trans hK.off (fun _ h => Or.inl h)).more hc3.b⟩
  refine ⟨_, _, _, rfl, hpost, hs3.mono (fun k _ hk => ⟨by have := hb3 k hk; omega, fun hf => ?_⟩), ⟨hn3, hm3, hz3⟩, fun k i hk => ?_⟩
  · have := hb0.lt hK.inv k hf
    have := hb3 k hk
    omega
  · rcases Nat.lt_or_ge k w2.heap.size with hl | hl
    · rw [World.frozen?_of_block (w := w2) (a := ⟨k, i, none⟩) (hc3.b.block k hl)]
      rcases Nat.lt_or_ge k w1.heap.size with hl1 | hl1
      · rw [hK.off.frozen (p := ⟨k, i, none⟩) hl1 (fun hf => by have := HF.out k hf; omega)]
        exact hc01.f k i hk
      · exact hso k i hl1
    · exact hc3.f k i hl
end Go.Proofs.Ytcpplfclpigmkaa
