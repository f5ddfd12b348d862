/- What lockboxref7's Twice comes to. -/
import Derived.Test.YtfgigbecmhmidaaRefOOpen
import Derived.Test.YtfgigbecmhmidaaRegion
namespace Go.Proofs.Ytfgigbecmhmidaa
open Go.RowKit

/-- Two of these have one key and one number. -/
def Mate (L : List Iss) (i k : Nat) : Prop := (L.getD i default).key = (L.getD k default).key ∧ (L.getD i default).non = (L.getD k default).non
def Two (L : List Iss) : Prop := ∃ i k, k < i ∧ i < L.length ∧ Mate L i k
theorem iss_rows {G : Nat → Prop} {w : World} {v : Value} {L : List Iss} (h : IRow G w v L) (hp : 0 < L.length) : ∃ g cap, v = .slice (some ⟨g, 0, none⟩) L.length cap ∧ L.length ≤ cap ∧ g < w.heap.size ∧ ∀ i, i < L.length → ∃ c, IssIn (fun k => G k ∧ v.ownBlock ≠ some k) w (L.getD i default) c i ∧ ∀ j u, (issC (L.getD i default) c i)[j]? = some u → w.cell? ⟨g, i * 10 + j, none⟩ = some u := by
  obtain ⟨g, cap, _, hv, hcap, hgl, _, _⟩ := iss_cells h 0 hp
  refine ⟨g, cap, hv, hcap, hgl, fun i hi => ?_⟩
  obtain ⟨g', cap', c, hv', _, _, h1, h2⟩ := iss_cells h i hi
  rw [hv'] at hv
  simp only [Value.slice.injEq, Option.some.injEq, Addr.mk.injEq] at hv
  rw [hv.1.1] at h2
  exact ⟨c, h1, h2⟩

set_option maxRecDepth 10000 in
set_option maxHeartbeats 4000000 in
theorem rtwice (F : Nat → Prop) (b : Nat) (st : OSt) (hL : st.1.length ≤ 50000) (t : Bool) (ht : t = true ↔ Two st.1) (w : World) (hI : RInv F w b st) : Calls Try.prog 21 #[.pointer (some ⟨b, 0, none⟩)] w fun e w' => e = .returned (.bool t) ∧ Below w.heap.size w w' := by
  have heq := eq32
  have heqN := eqN
  have HT := hide' ht
  clear ht
  go_enter Try.func21, Try.ntmps21
  go_wp2_with fail
  go_loopw [3] (fun v wr => ∃ i : Nat, i ≤ st.1.length ∧ v = .int .i64 (i : Int) ∧ Hid (∀ a, a < i → ∀ c, c < a → ¬ Mate st.1 a c) ∧ Below w.heap.size w wr) (fun v _ => st.1.length - (intOf v).toNat)
  case atStart => exact ⟨0, Nat.zero_le _, rfl, hide' (fun a ha => absurd ha (by omega)), Below.refl _ _⟩
  case round =>
    obtain ⟨i, hi, rfl, HFi, hB⟩ := hrel
    obtain ⟨FL, FS, vL, vS, hA, hF0, -⟩ := hI.below hB
    clear hF0
    by_cases hlt : i < st.1.length
    · obtain ⟨g, cap, rfl, hcap, hgl, hrow⟩ := iss_rows hA.iss (by omega)
      have k1 := hA.box.c0
      have hlI : (i : Int) < (st.1.length : Int) := by omega
      clear hrow
      go_wp2_with fail
      clear k1 hA hgl
      go_loopw [4] (fun v wr => ∃ k : Nat, k ≤ i ∧ v = .int .i64 (k : Int) ∧ (∀ c, c < k → ¬ Mate st.1 i c) ∧ Below w.heap.size w wr) (fun v _ => i - (intOf v).toNat)
      case atStart => exact ⟨0, Nat.zero_le _, rfl, (fun c hc => absurd hc (by omega)), hB⟩
      case round =>
        clear hB
        obtain ⟨k, hk, rfl, hfk, hB⟩ := hrel
        obtain ⟨FL, FS, vL, vS, hA, hF0, -⟩ := hI.below hB
        clear hF0
        by_cases hkl : k < i
        · obtain ⟨g, cap, rfl, hcap, hgl, hrow⟩ := iss_rows hA.iss (by omega)
          obtain ⟨ci, -, hci⟩ := hrow i hlt
          obtain ⟨ck, -, hck⟩ := hrow k (by omega)
          have hlK : (k : Int) < (st.1.length : Int) := by omega
          obtain ⟨y, HY⟩ : ∃ y, Hid (st.1.getD i default = y) := ⟨_, rfl⟩
          obtain ⟨z, HZ⟩ : ∃ z, Hid (st.1.getD k default = z) := ⟨_, rfl⟩
          rw [HY.out] at hci
          rw [HZ.out] at hck
          have a0 : wr.cell? ⟨g, i * 10, none⟩ = some (.int .u64 (nv y.key.1)) := hci 0 _ rfl
          have a1 : wr.cell? ⟨g, i * 10 + 1, none⟩ = some (.int .u64 (nv y.key.2)) := hci 1 _ rfl
          have a2 : wr.cell? ⟨g, i * 10 + 2, none⟩ = some (.int .u32 (nv32 y.non.1)) := hci 2 _ rfl
          have a3 : wr.cell? ⟨g, i * 10 + 3, none⟩ = some (.int .u32 (nv32 y.non.2.1)) := hci 3 _ rfl
          have a4 : wr.cell? ⟨g, i * 10 + 4, none⟩ = some (.int .u64 (nv y.non.2.2)) := hci 4 _ rfl
          have b0 : wr.cell? ⟨g, k * 10, none⟩ = some (.int .u64 (nv z.key.1)) := hck 0 _ rfl
          have b1 : wr.cell? ⟨g, k * 10 + 1, none⟩ = some (.int .u64 (nv z.key.2)) := hck 1 _ rfl
          have b2 : wr.cell? ⟨g, k * 10 + 2, none⟩ = some (.int .u32 (nv32 z.non.1)) := hck 2 _ rfl
          have b3 : wr.cell? ⟨g, k * 10 + 3, none⟩ = some (.int .u32 (nv32 z.non.2.1)) := hck 3 _ rfl
          have b4 : wr.cell? ⟨g, k * 10 + 4, none⟩ = some (.int .u64 (nv z.non.2.2)) := hck 4 _ rfl
          clear hrow hci hck
          by_cases h1 : y.key = z.key
          · have g1 : (nv y.key.1 == nv z.key.1 && nv y.key.2 == nv z.key.2) = true := by rw [pair_eq_of]; exact decide_eq_true h1
            by_cases h2 : y.non = z.non
            · have g2 : (nv32 y.non.1 == nv32 z.non.1 && nv32 y.non.2.1 == nv32 z.non.2.1 && nv y.non.2.2 == nv z.non.2.2) = true := by rw [non_eq_of]; exact decide_eq_true h2
              have htt : t = true := HT.out.2 ⟨i, k, hkl, hlt, by rw [Mate, HY.out, HZ.out]; exact ⟨h1, h2⟩⟩
              subst htt
              clear h1 h2 hfk
              go_wp2_with fail
              refine wp_region_held_drew (S := fun w' => Below wr.heap.size wr w') (by kernel_rfl) (Below.refl _ _).drew (fun hHeld => ?_)
              refine takeM 0 19 0 rfl rfl rfl (by kernel_rfl) (by kernel_rfl) (by kernel_rfl) (fun _ _ _ h => h) (by rfl) hHeld rfl ?_
              simp only [List.set_cons_succ, List.set_cons_zero]
              refine takeL 1 20 (v := ?_) rfl rfl (by kernel_rfl) (by kernel_rfl) (by kernel_rfl) (fun _ _ _ h => h) (by rfl) hHeld (fun w hSw => ?_) ?_
              rotate_left 1
              · (try dsimp only at hSw)
                clear hSw
                go_simp
                try with_reducible rfl
              simp only [List.set_cons_succ, List.set_cons_zero]
              refine takeL 2 21 (v := ?_) rfl rfl (by kernel_rfl) (by kernel_rfl) (by kernel_rfl) (fun _ _ _ h => h) (by rfl) hHeld (fun w hSw => ?_) ?_
              rotate_left 1
              · (try dsimp only at hSw)
                clear hSw
                go_simp
                try with_reducible rfl
              simp only [List.set_cons_succ, List.set_cons_zero]
              refine takeL 3 22 (v := ?_) rfl rfl (by kernel_rfl) (by kernel_rfl) (by kernel_rfl) (fun _ _ _ h => h) (by rfl) hHeld (fun w hSw => ?_) ?_
              rotate_left 1
              · (try dsimp only at hSw)
                have e0_ := (hA.box.grown hSw).c0
                clear hSw
                go_simp
                try with_reducible rfl
              simp only [List.set_cons_succ, List.set_cons_zero]
              refine takeM 4 23 3 rfl rfl rfl (by kernel_rfl) (by kernel_rfl) (by kernel_rfl) (fun _ _ _ h => h) (by rfl) hHeld rfl ?_
              simp only [List.set_cons_succ, List.set_cons_zero]
              refine takeL 5 24 (v := ?_) rfl rfl (by kernel_rfl) (by kernel_rfl) (by kernel_rfl) (fun _ _ _ h => h) (by rfl) hHeld (fun w hSw => ?_) ?_
              rotate_left 1
              · (try dsimp only at hSw)
                clear hSw
                go_simp
                try with_reducible rfl
              simp only [List.set_cons_succ, List.set_cons_zero]
              refine takeL 6 25 (v := ?_) rfl rfl (by kernel_rfl) (by kernel_rfl) (by kernel_rfl) (fun _ _ _ h => h) (by rfl) hHeld (fun w hSw => ?_) ?_
              rotate_left 1
              · (try dsimp only at hSw)
                clear hSw
                go_simp
                try with_reducible rfl
              simp only [List.set_cons_succ, List.set_cons_zero]
              refine takeL 7 26 (v := ?_) rfl rfl (by kernel_rfl) (by kernel_rfl) (by kernel_rfl) (fun _ _ _ h => h) (by rfl) hHeld (fun w hSw => ?_) ?_
              rotate_left 1
              · (try dsimp only at hSw)
                have e0_ := (hSw.cell (p := ⟨g, i * 10, none⟩) hgl).trans a0
                have e1_ := (hSw.cell (p := ⟨g, i * 10 + 1, none⟩) hgl).trans a1
                clear hSw
                go_simp
                try with_reducible rfl
              simp only [List.set_cons_succ, List.set_cons_zero]
              refine takeM 8 27 0 rfl rfl rfl (by kernel_rfl) (by kernel_rfl) (by kernel_rfl) (fun _ _ _ h => h) (by rfl) hHeld rfl ?_
              simp only [List.set_cons_succ, List.set_cons_zero]
              refine takeL 9 28 (v := ?_) rfl rfl (by kernel_rfl) (by kernel_rfl) (by kernel_rfl) (fun _ _ _ h => h) (by rfl) hHeld (fun w hSw => ?_) ?_
              rotate_left 1
              · (try dsimp only at hSw)
                clear hSw
                go_simp
                try with_reducible rfl
              simp only [List.set_cons_succ, List.set_cons_zero]
              refine takeL 10 29 (v := ?_) rfl rfl (by kernel_rfl) (by kernel_rfl) (by kernel_rfl) (fun _ _ _ h => h) (by rfl) hHeld (fun w hSw => ?_) ?_
              rotate_left 1
              · (try dsimp only at hSw)
                clear hSw
                go_simp
                try with_reducible rfl
              simp only [List.set_cons_succ, List.set_cons_zero]
              refine takeL 11 30 (v := ?_) rfl rfl (by kernel_rfl) (by kernel_rfl) (by kernel_rfl) (fun _ _ _ h => h) (by rfl) hHeld (fun w hSw => ?_) ?_
              rotate_left 1
              · (try dsimp only at hSw)
                have e0_ := (hA.box.grown hSw).c0
                clear hSw
                go_simp
                try with_reducible rfl
              simp only [List.set_cons_succ, List.set_cons_zero]
              refine takeM 12 31 4 rfl rfl rfl (by kernel_rfl) (by kernel_rfl) (by kernel_rfl) (fun _ _ _ h => h) (by rfl) hHeld rfl ?_
              simp only [List.set_cons_succ, List.set_cons_zero]
              refine takeL 13 32 (v := ?_) rfl rfl (by kernel_rfl) (by kernel_rfl) (by kernel_rfl) (fun _ _ _ h => h) (by rfl) hHeld (fun w hSw => ?_) ?_
              rotate_left 1
              · (try dsimp only at hSw)
                clear hSw
                go_simp
                try with_reducible rfl
              simp only [List.set_cons_succ, List.set_cons_zero]
              refine takeL 14 33 (v := ?_) rfl rfl (by kernel_rfl) (by kernel_rfl) (by kernel_rfl) (fun _ _ _ h => h) (by rfl) hHeld (fun w hSw => ?_) ?_
              rotate_left 1
              · (try dsimp only at hSw)
                clear hSw
                go_simp
                try with_reducible rfl
              simp only [List.set_cons_succ, List.set_cons_zero]
              refine takeL 15 34 (v := ?_) rfl rfl (by kernel_rfl) (by kernel_rfl) (by kernel_rfl) (fun _ _ _ h => h) (by rfl) hHeld (fun w hSw => ?_) ?_
              rotate_left 1
              · (try dsimp only at hSw)
                have e0_ := (hSw.cell (p := ⟨g, k * 10, none⟩) hgl).trans b0
                have e1_ := (hSw.cell (p := ⟨g, k * 10 + 1, none⟩) hgl).trans b1
                clear hSw
                go_simp
                try with_reducible rfl
              simp only [List.set_cons_succ, List.set_cons_zero]
              refine takeL 16 35 (v := ?_) rfl rfl (by kernel_rfl) (by kernel_rfl) (by kernel_rfl) (fun _ _ _ h => h) (by rfl) hHeld (fun w hSw => ?_) ?_
              rotate_left 1
              · (try dsimp only at hSw)
                clear hSw
                go_simp
                try with_reducible rfl
              simp only [List.set_cons_succ, List.set_cons_zero]
              refine takeM 17 36 35 rfl rfl rfl (by kernel_rfl) (by kernel_rfl) (by kernel_rfl) (fun _ _ _ h => h) (by rfl) hHeld rfl ?_
              simp only [List.set_cons_succ, List.set_cons_zero]
              refine takeM 18 37 0 rfl rfl rfl (by kernel_rfl) (by kernel_rfl) (by kernel_rfl) (fun _ _ _ h => h) (by rfl) hHeld rfl ?_
              simp only [List.set_cons_succ, List.set_cons_zero]
              refine takeL 19 38 (v := ?_) rfl rfl (by kernel_rfl) (by kernel_rfl) (by kernel_rfl) (fun _ _ _ h => h) (by rfl) hHeld (fun w hSw => ?_) ?_
              rotate_left 1
              · (try dsimp only at hSw)
                clear hSw
                go_simp
                try with_reducible rfl
              simp only [List.set_cons_succ, List.set_cons_zero]
              refine takeL 20 39 (v := ?_) rfl rfl (by kernel_rfl) (by kernel_rfl) (by kernel_rfl) (fun _ _ _ h => h) (by rfl) hHeld (fun w hSw => ?_) ?_
              rotate_left 1
              · (try dsimp only at hSw)
                clear hSw
                go_simp
                try with_reducible rfl
              simp only [List.set_cons_succ, List.set_cons_zero]
              refine takeL 21 40 (v := ?_) rfl rfl (by kernel_rfl) (by kernel_rfl) (by kernel_rfl) (fun _ _ _ h => h) (by rfl) hHeld (fun w hSw => ?_) ?_
              rotate_left 1
              · (try dsimp only at hSw)
                have e0_ := (hA.box.grown hSw).c0
                clear hSw
                go_simp
                try with_reducible rfl
              simp only [List.set_cons_succ, List.set_cons_zero]
              refine takeM 22 41 3 rfl rfl rfl (by kernel_rfl) (by kernel_rfl) (by kernel_rfl) (fun _ _ _ h => h) (by rfl) hHeld rfl ?_
              simp only [List.set_cons_succ, List.set_cons_zero]
              refine takeL 23 42 (v := ?_) rfl rfl (by kernel_rfl) (by kernel_rfl) (by kernel_rfl) (fun _ _ _ h => h) (by rfl) hHeld (fun w hSw => ?_) ?_
              rotate_left 1
              · (try dsimp only at hSw)
                clear hSw
                go_simp
                try with_reducible rfl
              simp only [List.set_cons_succ, List.set_cons_zero]
              refine takeL 24 43 (v := ?_) rfl rfl (by kernel_rfl) (by kernel_rfl) (by kernel_rfl) (fun _ _ _ h => h) (by rfl) hHeld (fun w hSw => ?_) ?_
              rotate_left 1
              · (try dsimp only at hSw)
                clear hSw
                go_simp
                try with_reducible rfl
              simp only [List.set_cons_succ, List.set_cons_zero]
              refine takeL 25 44 (v := ?_) rfl rfl (by kernel_rfl) (by kernel_rfl) (by kernel_rfl) (fun _ _ _ h => h) (by rfl) hHeld (fun w hSw => ?_) ?_
              rotate_left 1
              · (try dsimp only at hSw)
                have e2_ := (hSw.cell (p := ⟨g, i * 10 + 2, none⟩) hgl).trans a2
                have e3_ := (hSw.cell (p := ⟨g, i * 10 + 3, none⟩) hgl).trans a3
                have e4_ := (hSw.cell (p := ⟨g, i * 10 + 4, none⟩) hgl).trans a4
                clear hSw
                go_simp
                try with_reducible rfl
              simp only [List.set_cons_succ, List.set_cons_zero]
              refine takeM 26 45 0 rfl rfl rfl (by kernel_rfl) (by kernel_rfl) (by kernel_rfl) (fun _ _ _ h => h) (by rfl) hHeld rfl ?_
              simp only [List.set_cons_succ, List.set_cons_zero]
              refine takeL 27 46 (v := ?_) rfl rfl (by kernel_rfl) (by kernel_rfl) (by kernel_rfl) (fun _ _ _ h => h) (by rfl) hHeld (fun w hSw => ?_) ?_
              rotate_left 1
              · (try dsimp only at hSw)
                clear hSw
                go_simp
                try with_reducible rfl
              simp only [List.set_cons_succ, List.set_cons_zero]
              refine takeL 28 47 (v := ?_) rfl rfl (by kernel_rfl) (by kernel_rfl) (by kernel_rfl) (fun _ _ _ h => h) (by rfl) hHeld (fun w hSw => ?_) ?_
              rotate_left 1
              · (try dsimp only at hSw)
                clear hSw
                go_simp
                try with_reducible rfl
              simp only [List.set_cons_succ, List.set_cons_zero]
              refine takeL 29 48 (v := ?_) rfl rfl (by kernel_rfl) (by kernel_rfl) (by kernel_rfl) (fun _ _ _ h => h) (by rfl) hHeld (fun w hSw => ?_) ?_
              rotate_left 1
              · (try dsimp only at hSw)
                have e0_ := (hA.box.grown hSw).c0
                clear hSw
                go_simp
                try with_reducible rfl
              simp only [List.set_cons_succ, List.set_cons_zero]
              refine takeM 30 49 4 rfl rfl rfl (by kernel_rfl) (by kernel_rfl) (by kernel_rfl) (fun _ _ _ h => h) (by rfl) hHeld rfl ?_
              simp only [List.set_cons_succ, List.set_cons_zero]
              refine takeL 31 50 (v := ?_) rfl rfl (by kernel_rfl) (by kernel_rfl) (by kernel_rfl) (fun _ _ _ h => h) (by rfl) hHeld (fun w hSw => ?_) ?_
              rotate_left 1
              · (try dsimp only at hSw)
                clear hSw
                go_simp
                try with_reducible rfl
              simp only [List.set_cons_succ, List.set_cons_zero]
              refine takeL 32 51 (v := ?_) rfl rfl (by kernel_rfl) (by kernel_rfl) (by kernel_rfl) (fun _ _ _ h => h) (by rfl) hHeld (fun w hSw => ?_) ?_
              rotate_left 1
              · (try dsimp only at hSw)
                clear hSw
                go_simp
                try with_reducible rfl
              simp only [List.set_cons_succ, List.set_cons_zero]
              refine takeL 33 52 (v := ?_) rfl rfl (by kernel_rfl) (by kernel_rfl) (by kernel_rfl) (fun _ _ _ h => h) (by rfl) hHeld (fun w hSw => ?_) ?_
              rotate_left 1
              · (try dsimp only at hSw)
                have e2_ := (hSw.cell (p := ⟨g, k * 10 + 2, none⟩) hgl).trans b2
                have e3_ := (hSw.cell (p := ⟨g, k * 10 + 3, none⟩) hgl).trans b3
                have e4_ := (hSw.cell (p := ⟨g, k * 10 + 4, none⟩) hgl).trans b4
                clear hSw
                go_simp
                try with_reducible rfl
              simp only [List.set_cons_succ, List.set_cons_zero]
              refine takeL 34 53 (v := ?_) rfl rfl (by kernel_rfl) (by kernel_rfl) (by kernel_rfl) (fun _ _ _ h => h) (by rfl) hHeld (fun w hSw => ?_) ?_
              rotate_left 1
              · (try dsimp only at hSw)
                clear hSw
                go_simp
                try with_reducible rfl
              simp only [List.set_cons_succ, List.set_cons_zero]
              refine takeL 35 54 (v := ?_) rfl rfl (by kernel_rfl) (by kernel_rfl) (by kernel_rfl) (fun _ _ _ h => h) (by rfl) hHeld (fun w hSw => ?_) ?_
              rotate_left 1
              · (try dsimp only at hSw)
                clear hSw
                go_simp
                try with_reducible rfl
              simp only [List.set_cons_succ, List.set_cons_zero]
              refine wpAnyH_done (by kernel_rfl) ?_ _
              go_wp2
              go_ret
              exact ⟨rfl, hB.drew⟩
            · have g2 : (nv32 y.non.1 == nv32 z.non.1 && nv32 y.non.2.1 == nv32 z.non.2.1 && nv y.non.2.2 == nv z.non.2.2) = false := by rw [non_eq_of]; exact decide_eq_false h2
              have hnm : ¬ Mate st.1 i k := by rw [Mate, HY.out, HZ.out]; exact fun e => h2 e.2
              clear h1 h2
              go_wp2_with fail
              refine wp_region_held_drew (S := fun w' => Below wr.heap.size wr w') (by kernel_rfl) (Below.refl _ _).drew (fun hHeld => ?_)
              refine takeM 0 19 0 rfl rfl rfl (by kernel_rfl) (by kernel_rfl) (by kernel_rfl) (fun _ _ _ h => h) (by rfl) hHeld rfl ?_
              simp only [List.set_cons_succ, List.set_cons_zero]
              refine takeL 1 20 (v := ?_) rfl rfl (by kernel_rfl) (by kernel_rfl) (by kernel_rfl) (fun _ _ _ h => h) (by rfl) hHeld (fun w hSw => ?_) ?_
              rotate_left 1
              · (try dsimp only at hSw)
                clear hSw
                go_simp
                try with_reducible rfl
              simp only [List.set_cons_succ, List.set_cons_zero]
              refine takeL 2 21 (v := ?_) rfl rfl (by kernel_rfl) (by kernel_rfl) (by kernel_rfl) (fun _ _ _ h => h) (by rfl) hHeld (fun w hSw => ?_) ?_
              rotate_left 1
              · (try dsimp only at hSw)
                clear hSw
                go_simp
                try with_reducible rfl
              simp only [List.set_cons_succ, List.set_cons_zero]
              refine takeL 3 22 (v := ?_) rfl rfl (by kernel_rfl) (by kernel_rfl) (by kernel_rfl) (fun _ _ _ h => h) (by rfl) hHeld (fun w hSw => ?_) ?_
              rotate_left 1
              · (try dsimp only at hSw)
                have e0_ := (hA.box.grown hSw).c0
                clear hSw
                go_simp
                try with_reducible rfl
              simp only [List.set_cons_succ, List.set_cons_zero]
              refine takeM 4 23 3 rfl rfl rfl (by kernel_rfl) (by kernel_rfl) (by kernel_rfl) (fun _ _ _ h => h) (by rfl) hHeld rfl ?_
              simp only [List.set_cons_succ, List.set_cons_zero]
              refine takeL 5 24 (v := ?_) rfl rfl (by kernel_rfl) (by kernel_rfl) (by kernel_rfl) (fun _ _ _ h => h) (by rfl) hHeld (fun w hSw => ?_) ?_
              rotate_left 1
              · (try dsimp only at hSw)
                clear hSw
                go_simp
                try with_reducible rfl
              simp only [List.set_cons_succ, List.set_cons_zero]
              refine takeL 6 25 (v := ?_) rfl rfl (by kernel_rfl) (by kernel_rfl) (by kernel_rfl) (fun _ _ _ h => h) (by rfl) hHeld (fun w hSw => ?_) ?_
              rotate_left 1
              · (try dsimp only at hSw)
                clear hSw
                go_simp
                try with_reducible rfl
              simp only [List.set_cons_succ, List.set_cons_zero]
              refine takeL 7 26 (v := ?_) rfl rfl (by kernel_rfl) (by kernel_rfl) (by kernel_rfl) (fun _ _ _ h => h) (by rfl) hHeld (fun w hSw => ?_) ?_
              rotate_left 1
              · (try dsimp only at hSw)
                have e0_ := (hSw.cell (p := ⟨g, i * 10, none⟩) hgl).trans a0
                have e1_ := (hSw.cell (p := ⟨g, i * 10 + 1, none⟩) hgl).trans a1
                clear hSw
                go_simp
                try with_reducible rfl
              simp only [List.set_cons_succ, List.set_cons_zero]
              refine takeM 8 27 0 rfl rfl rfl (by kernel_rfl) (by kernel_rfl) (by kernel_rfl) (fun _ _ _ h => h) (by rfl) hHeld rfl ?_
              simp only [List.set_cons_succ, List.set_cons_zero]
              refine takeL 9 28 (v := ?_) rfl rfl (by kernel_rfl) (by kernel_rfl) (by kernel_rfl) (fun _ _ _ h => h) (by rfl) hHeld (fun w hSw => ?_) ?_
              rotate_left 1
              · (try dsimp only at hSw)
                clear hSw
                go_simp
                try with_reducible rfl
              simp only [List.set_cons_succ, List.set_cons_zero]
              refine takeL 10 29 (v := ?_) rfl rfl (by kernel_rfl) (by kernel_rfl) (by kernel_rfl) (fun _ _ _ h => h) (by rfl) hHeld (fun w hSw => ?_) ?_
              rotate_left 1
              · (try dsimp only at hSw)
                clear hSw
                go_simp
                try with_reducible rfl
              simp only [List.set_cons_succ, List.set_cons_zero]
              refine takeL 11 30 (v := ?_) rfl rfl (by kernel_rfl) (by kernel_rfl) (by kernel_rfl) (fun _ _ _ h => h) (by rfl) hHeld (fun w hSw => ?_) ?_
              rotate_left 1
              · (try dsimp only at hSw)
                have e0_ := (hA.box.grown hSw).c0
                clear hSw
                go_simp
                try with_reducible rfl
              simp only [List.set_cons_succ, List.set_cons_zero]
              refine takeM 12 31 4 rfl rfl rfl (by kernel_rfl) (by kernel_rfl) (by kernel_rfl) (fun _ _ _ h => h) (by rfl) hHeld rfl ?_
              simp only [List.set_cons_succ, List.set_cons_zero]
              refine takeL 13 32 (v := ?_) rfl rfl (by kernel_rfl) (by kernel_rfl) (by kernel_rfl) (fun _ _ _ h => h) (by rfl) hHeld (fun w hSw => ?_) ?_
              rotate_left 1
              · (try dsimp only at hSw)
                clear hSw
                go_simp
                try with_reducible rfl
              simp only [List.set_cons_succ, List.set_cons_zero]
              refine takeL 14 33 (v := ?_) rfl rfl (by kernel_rfl) (by kernel_rfl) (by kernel_rfl) (fun _ _ _ h => h) (by rfl) hHeld (fun w hSw => ?_) ?_
              rotate_left 1
              · (try dsimp only at hSw)
                clear hSw
                go_simp
                try with_reducible rfl
              simp only [List.set_cons_succ, List.set_cons_zero]
              refine takeL 15 34 (v := ?_) rfl rfl (by kernel_rfl) (by kernel_rfl) (by kernel_rfl) (fun _ _ _ h => h) (by rfl) hHeld (fun w hSw => ?_) ?_
              rotate_left 1
              · (try dsimp only at hSw)
                have e0_ := (hSw.cell (p := ⟨g, k * 10, none⟩) hgl).trans b0
                have e1_ := (hSw.cell (p := ⟨g, k * 10 + 1, none⟩) hgl).trans b1
                clear hSw
                go_simp
                try with_reducible rfl
              simp only [List.set_cons_succ, List.set_cons_zero]
              refine takeL 16 35 (v := ?_) rfl rfl (by kernel_rfl) (by kernel_rfl) (by kernel_rfl) (fun _ _ _ h => h) (by rfl) hHeld (fun w hSw => ?_) ?_
              rotate_left 1
              · (try dsimp only at hSw)
                clear hSw
                go_simp
                try with_reducible rfl
              simp only [List.set_cons_succ, List.set_cons_zero]
              refine takeM 17 36 35 rfl rfl rfl (by kernel_rfl) (by kernel_rfl) (by kernel_rfl) (fun _ _ _ h => h) (by rfl) hHeld rfl ?_
              simp only [List.set_cons_succ, List.set_cons_zero]
              refine takeM 18 37 0 rfl rfl rfl (by kernel_rfl) (by kernel_rfl) (by kernel_rfl) (fun _ _ _ h => h) (by rfl) hHeld rfl ?_
              simp only [List.set_cons_succ, List.set_cons_zero]
              refine takeL 19 38 (v := ?_) rfl rfl (by kernel_rfl) (by kernel_rfl) (by kernel_rfl) (fun _ _ _ h => h) (by rfl) hHeld (fun w hSw => ?_) ?_
              rotate_left 1
              · (try dsimp only at hSw)
                clear hSw
                go_simp
                try with_reducible rfl
              simp only [List.set_cons_succ, List.set_cons_zero]
              refine takeL 20 39 (v := ?_) rfl rfl (by kernel_rfl) (by kernel_rfl) (by kernel_rfl) (fun _ _ _ h => h) (by rfl) hHeld (fun w hSw => ?_) ?_
              rotate_left 1
              · (try dsimp only at hSw)
                clear hSw
                go_simp
                try with_reducible rfl
              simp only [List.set_cons_succ, List.set_cons_zero]
              refine takeL 21 40 (v := ?_) rfl rfl (by kernel_rfl) (by kernel_rfl) (by kernel_rfl) (fun _ _ _ h => h) (by rfl) hHeld (fun w hSw => ?_) ?_
              rotate_left 1
              · (try dsimp only at hSw)
                have e0_ := (hA.box.grown hSw).c0
                clear hSw
                go_simp
                try with_reducible rfl
              simp only [List.set_cons_succ, List.set_cons_zero]
              refine takeM 22 41 3 rfl rfl rfl (by kernel_rfl) (by kernel_rfl) (by kernel_rfl) (fun _ _ _ h => h) (by rfl) hHeld rfl ?_
              simp only [List.set_cons_succ, List.set_cons_zero]
              refine takeL 23 42 (v := ?_) rfl rfl (by kernel_rfl) (by kernel_rfl) (by kernel_rfl) (fun _ _ _ h => h) (by rfl) hHeld (fun w hSw => ?_) ?_
              rotate_left 1
              · (try dsimp only at hSw)
                clear hSw
                go_simp
                try with_reducible rfl
              simp only [List.set_cons_succ, List.set_cons_zero]
              refine takeL 24 43 (v := ?_) rfl rfl (by kernel_rfl) (by kernel_rfl) (by kernel_rfl) (fun _ _ _ h => h) (by rfl) hHeld (fun w hSw => ?_) ?_
              rotate_left 1
              · (try dsimp only at hSw)
                clear hSw
                go_simp
                try with_reducible rfl
              simp only [List.set_cons_succ, List.set_cons_zero]
              refine takeL 25 44 (v := ?_) rfl rfl (by kernel_rfl) (by kernel_rfl) (by kernel_rfl) (fun _ _ _ h => h) (by rfl) hHeld (fun w hSw => ?_) ?_
              rotate_left 1
              · (try dsimp only at hSw)
                have e2_ := (hSw.cell (p := ⟨g, i * 10 + 2, none⟩) hgl).trans a2
                have e3_ := (hSw.cell (p := ⟨g, i * 10 + 3, none⟩) hgl).trans a3
                have e4_ := (hSw.cell (p := ⟨g, i * 10 + 4, none⟩) hgl).trans a4
                clear hSw
                go_simp
                try with_reducible rfl
              simp only [List.set_cons_succ, List.set_cons_zero]
              refine takeM 26 45 0 rfl rfl rfl (by kernel_rfl) (by kernel_rfl) (by kernel_rfl) (fun _ _ _ h => h) (by rfl) hHeld rfl ?_
              simp only [List.set_cons_succ, List.set_cons_zero]
              refine takeL 27 46 (v := ?_) rfl rfl (by kernel_rfl) (by kernel_rfl) (by kernel_rfl) (fun _ _ _ h => h) (by rfl) hHeld (fun w hSw => ?_) ?_
              rotate_left 1
              · (try dsimp only at hSw)
                clear hSw
                go_simp
                try with_reducible rfl
              simp only [List.set_cons_succ, List.set_cons_zero]
              refine takeL 28 47 (v := ?_) rfl rfl (by kernel_rfl) (by kernel_rfl) (by kernel_rfl) (fun _ _ _ h => h) (by rfl) hHeld (fun w hSw => ?_) ?_
              rotate_left 1
              · (try dsimp only at hSw)
                clear hSw
                go_simp
                try with_reducible rfl
              simp only [List.set_cons_succ, List.set_cons_zero]
              refine takeL 29 48 (v := ?_) rfl rfl (by kernel_rfl) (by kernel_rfl) (by kernel_rfl) (fun _ _ _ h => h) (by rfl) hHeld (fun w hSw => ?_) ?_
              rotate_left 1
              · (try dsimp only at hSw)
                have e0_ := (hA.box.grown hSw).c0
                clear hSw
                go_simp
                try with_reducible rfl
              simp only [List.set_cons_succ, List.set_cons_zero]
              refine takeM 30 49 4 rfl rfl rfl (by kernel_rfl) (by kernel_rfl) (by kernel_rfl) (fun _ _ _ h => h) (by rfl) hHeld rfl ?_
              simp only [List.set_cons_succ, List.set_cons_zero]
              refine takeL 31 50 (v := ?_) rfl rfl (by kernel_rfl) (by kernel_rfl) (by kernel_rfl) (fun _ _ _ h => h) (by rfl) hHeld (fun w hSw => ?_) ?_
              rotate_left 1
              · (try dsimp only at hSw)
                clear hSw
                go_simp
                try with_reducible rfl
              simp only [List.set_cons_succ, List.set_cons_zero]
              refine takeL 32 51 (v := ?_) rfl rfl (by kernel_rfl) (by kernel_rfl) (by kernel_rfl) (fun _ _ _ h => h) (by rfl) hHeld (fun w hSw => ?_) ?_
              rotate_left 1
              · (try dsimp only at hSw)
                clear hSw
                go_simp
                try with_reducible rfl
              simp only [List.set_cons_succ, List.set_cons_zero]
              refine takeL 33 52 (v := ?_) rfl rfl (by kernel_rfl) (by kernel_rfl) (by kernel_rfl) (fun _ _ _ h => h) (by rfl) hHeld (fun w hSw => ?_) ?_
              rotate_left 1
              · (try dsimp only at hSw)
                have e2_ := (hSw.cell (p := ⟨g, k * 10 + 2, none⟩) hgl).trans b2
                have e3_ := (hSw.cell (p := ⟨g, k * 10 + 3, none⟩) hgl).trans b3
                have e4_ := (hSw.cell (p := ⟨g, k * 10 + 4, none⟩) hgl).trans b4
                clear hSw
                go_simp
                try with_reducible rfl
              simp only [List.set_cons_succ, List.set_cons_zero]
              refine takeL 34 53 (v := ?_) rfl rfl (by kernel_rfl) (by kernel_rfl) (by kernel_rfl) (fun _ _ _ h => h) (by rfl) hHeld (fun w hSw => ?_) ?_
              rotate_left 1
              · (try dsimp only at hSw)
                clear hSw
                go_simp
                try with_reducible rfl
              simp only [List.set_cons_succ, List.set_cons_zero]
              refine takeL 35 54 (v := ?_) rfl rfl (by kernel_rfl) (by kernel_rfl) (by kernel_rfl) (fun _ _ _ h => h) (by rfl) hHeld (fun w hSw => ?_) ?_
              rotate_left 1
              · (try dsimp only at hSw)
                clear hSw
                go_simp
                try with_reducible rfl
              simp only [List.set_cons_succ, List.set_cons_zero]
              refine wpAnyH_done (by kernel_rfl) ?_ _
              go_wp2
              go_roundw
              case rel => exact ⟨k + 1, by omega, by go_num, fun c hc => (by
                by_cases e : c = k
                · subst e
                  exact hnm
                · exact hfk c (by omega)), hB.drew⟩
              case measure => simp [intOf]; omega
          · have g1 : (nv y.key.1 == nv z.key.1 && nv y.key.2 == nv z.key.2) = false := by rw [pair_eq_of]; exact decide_eq_false h1
            have hnm : ¬ Mate st.1 i k := by rw [Mate, HY.out, HZ.out]; exact fun e => h1 e.1
            clear h1
            go_wp2_with fail
            refine wp_region_held_drew (S := fun w' => Below wr.heap.size wr w') (by kernel_rfl) (Below.refl _ _).drew (fun hHeld => ?_)
            refine takeM 0 19 0 rfl rfl rfl (by kernel_rfl) (by kernel_rfl) (by kernel_rfl) (fun _ _ _ h => h) (by rfl) hHeld rfl ?_
            simp only [List.set_cons_succ, List.set_cons_zero]
            refine takeL 1 20 (v := ?_) rfl rfl (by kernel_rfl) (by kernel_rfl) (by kernel_rfl) (fun _ _ _ h => h) (by rfl) hHeld (fun w hSw => ?_) ?_
            rotate_left 1
            · (try dsimp only at hSw)
              clear hSw
              go_simp
              try with_reducible rfl
            simp only [List.set_cons_succ, List.set_cons_zero]
            refine takeL 2 21 (v := ?_) rfl rfl (by kernel_rfl) (by kernel_rfl) (by kernel_rfl) (fun _ _ _ h => h) (by rfl) hHeld (fun w hSw => ?_) ?_
            rotate_left 1
            · (try dsimp only at hSw)
              clear hSw
              go_simp
              try with_reducible rfl
            simp only [List.set_cons_succ, List.set_cons_zero]
            refine takeL 3 22 (v := ?_) rfl rfl (by kernel_rfl) (by kernel_rfl) (by kernel_rfl) (fun _ _ _ h => h) (by rfl) hHeld (fun w hSw => ?_) ?_
            rotate_left 1
            · (try dsimp only at hSw)
              have e0_ := (hA.box.grown hSw).c0
              clear hSw
              go_simp
              try with_reducible rfl
            simp only [List.set_cons_succ, List.set_cons_zero]
            refine takeM 4 23 3 rfl rfl rfl (by kernel_rfl) (by kernel_rfl) (by kernel_rfl) (fun _ _ _ h => h) (by rfl) hHeld rfl ?_
            simp only [List.set_cons_succ, List.set_cons_zero]
            refine takeL 5 24 (v := ?_) rfl rfl (by kernel_rfl) (by kernel_rfl) (by kernel_rfl) (fun _ _ _ h => h) (by rfl) hHeld (fun w hSw => ?_) ?_
            rotate_left 1
            · (try dsimp only at hSw)
              clear hSw
              go_simp
              try with_reducible rfl
            simp only [List.set_cons_succ, List.set_cons_zero]
            refine takeL 6 25 (v := ?_) rfl rfl (by kernel_rfl) (by kernel_rfl) (by kernel_rfl) (fun _ _ _ h => h) (by rfl) hHeld (fun w hSw => ?_) ?_
            rotate_left 1
            · (try dsimp only at hSw)
              clear hSw
              go_simp
              try with_reducible rfl
            simp only [List.set_cons_succ, List.set_cons_zero]
            refine takeL 7 26 (v := ?_) rfl rfl (by kernel_rfl) (by kernel_rfl) (by kernel_rfl) (fun _ _ _ h => h) (by rfl) hHeld (fun w hSw => ?_) ?_
            rotate_left 1
            · (try dsimp only at hSw)
              have e0_ := (hSw.cell (p := ⟨g, i * 10, none⟩) hgl).trans a0
              have e1_ := (hSw.cell (p := ⟨g, i * 10 + 1, none⟩) hgl).trans a1
              clear hSw
              go_simp
              try with_reducible rfl
            simp only [List.set_cons_succ, List.set_cons_zero]
            refine takeM 8 27 0 rfl rfl rfl (by kernel_rfl) (by kernel_rfl) (by kernel_rfl) (fun _ _ _ h => h) (by rfl) hHeld rfl ?_
            simp only [List.set_cons_succ, List.set_cons_zero]
            refine takeL 9 28 (v := ?_) rfl rfl (by kernel_rfl) (by kernel_rfl) (by kernel_rfl) (fun _ _ _ h => h) (by rfl) hHeld (fun w hSw => ?_) ?_
            rotate_left 1
            · (try dsimp only at hSw)
              clear hSw
              go_simp
              try with_reducible rfl
            simp only [List.set_cons_succ, List.set_cons_zero]
            refine takeL 10 29 (v := ?_) rfl rfl (by kernel_rfl) (by kernel_rfl) (by kernel_rfl) (fun _ _ _ h => h) (by rfl) hHeld (fun w hSw => ?_) ?_
            rotate_left 1
            · (try dsimp only at hSw)
              clear hSw
              go_simp
              try with_reducible rfl
            simp only [List.set_cons_succ, List.set_cons_zero]
            refine takeL 11 30 (v := ?_) rfl rfl (by kernel_rfl) (by kernel_rfl) (by kernel_rfl) (fun _ _ _ h => h) (by rfl) hHeld (fun w hSw => ?_) ?_
            rotate_left 1
            · (try dsimp only at hSw)
              have e0_ := (hA.box.grown hSw).c0
              clear hSw
              go_simp
              try with_reducible rfl
            simp only [List.set_cons_succ, List.set_cons_zero]
            refine takeM 12 31 4 rfl rfl rfl (by kernel_rfl) (by kernel_rfl) (by kernel_rfl) (fun _ _ _ h => h) (by rfl) hHeld rfl ?_
            simp only [List.set_cons_succ, List.set_cons_zero]
            refine takeL 13 32 (v := ?_) rfl rfl (by kernel_rfl) (by kernel_rfl) (by kernel_rfl) (fun _ _ _ h => h) (by rfl) hHeld (fun w hSw => ?_) ?_
            rotate_left 1
            · (try dsimp only at hSw)
              clear hSw
              go_simp
              try with_reducible rfl
            simp only [List.set_cons_succ, List.set_cons_zero]
            refine takeL 14 33 (v := ?_) rfl rfl (by kernel_rfl) (by kernel_rfl) (by kernel_rfl) (fun _ _ _ h => h) (by rfl) hHeld (fun w hSw => ?_) ?_
            rotate_left 1
            · (try dsimp only at hSw)
              clear hSw
              go_simp
              try with_reducible rfl
            simp only [List.set_cons_succ, List.set_cons_zero]
            refine takeL 15 34 (v := ?_) rfl rfl (by kernel_rfl) (by kernel_rfl) (by kernel_rfl) (fun _ _ _ h => h) (by rfl) hHeld (fun w hSw => ?_) ?_
            rotate_left 1
            · (try dsimp only at hSw)
              have e0_ := (hSw.cell (p := ⟨g, k * 10, none⟩) hgl).trans b0
              have e1_ := (hSw.cell (p := ⟨g, k * 10 + 1, none⟩) hgl).trans b1
              clear hSw
              go_simp
              try with_reducible rfl
            simp only [List.set_cons_succ, List.set_cons_zero]
            refine takeL 16 35 (v := ?_) rfl rfl (by kernel_rfl) (by kernel_rfl) (by kernel_rfl) (fun _ _ _ h => h) (by rfl) hHeld (fun w hSw => ?_) ?_
            rotate_left 1
            · (try dsimp only at hSw)
              clear hSw
              go_simp
              try with_reducible rfl
            simp only [List.set_cons_succ, List.set_cons_zero]
            refine takeM 17 36 35 rfl rfl rfl (by kernel_rfl) (by kernel_rfl) (by kernel_rfl) (fun _ _ _ h => h) (by rfl) hHeld rfl ?_
            simp only [List.set_cons_succ, List.set_cons_zero]
            refine takeN 18 37 rfl rfl (by kernel_rfl) (by kernel_rfl) (by kernel_rfl) (fun _ _ _ h => h) (by rfl) hHeld ?_
            simp only [List.set_cons_succ, List.set_cons_zero]
            refine takeN 19 38 rfl rfl (by kernel_rfl) (by kernel_rfl) (by kernel_rfl) (fun _ _ _ h => h) (by rfl) hHeld ?_
            simp only [List.set_cons_succ, List.set_cons_zero]
            refine takeN 20 39 rfl rfl (by kernel_rfl) (by kernel_rfl) (by kernel_rfl) (fun _ _ _ h => h) (by rfl) hHeld ?_
            simp only [List.set_cons_succ, List.set_cons_zero]
            refine takeN 21 40 rfl rfl (by kernel_rfl) (by kernel_rfl) (by kernel_rfl) (fun _ _ _ h => h) (by rfl) hHeld ?_
            simp only [List.set_cons_succ, List.set_cons_zero]
            refine takeN 22 41 rfl rfl (by kernel_rfl) (by kernel_rfl) (by kernel_rfl) (fun _ _ _ h => h) (by rfl) hHeld ?_
            simp only [List.set_cons_succ, List.set_cons_zero]
            refine takeN 23 42 rfl rfl (by kernel_rfl) (by kernel_rfl) (by kernel_rfl) (fun _ _ _ h => h) (by rfl) hHeld ?_
            simp only [List.set_cons_succ, List.set_cons_zero]
            refine takeN 24 43 rfl rfl (by kernel_rfl) (by kernel_rfl) (by kernel_rfl) (fun _ _ _ h => h) (by rfl) hHeld ?_
            simp only [List.set_cons_succ, List.set_cons_zero]
            refine takeN 25 44 rfl rfl (by kernel_rfl) (by kernel_rfl) (by kernel_rfl) (fun _ _ _ h => h) (by rfl) hHeld ?_
            simp only [List.set_cons_succ, List.set_cons_zero]
            refine takeN 26 45 rfl rfl (by kernel_rfl) (by kernel_rfl) (by kernel_rfl) (fun _ _ _ h => h) (by rfl) hHeld ?_
            simp only [List.set_cons_succ, List.set_cons_zero]
            refine takeN 27 46 rfl rfl (by kernel_rfl) (by kernel_rfl) (by kernel_rfl) (fun _ _ _ h => h) (by rfl) hHeld ?_
            simp only [List.set_cons_succ, List.set_cons_zero]
            refine takeN 28 47 rfl rfl (by kernel_rfl) (by kernel_rfl) (by kernel_rfl) (fun _ _ _ h => h) (by rfl) hHeld ?_
            simp only [List.set_cons_succ, List.set_cons_zero]
            refine takeN 29 48 rfl rfl (by kernel_rfl) (by kernel_rfl) (by kernel_rfl) (fun _ _ _ h => h) (by rfl) hHeld ?_
            simp only [List.set_cons_succ, List.set_cons_zero]
            refine takeN 30 49 rfl rfl (by kernel_rfl) (by kernel_rfl) (by kernel_rfl) (fun _ _ _ h => h) (by rfl) hHeld ?_
            simp only [List.set_cons_succ, List.set_cons_zero]
            refine takeN 31 50 rfl rfl (by kernel_rfl) (by kernel_rfl) (by kernel_rfl) (fun _ _ _ h => h) (by rfl) hHeld ?_
            simp only [List.set_cons_succ, List.set_cons_zero]
            refine takeN 32 51 rfl rfl (by kernel_rfl) (by kernel_rfl) (by kernel_rfl) (fun _ _ _ h => h) (by rfl) hHeld ?_
            simp only [List.set_cons_succ, List.set_cons_zero]
            refine takeN 33 52 rfl rfl (by kernel_rfl) (by kernel_rfl) (by kernel_rfl) (fun _ _ _ h => h) (by rfl) hHeld ?_
            simp only [List.set_cons_succ, List.set_cons_zero]
            refine takeN 34 53 rfl rfl (by kernel_rfl) (by kernel_rfl) (by kernel_rfl) (fun _ _ _ h => h) (by rfl) hHeld ?_
            simp only [List.set_cons_succ, List.set_cons_zero]
            refine takeL 35 54 (v := ?_) rfl rfl (by kernel_rfl) (by kernel_rfl) (by kernel_rfl) (fun _ _ _ h => h) (by rfl) hHeld (fun w hSw => ?_) ?_
            rotate_left 1
            · (try dsimp only at hSw)
              clear hSw
              go_simp
              try with_reducible rfl
            simp only [List.set_cons_succ, List.set_cons_zero]
            refine wpAnyH_done (by kernel_rfl) ?_ _
            go_wp2
            go_roundw
            case rel => exact ⟨k + 1, by omega, by go_num, fun c hc => (by
              by_cases e : c = k
              · subst e
                exact hnm
              · exact hfk c (by omega)), hB.drew⟩
            case measure => simp [intOf]; omega
        · obtain rfl : k = i := by omega
          go_wp2
          go_roundw
          case rel =>
            refine ⟨k + 1, hlt, by go_num, hide' (fun a ha c hc => ?_), hB⟩
            by_cases e : a = k
            · subst e
              exact hfk c hc
            · exact HFi.out a (by omega) c hc
          case measure => simp [intOf]; omega
    · obtain rfl : i = st.1.length := by omega
      obtain ⟨yl, cl, rfl, -, -, -⟩ := own_is hA.iss.choose_spec.1
      have k1 := hA.box.c0
      have htt : t = false := by
        cases t with
        | false => rfl
        | true =>
          obtain ⟨a, c, h1, h2, h3⟩ := HT.out.1 rfl
          exact absurd h3 (HFi.out a h2 c h1)
      subst htt
      go_wp2
      go_ret
      exact ⟨rfl, hB⟩
end Go.Proofs.Ytfgigbecmhmidaa
