/- The landed device: Crash, Smash, Back, New, Size; of nothing. -/
import Derived.Test.YtcpplfclpigmkaaSsdImD
namespace Go.Proofs.Ytcpplfclpigmkaa
open Go.RowKit
set_option maxRecDepth 20000

theorem layW_app (b : List Int) (L : List (Nat × List Int)) (o : Nat × List Int) : layW b (L ++ [o]) = splice (layW b L) o.1 o.2 := by simp [layW]
set_option maxHeartbeats 2000000 in
theorem icrash (p : Option Addr) (F : Nat → Prop) (v : Value) (st : SsdSt) (x : Option Addr) (n c : Nat) (K0 : List Bool) (w : World) (hD : DvInv p F w v st) (hKI : KIn (fun k => ¬ F k) w x n K0) :
    Calls Try.prog 12 #[v, .slice x n c] w fun e w' => ∃ F', e = .returned (.tuple #[]) ∧ KeptG (DvInv p) F w v F' w' (st.crash K0) := by
  obtain ⟨b, g, FB, vD, f, rfl, hA, hF⟩ := hD
  have HF := hide' hF
  clear hF
  have hKl := hKI.1
  have hwt := iwait FB b g p vD f st w hA
  obtain ⟨m, hm⟩ : ∃ m, st.Wt.length = m := ⟨_, rfl⟩
  rw [hm] at hwt
  have HMl := hide' hm
  clear hm
  obtain ⟨nB, HN⟩ : ∃ nB, Hid (st.B.length = nB) := ⟨_, rfl⟩
  go_enter Try.func12, Try.ntmps12
  go_wp2_with fail
  refine hwt.mono ?_
  clear hwt
  rintro e w1 ⟨zw, cw, rfl, fw, ht, hc1⟩
  have hA1 := hA.below hc1.b
  have HMx : Hid (m ≤ maxLen) := hide' (by have := fw.1; have := fw.2.1; omega)
  have hbox1 := hA1.box
  have hrow1 := hA1.row
  rw [HN.out] at hbox1
  have hbg := hA.bg
  have HKI := hide' (hKI.off (Off.of_below (F := fun _ => False) hc1.b) (fun _ _ _ h => h))
  have HG : Hid (∀ k, (vD.ownBlock = some k ∨ FB k) → k ≠ g) := hide' (fun k hk e => by subst e; exact hk.elim (fun h => (hA.own k h).2.1 rfl) hA.ng)
  clear fw hKI
  go_wp2_with fail
  go_loopw [11] (fun i wr => ∃ k : Nat, k ≤ m ∧ i = .int .i64 (k : Int) ∧ DvBox wr b g nB p vD f ∧ RowC wr g (layW st.B (keptOf (st.Wt.take k) K0)) [] ∧ Off (fun k => k = g) w1 wr) (fun i _ => m - (intOf i).toNat)
  case atStart => exact ⟨0, Nat.zero_le _, rfl, hbox1, hrow1, Off.refl _ _⟩
  case round =>
    obtain ⟨k, hk, rfl, hx, hr, ho⟩ := hrel
    by_cases hlt : k < m
    · have hlt' : (k : Int) < m := by omega
      have hw : IntKind.i64.wrap ((k : Int) + 1) = (k : Int) + 1 := by
        have := HMx.out
        unfold maxLen at this
        rw [IntKind.wrap_i64]
        omega
      obtain ⟨ba, o, off, ys, z, cz, rfl, hbl, hbg', hkL, hob, hmem, bys, hs, fz, hc0, hc1'⟩ := tin_at (ht.off ho (fun k _ h => HG.out k h)) hlt
      have hks := hide' (kept_step st.Wt K0 k (off, ys) hkL hob)
      have HFi := hide' (hA.wf _ hmem)
      obtain ⟨yn, HY⟩ : ∃ yn, Hid (ys.length = yn) := ⟨_, rfl⟩
      rw [HY.out] at hs hc1' fz
      have hB : CBox 40 (wr.alloc (.cells #[.int .i64 (off : Int), .slice z yn cz] 40)) wr.heap.size #[.int .i64 (off : Int), .slice z yn cz] := CBox.new _ _ _
      have hbq : Below wr.heap.size wr (wr.alloc (.cells #[.int .i64 (off : Int), .slice z yn cz] 40)) := (Below.refl _ _).alloc (Nat.le_refl _) _
      have hxq : DvBox (wr.alloc (.cells #[.int .i64 (off : Int), .slice z yn cz] 40)) b g nB p vD f := CBox.grown hx hbq
      have hrq := hr.off (Off.of_below (F := fun _ => False) hbq) (fun h => h)
      have hsq := hs.off (Off.of_below (F := fun _ => False) hbq) (fun _ _ _ h => h)
      have hoq := ho.more hbq
      clear hob hmem hs hx hr
      by_cases hkn : k < n
      · have hkn' : (k : Int) < n := by omega
        obtain ⟨bk, ok, rfl, hbk, hnk, hck⟩ := HKI.out.2 (by omega)
        have hck0 := (hoq.cell (p := ⟨bk, ok + k, none⟩) hbk (fun e => hnk ((HF.out bk).2 (Or.inr (Or.inl e))))).trans (hck k hkn)
        clear hck
        cases hv : K0.getD k false
        · rw [hv] at hck0
          have hst : Hid (keptOf (st.Wt.take (k + 1)) K0 = keptOf (st.Wt.take k) K0) := hide' (by rw [hks.out, hv]; simp)
          clear hks hv
          go_wp2
          go_roundw
          case rel => exact ⟨k + 1, by omega, by go_num, hxq, by rw [hst.out]; exact hrq, hoq⟩
          case measure => simp [intOf]; omega
        · rw [hv] at hck0
          have hst : Hid (layW st.B (keptOf (st.Wt.take (k + 1)) K0) = splice (layW st.B (keptOf (st.Wt.take k) K0)) off ys) := hide' (by rw [hks.out, hv, if_pos rfl, layW_app])
          clear hks hv
          go_wp2_with fail
          clear hc0 hc1' hck0 ho hbq
          have hfit : off + yn ≤ nB := by
            have h3 : off + ys.length ≤ st.B.length := HFi.out
            rw [HN.out, HY.out] at h3
            exact h3
          have hcl : (layW st.B (keptOf (st.Wt.take k) K0)).length = nB := by
            rw [layW_len _ _ (fun o ho => hA.wf o (List.mem_of_mem_take (kept_mem ho))), HN.out]
          have hrs : wr.heap.size < (wr.alloc (.cells #[.int .i64 (off : Int), .slice z yn cz] 40)).heap.size := by rw [World.size_alloc]; exact Nat.lt_succ_self _
          have hx := hxq
          have hr := hrq
          have hs := hsq
          have ho := hoq
          clear hxq hrq hsq hoq
          generalize wr.alloc (.cells #[.int .i64 (off : Int), .slice z yn cz] 40) = wq at *
          refine startX (S := fun w' => Below wq.heap.size wq w') 6 (by kernel_rfl) (Below.refl _ _).drew (fun hHeld => ?_)
          refine moveY 0 26 0 rfl rfl rfl (by kernel_rfl) (by kernel_rfl) (by kernel_rfl) (fun _ _ _ h => h) (by rfl) (by kernel_rfl) (by kernel_rfl) (by decide) hHeld rfl ?_
          simp only [List.set_cons_succ, List.set_cons_zero]
          refine takeY 1 27 (v := ?_) rfl rfl (by kernel_rfl) (by kernel_rfl) (by kernel_rfl) (fun _ _ _ h => h) (by rfl) (by kernel_rfl) (by kernel_rfl) (by decide) hHeld (fun w hSw => ?_) ?_
          rotate_left 1
          · (try dsimp only at hSw)
            clear hSw
            go_simp
            try with_reducible rfl
          simp only [List.set_cons_succ, List.set_cons_zero]
          refine takeY 2 28 (v := ?_) rfl rfl (by kernel_rfl) (by kernel_rfl) (by kernel_rfl) (fun _ _ _ h => h) (by rfl) (by kernel_rfl) (by kernel_rfl) (by decide) hHeld (fun w hSw => ?_) ?_
          rotate_left 1
          · (try dsimp only at hSw)
            clear hSw
            go_simp
            try with_reducible rfl
          simp only [List.set_cons_succ, List.set_cons_zero]
          refine takeY 3 29 (v := ?_) rfl rfl (by kernel_rfl) (by kernel_rfl) (by kernel_rfl) (fun _ _ _ h => h) (by rfl) (by kernel_rfl) (by kernel_rfl) (by decide) hHeld (fun w hSw => ?_) ?_
          rotate_left 1
          · (try dsimp only at hSw)
            have e0_ := (CBox.cell (CBox.grown hx hSw) 0)
            clear hSw
            go_simp
            try with_reducible rfl
          simp only [List.set_cons_succ, List.set_cons_zero]
          refine takeY 4 30 (v := ?_) rfl rfl (by kernel_rfl) (by kernel_rfl) (by kernel_rfl) (fun _ _ _ h => h) (by rfl) (by kernel_rfl) (by kernel_rfl) (by decide) hHeld (fun w hSw => ?_) ?_
          rotate_left 1
          · (try dsimp only at hSw)
            have hx_ := CBox.grown hB hSw
            have e0_ : w.cell? ⟨wr.heap.size, 0, none⟩ = _ := CBox.cell hx_ 0
            have e1_ : w.cell? ⟨wr.heap.size, 1, none⟩ = _ := CBox.cell hx_ 1
            clear hx_
            clear hSw
            go_simp
            try with_reducible rfl
          simp only [List.set_cons_succ, List.set_cons_zero]
          refine onlyX 5 rfl (by kernel_rfl) (by rfl) (fun K hK => ?_)
          have hc4 : Clean wq ((wq.alloc (.cells #[.int .i64 (off : Int), .slice z yn cz] 40)).drew) := ((Clean.refl wq).alloc _ _).drew
          have hbx : CBox 40 ((wq.alloc (.cells #[.int .i64 (off : Int), .slice z yn cz] 40)).drew) wq.heap.size #[.int .i64 (off : Int), .slice z yn cz] := CBox.new _ wq _
          go_wp2_with fail
          refine hK.out _ _ (fun _ => hc4.b) (fun _ => ?_)
          clear hK K hHeld
          have hs4 : wq.heap.size < ((wq.alloc (.cells #[.int .i64 (off : Int), .slice z yn cz] 40)).drew).heap.size := by show _ < (wq.alloc _).heap.size; rw [World.size_alloc]; exact Nat.lt_succ_self _
          generalize (wq.alloc (.cells #[.int .i64 (off : Int), .slice z yn cz] 40)).drew = w4 at *
          have hr4 := hr.off (Off.of_below (F := fun _ => False) hc4.b) (fun h => h)
          have ht4 : TIn (fun k => k ≠ g) w4 (some ⟨wq.heap.size, 0, none⟩) 1 (wOps [(off, ys)]) := by
            refine ⟨rfl, fun _ => ⟨wq.heap.size, 0, rfl, hs4, (fun e => by have := hr.lt; omega), fun i hi => ?_⟩⟩
            obtain rfl : i = 0 := by omega
            refine ⟨CBox.cell hbx 0, z, cz, ?_, ?_, ?_, fz.2.1, ?_, bys⟩
            · show _ = some (Value.slice z ys.length cz)
              rw [HY.out]
              exact CBox.cell hbx 1
            · show SIn _ _ z ys.length ys
              rw [HY.out]
              exact (hs.off (Off.of_below (F := fun _ => False) hc4.b) (fun _ _ _ h => h)).mono (fun k _ h => HG.out k h)
            · show ys.length ≤ cz
              rw [HY.out]
              exact fz.1
            · show z = none → ys.length = 0 ∧ cz = 0
              rw [HY.out]
              exact fz.2.2
          have hly := ilay g nB nB (layW st.B (keptOf (st.Wt.take k) K0)) [] _ 1 1 [(off, ys)] hcl (Nat.le_refl _) (by decide) (fun o ho => by obtain rfl := List.mem_singleton.1 ho; show off + ys.length ≤ nB; rw [HY.out]; exact hfit) w4 hr4 ht4
          rw [layW_one] at hly
          refine onlyX 6 rfl (by kernel_rfl) (by rfl) (fun K hK => ?_)
          go_wp2_with fail
          refine hly.mono ?_
          clear hly ht4
          rintro e w5 ⟨rfl, hr5, ho5⟩
          refine hK.out _ _ (fun h => absurd rfl h) (fun _ => ?_)
          clear hK K
          refine doneX (by kernel_rfl) ?_ _
          go_wp2
          go_roundw
          case rel => exact ⟨k + 1, by omega, by go_num, CBox.off (CBox.grown hx hc4.b) ho5.o hbg, by rw [hst.out]; exact hr5, (ho.more hc4.b).trans ho5.o (fun _ h => Or.inl h)⟩
          case measure => simp [intOf]; omega
      · have hkn' : ¬ (k : Int) < n := by omega
        have hv : K0.getD k false = false := by rw [List.getD_eq_getElem?_getD, List.getElem?_eq_none (by omega)]; rfl
        have hst : Hid (keptOf (st.Wt.take (k + 1)) K0 = keptOf (st.Wt.take k) K0) := hide' (by rw [hks.out, hv]; simp)
        clear hks hv
        go_wp2
        go_roundw
        case rel => exact ⟨k + 1, by omega, by go_num, hxq, by rw [hst.out]; exact hrq, hoq⟩
        case measure => simp [intOf]; omega
    · have hlt' : ¬ (k : Int) < m := by omega
      have hkm : st.Wt.take k = st.Wt := List.take_of_length_le (by have := HMl.out; omega)
      rw [hkm] at hr
      obtain ⟨y, c1, hvD, -⟩ : ∃ y c, vD = .slice y st.T.length c ∧ Fit y st.T.length c := hA.ops.is
      have hno := inone wr b g nB p y st.T.length c1 f (hvD ▸ hx)
      go_wp2_with fail
      refine hno.mono ?_
      clear hno
      rintro e w5 ⟨rfl, hx5, ho5⟩
      go_wp2
      go_end0
      have hO : Off (fun k => k = b ∨ k = g) w w5 := ((Off.of_below hc1.b).trans (ho.mono (G := fun k => k = b ∨ k = g) (fun _ h => Or.inl (Or.inr h))) (fun _ h => Or.inl h)).trans ho5.o (fun _ h => Or.inl (Or.inl h))
      have hll := layW_len (keptOf st.Wt K0) st.B (fun o ho => hA.wf o (kept_mem ho))
      have hpost : KeptG (DvInv p) F w (.pointer (some ⟨b, 0, none⟩)) F w5 (st.crash K0) := by
        refine ⟨⟨b, g, FB, vD, st.T.length, rfl, ⟨?_, hr.off ho5.o (fun e => hbg e.symm), hA.ops.off hO (fun k hk e => e.elim (hA.own k hk).1 (hA.own k hk).2.1) (fun k _ hk e => e.elim (fun e => hA.nb (e ▸ hk)) (fun e => hA.ng (e ▸ hk))), ?_, layW_bytes _ _ hA.byt (fun o ho => hA.ops.bytes ((o.1 : Int), o.2) ?_), ⟨st.T, by simp [wOps, SsdSt.crash], rfl⟩, fun o ho => (by cases ho), hA.bg, hA.nb, hA.ng, hA.own, fun k hk => Nat.lt_of_lt_of_le (hA.lt k hk) hO.size, hA.ob⟩, HF.out⟩, fun _ h => Or.inl h, hO.mono (fun k h => Or.inl ((HF.out k).2 (h.elim Or.inl (fun h => Or.inr (Or.inl h)))))⟩
        · show DvBox w5 b g (layW st.B (keptOf st.Wt K0)).length p vD _
          rw [hll, HN.out, hvD]
          exact hx5
        · show (layW st.B (keptOf st.Wt K0)).length ≤ _
          rw [hll]
          exact hA.len
        · obtain ⟨T0, hT, -⟩ := hA.tl
          rw [hT]
          exact List.mem_append_right _ (List.mem_map.2 ⟨o, kept_mem ho, rfl⟩)
      first | exact ⟨rfl, _, hpost⟩ | exact ⟨_, rfl, hpost⟩
set_option maxHeartbeats 1000000 in
theorem ismash (p : Option Addr) (F : Nat → Prop) (v : Value) (st : SsdSt) (off n c : Nat) (x : Option Addr) (xs : List Int) (hoff : off + n ≤ st.B.length) (bx : Bytes xs) (w : World) (hD : DvInv p F w v st) (hx : SIn (fun k => ¬ F k) w x n xs) :
    Calls Try.prog 14 #[v, .int .i64 (off : Int), .slice x n c] w fun e w' => ∃ F', e = .returned (.bool true) ∧ KeptG (DvInv p) F w v F' w' (st.smash off xs) := by
  obtain ⟨b, g, FB, vD, f, rfl, hA, hF⟩ := hD
  have HF := hide' hF
  clear hF
  have hxl := hx.1
  have hi := iwithin b g st.B.length p vD f off n hoff hA.len w hA.box
  go_enter Try.func14, Try.ntmps14
  go_wp2_with fail
  refine hi.mono ?_
  clear hi
  rintro e w0 ⟨rfl, hc0⟩
  have hse := isettle FB b g p vD f st w0 (hA.below hc0.b)
  go_wp2_with fail
  refine hse.mono ?_
  clear hse
  rintro e w2 ⟨rfl, hA2, ho2⟩
  have hcl : st.cur.length = st.B.length := layW_len st.Wt st.B hA.wf
  have hbx2 : DvBox w2 b g st.cur.length p vD st.T.length := hA2.box
  rw [hcl] at hbx2
  have hO2 : Off (fun k => k = b ∨ k = g) w w2 := (Off.of_below hc0.b).trans ho2.o (fun _ h => Or.inl h)
  have hxs : SAt w2 x n xs := (hx.off hO2 (fun k _ h e => h ((HF.out k).2 (e.elim Or.inl (fun h => Or.inr (Or.inl h)))))).sat
  obtain ⟨N, HN⟩ : ∃ N, Hid (st.B.length = N) := ⟨_, rfl⟩
  rw [HN.out] at hbx2 hoff hcl
  have k0 : w2.cell? ⟨b, 0, none⟩ = some (.slice (some ⟨g, 0, none⟩) N N) := CBox.cell hbx2 0
  have hsl := sl_tail (some ⟨g, 0, none⟩) N N off (by omega) w2
  obtain ⟨B2, HB2⟩ : ∃ B2, Hid (st.cur = B2) := ⟨_, rfl⟩
  rw [HB2.out] at hcl hA2
  have hr2 : RowC w2 g B2 [] := hA2.row
  go_wp2_with (with_reducible show wpList _ _ _ (Oper.mk (some 22) _ _ _ _ _ :: _) _ _; refine wpList_copyC rfl (.tmp 20) (.tmp 21) rfl g off (N - off) (N - off) n c (nextA (some ⟨g, 0, none⟩) N off) x rfl (fun h => by rw [nextA, if_neg (by omega), Option.map_some, add_plain', Nat.zero_add]) rfl B2 xs [] hr2 hxs (by omega) (by omega) ?_)
  intro w3 hr3 ho3 hz3 hf3
  go_wp2
  go_ret
  have hO : Off (fun k => k = b ∨ k = g) w w3 := hO2.trans ho3 (fun _ h => Or.inl (Or.inr h))
  have hll := splice_len B2 off xs (by omega)
  have hpost : KeptG (DvInv p) F w (.pointer (some ⟨b, 0, none⟩)) F w3 (st.smash off xs) := by
    refine ⟨⟨b, g, FB, vD, st.T.length, rfl, ⟨?_, ?_, hA.ops.off hO (fun k hk e => e.elim (hA.own k hk).1 (hA.own k hk).2.1) (fun k _ hk e => e.elim (fun e => hA.nb (e ▸ hk)) (fun e => hA.ng (e ▸ hk))), ?_, ?_, ⟨st.T, by simp [wOps, SsdSt.smash], rfl⟩, fun o ho => (by cases ho), hA.bg, hA.nb, hA.ng, hA.own, fun k hk => Nat.lt_of_lt_of_le (hA.lt k hk) hO.size, hA.ob⟩, HF.out⟩, fun _ h => Or.inl h, hO.mono (fun k h => Or.inl ((HF.out k).2 (h.elim Or.inl (fun h => Or.inr (Or.inl h)))))⟩
    · show DvBox w3 b g (splice st.cur off xs).length p vD _
      rw [HB2.out, hll, hcl]
      exact CBox.off hbx2 ho3 hA.bg
    · show RowC w3 g (splice st.cur off xs) []
      rw [HB2.out]
      exact hr3
    · show (splice st.cur off xs).length ≤ _
      rw [HB2.out, hll, hcl, ← HN.out]
      exact hA.len
    · show Bytes (splice st.cur off xs)
      rw [HB2.out]
      exact splice_bytes off hA2.byt bx
  first | exact ⟨rfl, _, hpost⟩ | exact ⟨_, rfl, hpost⟩
set_option maxHeartbeats 1000000 in
theorem iback (p : Option Addr) (F : Nat → Prop) (v : Value) (st : SsdSt) (n c : Nat) (x : Option Addr) (xs : List Int) (hn : n = st.B.length) (bx : Bytes xs) (w : World) (hD : DvInv p F w v st) (hx : SIn (fun k => ¬ F k) w x n xs) :
    Calls Try.prog 15 #[v, .slice x n c] w fun e w' => ∃ F', e = .returned (.bool true) ∧ KeptG (DvInv p) F w v F' w' (st.lay xs) := by
  obtain ⟨b, g, FB, vD, f, rfl, hA, hF⟩ := hD
  have HF := hide' hF
  clear hF
  have hxl := hx.1
  have hbx := hA.box
  rw [← hn] at hbx
  have k0 : w.cell? ⟨b, 0, none⟩ = some (.slice (some ⟨g, 0, none⟩) n n) := CBox.cell hbx 0
  have hr := hA.row
  obtain ⟨y, c1, hvD, -⟩ : ∃ y c, vD = .slice y st.T.length c ∧ Fit y st.T.length c := hA.ops.is
  have HN := hide' hn
  clear hn
  go_enter Try.func15, Try.ntmps15
  go_wp2_with (with_reducible show wpList _ _ _ (Oper.mk (some 22) _ _ _ _ _ :: _) _ _; refine wpList_copyC rfl (.tmp 20) (.tmp 21) rfl g 0 n n n c (some ⟨g, 0, none⟩) x rfl (fun _ => rfl) rfl st.B xs [] hr hx.sat (Nat.le_refl _) (by have := HN.out; omega) ?_)
  intro w3 hr3 ho3 hz3 hf3
  have hno := inone w3 b g n p y st.T.length c1 f (hvD ▸ CBox.off hbx ho3 hA.bg)
  go_wp2_with fail
  refine hno.mono ?_
  clear hno k0
  rintro e w5 ⟨rfl, hx5, ho5⟩
  go_wp2
  go_ret
  have hO : Off (fun k => k = b ∨ k = g) w w5 := (ho3.mono (G := fun k => k = b ∨ k = g) (fun _ h => Or.inl (Or.inr h))).trans ho5.o (fun _ h => Or.inl (Or.inl h))
  have hsp : splice st.B 0 xs = xs := by
    unfold splice
    rw [List.drop_of_length_le (by have := HN.out; omega)]
    simp
  rw [hsp] at hr3
  have hpost : KeptG (DvInv p) F w (.pointer (some ⟨b, 0, none⟩)) F w5 (st.lay xs) := by
    refine ⟨⟨b, g, FB, vD, st.T.length, rfl, ⟨?_, hr3.off ho5.o (fun e => hA.bg e.symm), hA.ops.off hO (fun k hk e => e.elim (hA.own k hk).1 (hA.own k hk).2.1) (fun k _ hk e => e.elim (fun e => hA.nb (e ▸ hk)) (fun e => hA.ng (e ▸ hk))), ?_, bx, ⟨st.T, by simp [wOps, SsdSt.lay], rfl⟩, fun o ho => (by cases ho), hA.bg, hA.nb, hA.ng, hA.own, fun k hk => Nat.lt_of_lt_of_le (hA.lt k hk) hO.size, hA.ob⟩, HF.out⟩, fun _ h => Or.inl h, hO.mono (fun k h => Or.inl ((HF.out k).2 (h.elim Or.inl (fun h => Or.inr (Or.inl h)))))⟩
    · show DvBox w5 b g xs.length p vD _
      rw [hxl, hvD]
      exact hx5
    · show xs.length ≤ _
      rw [hxl, HN.out]
      exact hA.len
  first | exact ⟨rfl, _, hpost⟩ | exact ⟨_, rfl, hpost⟩
theorem ibackNo (p : Option Addr) (F : Nat → Prop) (v : Value) (st : SsdSt) (n c : Nat) (x : Option Addr) (hn : n ≠ st.B.length) (w : World) (hD : DvInv p F w v st) :
    Calls Try.prog 15 #[v, .slice x n c] w fun e w' => ∃ F', e = .returned (.bool false) ∧ KeptG (DvInv p) F w v F' w' st := by
  have hb0 := hide' ((dvbase p).kept hD (Below.refl _ w))
  obtain ⟨b, g, FB, vD, f, rfl, hA, -⟩ := hD
  have k0 : w.cell? ⟨b, 0, none⟩ = some (.slice (some ⟨g, 0, none⟩) st.B.length st.B.length) := CBox.cell hA.box 0
  have hn' : ¬ (n : Int) = st.B.length := by omega
  clear hn hA
  generalize st.B.length = N at *
  go_enter Try.func15, Try.ntmps15
  go_wp2
  go_ret
  have hpost := hb0.out
  first | exact ⟨rfl, _, hpost⟩ | exact ⟨_, rfl, hpost⟩
theorem make_row (n : Nat) (hn : n ≤ 65536) (w : World) : (Instr.makeSlice 22 (.int .i64 (n : Int)) (.int .i64 (n : Int))).run Try.prog w = .ok (.slice (some ⟨w.heap.size, 0, none⟩) n n) (w.alloc (.cells (madeCells #[.int .u8 0] n) 5)) :=
  run_make_row' (P := Try.prog) 22 5 (.int .u8 0) 1 Try.underlying22 Try.info5 rfl .i64 .i64 n (by omega) (by omega) w
theorem imake (p : Option Addr) (n : Nat) (hn : n ≤ 65536) (w : World) : Calls Try.prog 7 #[.int .i64 (n : Int), .pointer p] w fun e w' => ∃ v F, e = .returned v ∧ DvInv p F w' v ⟨List.replicate n 0, [], []⟩ ∧ (∀ k, F k → w.heap.size ≤ k) ∧ Below w.heap.size w w' := by
  have hmk := make_row n hn
  have hr := RowC.made w n
  have hb : Below w.heap.size w (w.alloc (.cells (madeCells #[.int .u8 0] n) 5)) := (Below.refl _ _).alloc (Nat.le_refl _) _
  have hs : (w.alloc (.cells (madeCells #[.int .u8 0] n) 5)).heap.size = w.heap.size + 1 := World.size_alloc _ _
  have h1 : ¬ (n : Int) < 0 := by omega
  have h2 : ¬ (n : Int) > 65536 := by omega
  have HN := hide' hn
  clear hn
  go_enter Try.func7, Try.ntmps7
  go_wp2_with fail
  generalize w.alloc (.cells (madeCells #[.int .u8 0] n) 5) = w1 at *
  go_ret
  rw [← hs]
  have hbx : DvBox (w1.alloc (.cells #[.slice (some ⟨w.heap.size, 0, none⟩) n n, .pointer p, .slice none 0 0, .int .i64 ((0 : Nat) : Int)] 45)) w1.heap.size w.heap.size n p (.slice none 0 0) 0 := CBox.new _ _ _
  have hb2 := hb.alloc hb.size (.cells #[.slice (some ⟨w.heap.size, 0, none⟩) n n, .pointer p, .slice none 0 0, .int .i64 ((0 : Nat) : Int)] 45)
  have hr2 := hr.off (F := fun _ => False) ((Off.refl _ w1).alloc (.cells #[.slice (some ⟨w.heap.size, 0, none⟩) n n, .pointer p, .slice none 0 0, .int .i64 ((0 : Nat) : Int)] 45)) (fun h => h)
  have hl : (List.replicate n (0 : Int)).length = n := List.length_replicate
  have hall : DvInv p (DOwn (fun _ => False) w1.heap.size w.heap.size (Value.slice none 0 0)) (w1.alloc (.cells #[.slice (some ⟨w.heap.size, 0, none⟩) n n, .pointer p, .slice none 0 0, .int .i64 ((0 : Nat) : Int)] 45)) (.pointer (some ⟨w1.heap.size, 0, none⟩)) ⟨List.replicate n 0, [], []⟩ ∧ (∀ k, DOwn (fun _ => False) w1.heap.size w.heap.size (Value.slice none 0 0) k → w.heap.size ≤ k) := by
   refine ⟨⟨w1.heap.size, w.heap.size, fun _ => False, Value.slice none 0 0, 0, rfl, ⟨?_, hr2, opRow_nil _ _, ?_, ?_, ⟨[], rfl, rfl⟩, fun o ho => (by cases ho), by omega, fun h => h, fun h => h, fun k hk => by simp [Value.ownBlock] at hk, fun k hk => hk.elim, fun o ho => (by cases ho)⟩, fun _ => Iff.rfl⟩, ?_⟩
   · show DvBox _ _ _ (List.replicate n (0 : Int)).length _ _ _
     rw [hl]
     exact hbx
   · show (List.replicate n (0 : Int)).length ≤ _
     rw [hl]
     exact HN.out
   · intro x hx
     obtain ⟨-, rfl⟩ := List.mem_replicate.1 hx
     omega
   · rintro k (rfl | rfl | hk | hk)
     · omega
     · exact Nat.le_refl _
     · simp [Value.ownBlock] at hk
     · exact hk.elim
  first | exact ⟨_, _, rfl, hall.1, hall.2, hb2⟩ | exact ⟨_, rfl, _, hall.1, hall.2, hb2⟩
theorem imakeNo (p : Option Addr) (n : Int) (hn : n < 0 ∨ 65536 < n) (w : World) : Calls Try.prog 7 #[.int .i64 n, .pointer p] w fun e w' => e = .returned (.pointer none) ∧ Below w.heap.size w w' := by
  rcases hn with hn | hn
  · go_enter Try.func7, Try.ntmps7
    go_wp2
    go_ret
    exact ⟨rfl, Below.refl _ _⟩
  · have h1 : ¬ n < 0 := by omega
    have h2 : n > 65536 := by omega
    go_enter Try.func7, Try.ntmps7
    go_wp2
    go_ret
    exact ⟨rfl, Below.refl _ _⟩
theorem isize (p : Option Addr) (F : Nat → Prop) (v : Value) (st : SsdSt) (w : World) (hD : DvInv p F w v st) :
    Calls Try.prog 18 #[v] w fun e w' => e = .returned (.int .i64 (st.B.length : Int)) ∧ Below w.heap.size w w' := by
  obtain ⟨b, g, FB, vD, f, rfl, hA, -⟩ := hD
  have k0 : w.cell? ⟨b, 0, none⟩ = some (.slice (some ⟨g, 0, none⟩) st.B.length st.B.length) := CBox.cell hA.box 0
  clear hA
  generalize st.B.length = N at *
  go_enter Try.func18, Try.ntmps18
  go_wp2
  go_ret
  exact ⟨rfl, Below.refl _ _⟩
theorem iwriteNil (off : Int) (x : Option Addr) (n c : Nat) (w : World) : Calls Try.prog 9 #[.pointer none, .int .i64 off, .slice x n c] w fun e w' => e = .returned (.bool false) ∧ Below w.heap.size w w' := by
  go_enter Try.func9, Try.ntmps9
  go_wp2_with fail
  refine (iwithinNil _ _ _).mono ?_
  rintro e w1 ⟨rfl, hb⟩
  go_wp2
  go_ret
  exact ⟨rfl, hb⟩
theorem ibarrierNil (w : World) : Calls Try.prog 10 #[.pointer none] w fun e w' => e = .returned (.bool false) ∧ Below w.heap.size w w' := by
  go_enter Try.func10, Try.ntmps10
  have hb : Below w.heap.size w w := Below.refl _ _
  go_wp2
  go_ret
  exact ⟨rfl, hb⟩
theorem ireadNil (off n : Int) (w : World) : Calls Try.prog 17 #[.pointer none, .int .i64 off, .int .i64 n] w fun e w' => (∃ z cz, e = .returned (.tuple #[.slice z 0 cz, .bool false])) ∧ Below w.heap.size w w' := by
  go_enter Try.func17, Try.ntmps17
  go_wp2_with fail
  refine (iwithinNil _ _ _).mono ?_
  rintro e w1 ⟨rfl, hb⟩
  go_wp2
  go_ret2
  exact ⟨⟨_, _, rfl⟩, hb⟩
theorem isnapNil (w : World) : Calls Try.prog 11 #[.pointer none] w fun e w' => (∃ z cz, e = .returned (.slice z 0 cz)) ∧ Below w.heap.size w w' := by
  go_enter Try.func11, Try.ntmps11
  have hb : Below w.heap.size w w := Below.refl _ _
  go_wp2
  go_ret
  exact ⟨⟨_, _, rfl⟩, hb⟩
theorem icrashNil (x : Option Addr) (n c : Nat) (w : World) : Calls Try.prog 12 #[.pointer none, .slice x n c] w fun e w' => e = .returned (.tuple #[]) ∧ Below w.heap.size w w' := by
  go_enter Try.func12, Try.ntmps12
  have hb : Below w.heap.size w w := Below.refl _ _
  go_wp2
  (try simp only [Exit.inBlock, Exit.then])
  refine bodyPost_ret (results_none rfl _ _ _) rfl ?_
  exact ⟨rfl, hb⟩
theorem ismashNil (off : Int) (x : Option Addr) (n c : Nat) (w : World) : Calls Try.prog 14 #[.pointer none, .int .i64 off, .slice x n c] w fun e w' => e = .returned (.bool false) ∧ Below w.heap.size w w' := by
  go_enter Try.func14, Try.ntmps14
  go_wp2_with fail
  refine (iwithinNil _ _ _).mono ?_
  rintro e w1 ⟨rfl, hb⟩
  go_wp2
  go_ret
  exact ⟨rfl, hb⟩
theorem ibackNil (x : Option Addr) (n c : Nat) (w : World) : Calls Try.prog 15 #[.pointer none, .slice x n c] w fun e w' => e = .returned (.bool false) ∧ Below w.heap.size w w' := by
  go_enter Try.func15, Try.ntmps15
  have hb : Below w.heap.size w w := Below.refl _ _
  go_wp2
  go_ret
  exact ⟨rfl, hb⟩
theorem itraceNil (w : World) : Calls Try.prog 16 #[.pointer none] w fun e w' => (∃ z cz, e = .returned (.slice z 0 cz)) ∧ Below w.heap.size w w' := by
  go_enter Try.func16, Try.ntmps16
  have hb : Below w.heap.size w w := Below.refl _ _
  go_wp2
  go_ret
  exact ⟨⟨_, _, rfl⟩, hb⟩
theorem isizeNil (w : World) : Calls Try.prog 18 #[.pointer none] w fun e w' => e = .returned (.int .i64 0) ∧ Below w.heap.size w w' := by
  go_enter Try.func18, Try.ntmps18
  have hb : Below w.heap.size w w := Below.refl _ _
  go_wp2
  go_ret
  exact ⟨rfl, hb⟩
end Go.Proofs.Ytcpplfclpigmkaa
