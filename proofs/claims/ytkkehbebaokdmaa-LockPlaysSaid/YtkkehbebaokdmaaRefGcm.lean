/- What lockboxref5.pairs and Tag come to. -/
import Derived.Test.YtkkehbebaokdmaaGcm
namespace Go.Proofs.Ytkkehbebaokdmaa
open Go.RowKit
set_option maxRecDepth 20000

theorem rep_succ (j : Nat) (xs : List Int) : xs ++ List.replicate (j + 1) (0 : Int) = xs ++ List.replicate j 0 ++ [0] := by
  rw [List.replicate_succ', List.append_assoc]
theorem pad_end (n j : Nat) (hj : j ≤ padN n) : (((n + j) % 16 : Nat) = 0) ↔ j = padN n := by
  unfold padN at hj ⊢
  omega
theorem prs_take (xs : List Int) (k : Nat) (h : k < (xs.length + 15) / 16) : (prs xs).take (k + 1) = (prs xs).take k ++ [pairOf (six (padL xs) k)] := by
  rw [List.take_add_one]
  congr 1
  simp [prs, h]


set_option maxRecDepth 10000 in
set_option maxHeartbeats 4000000 in
theorem rpairs (xs : List Int) (x : Option Addr) (n c : Nat) (hn : n ≤ 5000) (bx : Bytes xs) (hnil : x = none → n = 0 ∧ c = 0) (w : World) (sx : SAt w x n xs) : Calls Try.prog 61 #[.slice x n c] w fun e w' => ∃ v, e = .returned v ∧ w'.ownsRow w.heap.size 30 2 v ((n + 15) / 16) (fl (prs xs)) ∧ Below w.heap.size w w' := by
  have hB := Below.refl w.heap.size w
  have hxl := sx.1
  go_enter Try.func61, Try.ntmps61
  go_wp2_with (at_builtin; refine wpList_app rfl _ _ rfl w.heap.size _ 0 [] rfl (World.ownsRow_lit (base := w.heap.size) w #[] 0 (Nat.le_refl _) (by decide) rfl) x n c xs rfl (sx.below ((Below.refl _ _).alloc (Nat.le_refl _) _)) hnil (by omega) (by rw [World.size_alloc]; omega) ?_)
  intro v1 w1 own1 hb1 hv1
  replace hB := (hB.alloc (Nat.le_refl _) _).trans hb1
  clear hb1
  have HP := hide' (pad_end n)
  have HR := hide' rep_succ
  go_wp2_with fail
  go_loopw [0] (fun v wr => ∃ j : Nat, j ≤ padN n ∧ v ≠ .slice none 0 0 ∧ wr.ownsRow w.heap.size 5 1 v (n + j) ((xs ++ List.replicate j 0).map (Value.int .u8)) ∧ Below w.heap.size w wr) (fun v _ => 6000 - slLen v)
  case atStart => exact ⟨0, Nat.zero_le _, hv1, by simpa using own1, hB⟩
  case round =>
    clear own1 hB hv1
    obtain ⟨j, hj, hv, hown, hB⟩ := hrel
    have hpn : padN n < 16 := Nat.mod_lt _ (by decide)
    have hlen : (xs ++ List.replicate j (0 : Int)).length = n + j := by simp [hxl]
    obtain ⟨g, cap, rfl, hg, hgl, hgc, hcm, hat⟩ := own_bytes hlen hown hv
    by_cases hlt : j = padN n
    · have h0 : (((n + j) % 16 : Nat) = 0) := (HP.out j hj).2 hlt
      have h1 : ((n + j : Nat) : Int) % 16 = 0 := by omega
      have hlt_ := hlt
      subst hlt
      rw [← hxl] at hlen hat
      have HL := hide' (padL_length xs)
      have hat2 : At _ g 0 (padL xs) := hat
      have hlen2 : (padL xs).length = n + padN n := by rw [← hxl]; exact hlen
      clear hat hlen hown hv
      obtain ⟨L, hL⟩ : ∃ L, L = n + padN n := ⟨_, rfl⟩
      have HM : Hid (L = 16 * ((n + 15) / 16)) := by
        have := HL.out
        rw [hlen2, hxl, ← hL] at this
        exact this
      have hL5 : L ≤ 6000 := by omega
      rw [← hL] at hlen2 hgc h0 h1 ⊢
      clear hL HL hlt_ HP HR
      have HT := hide' (prs_take xs)
      go_wp2_with fail
      clear h0 h1
      obtain ⟨W2, rfl⟩ : ∃ W2 : World, W2 = wr := ⟨_, rfl⟩
      go_loopw [3, 4] (fun l i wr => ∃ k q : Nat, Hid (q = 16 * k) ∧ q ≤ L ∧ i = .int .i64 (q : Int) ∧ wr.ownsRow W2.heap.size 30 2 l k (fl ((prs xs).take k)) ∧ Below W2.heap.size W2 wr) (fun _ i _ => L - (intOf i).toNat)
      case atStart => exact ⟨0, 0, rfl, Nat.zero_le _, rfl, World.ownsRow_nil _ _ _ _, Below.refl _ _⟩
      case round =>
        obtain ⟨k, q, HQ, hq, rfl, own3, hb3⟩ := hrel
        by_cases hlt : q < L
        · have hq16 : q + 16 ≤ L := by
            have := HQ.out
            have := HM.out
            omega
          have hk : k < (xs.length + 15) / 16 := by
            have := HQ.out
            have := HM.out
            omega
          have hsl : ∀ w, (Instr.slice 27 (.slice (some ⟨g, 0, none⟩) L cap) (some (.int .i64 (q : Int))) (some (.int .i64 ((q : Int) + 16))) none).run Try.prog w = .ok (.slice (some ⟨g, q, none⟩) 16 (cap - q)) w := by
            intro w
            have := sl_mid (some ⟨g, 0, none⟩) L cap q (q + 16) (by omega) (by omega) w
            rw [nextA, if_neg (by omega), Option.map_some, add_plain', Nat.zero_add, show q + 16 - q = 16 from by omega] at this
            exact this
          have hat3 : At wr g q (six (padL xs) k) := by
            rw [HQ.out]
            exact (six_at hat2 k (by have := HQ.out; omega)).below hb3 hgl
          have hgl3 : g < wr.heap.size := Nat.lt_of_lt_of_le hgl hb3.size
          have hl16 := six_length (padL xs) k (by have := HQ.out; omega)
          have hk2 := HT.out k hk
          go_wp2_with fail
          refine (rpair g q (cap - q) _ _ hl16 (by omega) (by omega) (six_bytes (padL_bytes bx) k) hgl3 hat3).mono ?_
          rintro e w4 ⟨rfl, hb4⟩
          replace own3 := own_grown own3 hb4
          replace hb3 := hb3.trans (hb4.mono hb3.size)
          clear hb4 hsl hat3 hl16 hgl3
          generalize pairOf (six (padL xs) k) = pq at *
          have hS4 := hb3.size
          have hprow : PRow ((w4.alloc (.cells #[.int .u64 (nv pq.1), .int .u64 (nv pq.2)] 30)).alloc (.cells #[.int .u64 (nv pq.1), .int .u64 (nv pq.2)] 30)) (some ⟨w4.heap.size + 1, 0, none⟩) 1 (fun _ => pq) := by
            have := (Box.new (w4.alloc (.cells #[.int .u64 (nv pq.1), .int .u64 (nv pq.2)] 30)) (nv pq.1) (nv pq.2)).prow
            rw [World.size_alloc] at this
            exact this
          have hk3 : k ≤ 5000 := by
            have := HQ.out
            omega
          go_wp2_with (at_builtin; refine wpList_appP rfl _ _ rfl W2.heap.size _ k _ rfl ((own3.alloc _).alloc _) (some ⟨w4.heap.size + 1, 0, none⟩) 1 1 (fun _ => pq) rfl hprow (fun e => by cases e) (by omega) (by rw [World.size_alloc, World.size_alloc]; omega) ?_)
          intro v5 w5 own5 hb5
          replace hb3 := ((hb3.alloc hS4 _).alloc (by rw [World.size_alloc]; omega) _).trans hb5
          clear hb5 own3 hprow
          go_wp2
          go_roundw
          case rel =>
            refine ⟨k + 1, q + 16, ?_, hq16, by go_num, ?_, hb3⟩
            · have := HQ.out
              exact hide' (by omega)
            · rw [hk2, fl_append]
              exact own5
          case measure => simp [intOf]; omega
        · obtain rfl : q = L := by omega
          have hk : k = (n + 15) / 16 := by
            have := HQ.out
            have := HM.out
            omega
          have hall : (prs xs).take k = prs xs := List.take_of_length_le (by rw [prs_length, hxl]; omega)
          rw [hall, hk] at own3
          go_wp2
          go_ret
          exact ⟨_, rfl, own_low own3 hB.size, hB.trans (hb3.mono hB.size)⟩
    · have h0 : ¬ (((n + j) % 16 : Nat) = 0) := fun e => hlt ((HP.out j hj).1 e)
      have h1 : ¬ ((n + j : Nat) : Int) % 16 = 0 := by omega
      have hS := hB.size
      go_wp2_with (at_builtin; refine wpList_app rfl _ _ rfl w.heap.size _ (n + j) _ rfl (hown.alloc _) (some ⟨wr.heap.size, 0, none⟩) 1 1 [0] rfl ((At.one wr 0).sat (by rw [World.size_alloc]; omega) rfl) (fun e => by cases e) (by omega) (by rw [World.size_alloc]; omega) ?_)
      intro v2 w2 own2 hb2 hv2
      replace hB := (hB.alloc hS _).trans hb2
      clear hb2 hown
      go_wp2
      go_roundw
      case rel =>
        refine ⟨j + 1, by omega, hv2, ?_, hB⟩
        rw [← Nat.add_assoc]
        simpa [List.replicate_succ'] using own2
      case measure =>
        obtain ⟨_, ⟨e, _⟩ | ⟨g2, cap2, _, e, _⟩⟩ := own2
        · exact absurd e hv2
        · subst e
          simp [slLen]
          omega
end Go.Proofs.Ytkkehbebaokdmaa
