/- WireOwn's walk. -/
import Derived.Test.YtbekiajnkmlokaaCut
import Derived.Test.YtbekiajnkmlokaaView
namespace Go.Proofs.Ytbekiajnkmlokaa
open Go.RowKit

theorem own_bytes {w : World} {base n : Nat} {v : Value} {xs : List Int} (hn : xs.length = n) (h : w.ownsRow base 5 1 v n (xs.map (Value.int .u8))) (hv : v ≠ .slice none 0 0) :
    ∃ g cap, v = .slice (some ⟨g, 0, none⟩) n cap ∧ base ≤ g ∧ g < w.heap.size ∧ n ≤ cap ∧ cap ≤ maxLen ∧ At w g 0 xs := by
  have h' := h
  obtain ⟨_, ⟨h0, _⟩ | ⟨g, cap, cur, rfl, hg, hh, hnc, hcm, _⟩⟩ := h
  · exact absurd h0 hv
  · obtain ⟨hlt, _⟩ := Array.getElem?_eq_some_iff.1 hh
    refine ⟨g, cap, rfl, hg, hlt, hnc, hcm, fun i hi => ?_⟩
    rw [Nat.zero_add, h'.cellAt i (by omega)]
    simp [hi]

theorem At.news {w : World} {b off : Nat} {xs : List Int} (h : At w b off xs) : ∀ (j : Nat) (u : Value), (xs.map (Value.int .u8))[j]? = some u → w.cell? ((⟨b, off, none⟩ : Addr).add j) = some u := by
  intro j u hj
  have hj' : j < xs.length := by
    rcases Nat.lt_or_ge j xs.length with h | h
    · exact h
    · simp [List.getElem?_eq_none (show (xs.map (Value.int .u8)).length ≤ j by simpa using h)] at hj
  rw [add_plain', h j hj']
  simp [List.getElem?_eq_getElem hj'] at hj
  simp [← hj, List.getElem?_eq_getElem hj']
theorem one_cells (xs : List Int) : ∀ (u : Value), u ∈ xs.map (Value.int .u8) → u.oneCell' = true := by
  intro u hu
  obtain ⟨x, _, rfl⟩ := List.mem_map.1 hu
  rfl
theorem one_size (w : World) (n : Nat) : AtI (w.alloc (.cells #[.int .i64 n] 3)) w.heap.size 0 ([n].map Int.ofNat) := by
  intro i hi
  simp at hi
  subst hi
  simp

theorem Row.frozen {w : World} {g : Nat} {cur : List Int} (h : Row w g cur) (i : Nat) : w.frozen? ⟨g, i, none⟩ = false := by
  unfold Row at h
  simp [World.frozen?, h]
theorem At.setOther {w : World} {b off : Nat} {xs : List Int} (h : At w b off xs) {a : Addr} (ha : b ≠ a.block) (v : Value) : At (w.setCell a v) b off xs :=
  fun i hi => (World.cell?_of_block (w := w) (Below.heap_setCell w a v b ha)).trans (h i hi)
theorem piece_one (xs : List Int) (n : Nat) (hn : xs.length = n) : piece xs [n] 0 = xs := by
  simp [piece, pos, hn, List.take_of_length_le]
theorem fill_one (n : Nat) : fillL ([n].map Int.ofNat) n = true := by
  simp [fillL]

set_option maxHeartbeats 400000 in
theorem own_out (a : Option Addr) (n cap : Nat) (w : World) (h : n < 1 ∨ 100 < n) :
    Calls Try.prog 7 #[.slice a n cap] w fun e w' => e = .returned (.bool true) ∧ Below w.heap.size w w' := by
  by_cases h1 : n < 1
  · go_enter Try.func7, Try.ntmps7
    go_wp2
    go_ret
    exact ⟨rfl, Below.refl _ _⟩
  · have h2 : 100 < n := by omega
    go_enter Try.func7, Try.ntmps7
    go_wp2
    go_ret
    exact ⟨rfl, Below.refl _ _⟩

set_option maxHeartbeats 1000000 in
theorem own_some (b off n cap : Nat) (xs : List Int) (w : World) (hn : xs.length = n) (h1 : 1 ≤ n) (h2 : n ≤ 100) (hbw : b < w.heap.size) (hat : At w b off xs) :
    Calls Try.prog 7 #[.slice (some ⟨b, off, none⟩) n cap] w fun e w' => e = .returned (.bool true) ∧ Below w.heap.size w w' := by
  obtain ⟨i0, hi, hz0, hz1, hz2⟩ := info_parts Try.info5
  have hs := str_self xs
  have HN := hide' hn
  clear hn
  go_enter Try.func7, Try.ntmps7
  go_wp2_with (at_builtin; refine wpList_append_own _ rfl _ _ 23 rfl w.heap.size 5 i0 (.int .u8 0) 1 1 Try.underlying23 hi hz0 hz1 hz2 rfl (by decide) _ _ _ rfl (World.ownsRow_lit (base := w.heap.size) w #[] 0 (Nat.le_refl _) (by decide) rfl) ⟨b, off, none⟩ n cap (xs.map (Value.int .u8)) rfl ?c0 ?c1 ?c2 ?c3 ?c4 ?c5 ?_)
  case c0 => simp [HN.out]
  case c1 => exact (hat.alloc hbw _).news
  case c2 => exact one_cells xs
  case c3 => unfold maxLen; omega
  case c4 => omega
  case c5 => simp
  intro v' w1 hown hgrow hv'
  obtain ⟨g, cap1, hv, hg0, hg1, hnc, hcm, ha1⟩ := own_bytes HN.out hown hv'
  have hB1 : Below w.heap.size w w1 := ((Below.refl _ _).alloc (Nat.le_refl _) _).grown hgrow (by simp) (fun k hk => by simp [Value.ownBlock] at hk; omega)
  clear hown hgrow hv'
  subst hv
  unfold maxLen at hcm
  go_wp2_with fail
  have hW2 : Below w1.heap.size w1 (w1.alloc (.cells #[.int .i64 n] 3)) := (Below.refl _ _).alloc (Nat.le_refl _) _
  have hfil : ∀ w', Below (w1.alloc (.cells #[.int .i64 n] 3)).heap.size (w1.alloc (.cells #[.int .i64 n] 3)) w' → Calls Try.prog 21 #[.slice (some ⟨w1.heap.size, 0, none⟩) 1 1, .int .i64 n] w' fun e w'' => e = .returned (.bool true) ∧ w'' = w' := by
    intro w' hbw'
    have := fill_some w1.heap.size 0 1 1 n ([n].map Int.ofNat) w' rfl (by decide) (by omega) ((one_size w1 n).below hbw' (by simp))
    rw [fill_one] at this
    exact this
  refine (cut_yes g 0 n cap1 xs (some ⟨w1.heap.size, 0, none⟩) 1 1 [n] _ HN.out (by omega) hnc hcm (by simp; omega) (ha1.below hW2 hg1) rfl (by decide) (by simp) (fun _ => ⟨_, 0, rfl, by simp, one_size w1 n⟩) hfil).mono ?_
  rintro e w3 ⟨rfl, hcuts, hb3⟩
  simp only [World.size_alloc] at hcuts hb3
  obtain ⟨f, hrow, hall⟩ := hcuts
  obtain ⟨g2, hg2, hf0, hR⟩ := hall 0 (by decide)
  rw [piece_one xs n HN.out] at hf0 hR
  rw [HN.out] at hf0
  have hc0 : w3.cell? ⟨w1.heap.size + 1, 0, none⟩ = some (.slice (some ⟨g2, 0, none⟩) n n) := (hrow.cell (by decide)).trans (by rw [hf0])
  have hc2 := hR.at 0 (by rw [HN.out]; omega)
  have hf2 := hR.frozen 0
  have hS1 := hB1.size
  have ka := fun v => (((ha1.below hW2 hg1).below hb3 (by omega)).setOther (a := ⟨g2, 0, none⟩) (by simp only; omega) v).conv (n := n) (cap := cap1) HN.out
  have kb := fun v => ((((hat.below hB1 hbw).below hW2 (by omega)).below hb3 (by omega)).setOther (a := ⟨g2, 0, none⟩) (by simp only; omega) v).conv (n := n) (cap := cap) HN.out
  generalize xs.getD 0 0 = x0 at hc2
  simp only [Nat.zero_add] at hc2
  have hB3 : Below w.heap.size w w3 := (hB1.trans (hW2.mono hS1)).trans (hb3.mono (by omega))
  have hgw : w.heap.size ≤ g2 := by omega
  clear hrow hall hf0 hR hfil hB1 hW2 hb3 ha1 hat
  go_wp2_with fail
  refine (known_true _).mono ?_
  rintro e w4 ⟨rfl, hb4⟩
  rw [World.size_setCell] at hb4
  go_wp2
  go_ret
  exact ⟨rfl, (hB3.setCell hgw _).trans (hb4.mono hB3.size)⟩
end Go.Proofs.Ytbekiajnkmlokaa
