/- The landed leaves: isLba, Is; rows that are laid for a call. -/
import Derived.Test.YtnfddebcnkdajaaLfPuts
import Derived.Test.YtnfddebcnkdajaaLAt
namespace Go.Proofs.Ytnfddebcnkdajaa
open Go.RowKit
set_option maxRecDepth 20000

theorem ilba (x : Int) (w : World) : Calls Try.prog 19 #[.int .i64 x] w fun e w' => e = .returned (.bool (decide (0 ≤ x ∧ x < 32))) ∧ w' = w := by
  by_cases h0 : x ≥ 0
  · by_cases h1 : x < 32
    · rw [decide_eq_true ⟨h0, h1⟩]
      go_enter Try.func19, Try.ntmps19
      go_wp2
      go_ret
      exact ⟨rfl, rfl⟩
    · rw [decide_eq_false fun e => h1 e.2]
      go_enter Try.func19, Try.ntmps19
      go_wp2
      go_ret
      exact ⟨rfl, rfl⟩
  · rw [decide_eq_false fun e => h0 e.1]
    go_enter Try.func19, Try.ntmps19
    go_wp2
    go_ret
    exact ⟨rfl, rfl⟩
theorem iis : LfIsIn 9 := by
  intro l slot w
  obtain ⟨k, d, lb, ep, sl, ve, t1, t2⟩ := l
  have hn0 : nv32 0#32 = 0 := rfl
  have hn1 : nv 0#64 = 0 := rfl
  have hB : Below w.heap.size w (w.alloc (.cells #[.int .i64 k, .bool d, .int .i64 lb, .int .u32 (nv32 ep), .int .u32 (nv32 sl), .int .u64 (nv ve), .int .u64 (nv t1), .int .u64 (nv t2)] 29)) := (Below.refl _ _).alloc (Nat.le_refl _) _
  by_cases hs : 0 ≤ slot ∧ slot < 16
  case neg =>
    rw [lfIs_slot hs]
    unfold lfv
    by_cases h0 : slot < 0
    · go_enter Try.func9, Try.ntmps9
      go_wp2
      go_ret
      exact ⟨rfl, hB⟩
    · have h1 : slot ≥ 16 := by omega
      go_enter Try.func9, Try.ntmps9
      go_wp2
      go_ret
      exact ⟨rfl, hB⟩
  have s0 : ¬ slot < 0 := by omega
  have s1 : ¬ slot ≥ 16 := by omega
  have bx : CBox 29 (w.alloc (.cells #[.int .i64 k, .bool d, .int .i64 lb, .int .u32 (nv32 ep), .int .u32 (nv32 sl), .int .u64 (nv ve), .int .u64 (nv t1), .int .u64 (nv t2)] 29)) w.heap.size #[.int .i64 k, .bool d, .int .i64 lb, .int .u32 (nv32 ep), .int .u32 (nv32 sl), .int .u64 (nv ve), .int .u64 (nv t1), .int .u64 (nv t2)] := CBox.new _ _ _
  by_cases k0 : k = 0
  · subst k0
    rw [lfIs_0 hs rfl]
    have heq := eqL ⟨0, d, lb, ep, sl, ve, t1, t2⟩ lf0
    unfold lfv at heq ⊢
    simp only [hn0, hn1] at heq
    generalize decide ((⟨0, d, lb, ep, sl, ve, t1, t2⟩ : Lf) = lf0) = r at *
    clear hs bx
    go_enter Try.func9, Try.ntmps9
    go_wp2
    go_ret
    exact ⟨rfl, hB⟩
  by_cases k2 : k = 2
  · subst k2
    by_cases hl : 0 ≤ lb ∧ lb < 32
    case neg =>
      rw [lfIs_lba (show (2 : Int) ≠ 0 by decide) hl]
      unfold lfv
      have hd : decide (0 ≤ lb ∧ lb < 32) = false := decide_eq_false hl
      clear hs bx hl
      go_enter Try.func9, Try.ntmps9
      go_wp2_with fail
      refine (ilba _ _).mono ?_
      rw [hd]
      rintro e w1 ⟨rfl, rfl⟩
      go_wp2
      go_ret
      exact ⟨rfl, hB⟩
    rw [lfIs_2 hs hl rfl]
    have hd : decide (0 ≤ lb ∧ lb < 32) = true := decide_eq_true hl
    have heq := eqL ⟨2, d, lb, ep, sl, ve, t1, t2⟩ (lfZ lb)
    unfold lfv at heq ⊢
    simp only [hn0, hn1] at heq
    have e : decide ((⟨2, d, lb, ep, sl, ve, t1, t2⟩ : Lf) = lfZ (⟨2, d, lb, ep, sl, ve, t1, t2⟩ : Lf).lba) = decide ((⟨2, d, lb, ep, sl, ve, t1, t2⟩ : Lf) = lfZ lb) := rfl
    rw [e]
    generalize decide ((⟨2, d, lb, ep, sl, ve, t1, t2⟩ : Lf) = lfZ lb) = r at *
    clear hs hl e
    go_enter Try.func9, Try.ntmps9
    go_wp2_with fail
    refine (ilba _ _).mono ?_
    rw [hd]
    rintro e w1 ⟨rfl, rfl⟩
    go_wp2
    go_ret
    exact ⟨rfl, hB⟩
  by_cases k1 : k = 1
  · subst k1
    by_cases hl : 0 ≤ lb ∧ lb < 32
    case neg =>
      rw [lfIs_lba (show (1 : Int) ≠ 0 by decide) hl]
      unfold lfv
      have hd : decide (0 ≤ lb ∧ lb < 32) = false := decide_eq_false hl
      clear hs bx hl
      go_enter Try.func9, Try.ntmps9
      go_wp2_with fail
      refine (ilba _ _).mono ?_
      rw [hd]
      rintro e w1 ⟨rfl, rfl⟩
      go_wp2
      go_ret
      exact ⟨rfl, hB⟩
    rw [lfIs_1 hs hl rfl]
    have hd : decide (0 ≤ lb ∧ lb < 32) = true := decide_eq_true hl
    have hi : IntKind.u32.wrap slot = slot := by
      rw [IntKind.wrap_u32]
      omega
    have e : ∀ r : Bool, decide (nv32 (⟨1, d, lb, ep, sl, ve, t1, t2⟩ : Lf).sl = slot ∧ (⟨1, d, lb, ep, sl, ve, t1, t2⟩ : Lf).ep ≠ 0#32) = r ↔ (decide (nv32 sl = slot) && !decide (nv32 ep = 0)) = r := fun r => by
      have he := ep_ne ep
      have : decide (nv32 sl = slot ∧ ep ≠ 0#32) = (decide (nv32 sl = slot) && !decide (nv32 ep = 0)) := by
        by_cases h1 : nv32 sl = slot <;> by_cases h2 : ep = 0#32 <;> simp [h1, h2, hn0, he]
      rw [← this]
    obtain ⟨r, hr⟩ : ∃ r, decide (nv32 (⟨1, d, lb, ep, sl, ve, t1, t2⟩ : Lf).sl = slot ∧ (⟨1, d, lb, ep, sl, ve, t1, t2⟩ : Lf).ep ≠ 0#32) = r := ⟨_, rfl⟩
    rw [hr]
    replace hr := hide' ((e r).1 hr)
    clear e
    unfold lfv
    clear hs hl
    by_cases h1 : nv32 sl = slot
    case neg =>
      have := hr.out
      rw [decide_eq_false h1, Bool.false_and] at this
      subst this
      clear hr
      go_enter Try.func9, Try.ntmps9
      go_wp2_with fail
      refine (ilba _ _).mono ?_
      rw [hd]
      rintro e w1 ⟨rfl, rfl⟩
      go_wp2
      go_ret
      exact ⟨rfl, hB⟩
    subst h1
    have hr2 : Hid ((nv32 ep != 0) = r) := hide' (by
      have := hr.out
      rw [decide_eq_true rfl, Bool.true_and] at this
      rw [← this]
      by_cases h2 : nv32 ep = 0 <;> simp [h2])
    clear hr
    go_enter Try.func9, Try.ntmps9
    go_wp2_with fail
    refine (ilba _ _).mono ?_
    rw [hd]
    rintro e w1 ⟨rfl, rfl⟩
    go_wp2
    go_ret
    exact ⟨congrArg (fun b => Ending.returned (.bool b)) hr2.out, hB⟩
  · rw [lfIs_k (by exact k0) (by exact k1) (by exact k2)]
    unfold lfv
    clear hs bx
    go_enter Try.func9, Try.ntmps9
    go_wp2
    go_ret
    exact ⟨rfl, hB⟩
/-- Slices of bytes, side by side in a block that is made for them. -/
theorem lat_rows (w : World) (L : List (Option Addr × Nat × Nat × List Int)) (h : ∀ q ∈ L, SAt w q.1 q.2.1 q.2.2.2 ∧ Fit q.1 q.2.1 q.2.2.1 ∧ Bytes q.2.2.2) :
    LAt (w.alloc (.cells (L.map fun q => Value.slice q.1 q.2.1 q.2.2.1).toArray 30)) (some ⟨w.heap.size, 0, none⟩) L.length (L.map (·.2.2.2)) := by
  refine ⟨List.length_map _, fun _ => ⟨w.heap.size, 0, rfl, by rw [World.size_alloc]; omega, fun i hi => ?_⟩⟩
  obtain ⟨hs, hf, hb⟩ := h L[i] (List.getElem_mem hi)
  have hc : (w.alloc (.cells (L.map fun q => Value.slice q.1 q.2.1 q.2.2.1).toArray 30)).cell? ⟨w.heap.size, 0 + i, none⟩ = some (.slice L[i].1 L[i].2.1 L[i].2.2.1) := by
    rw [Nat.zero_add]
    simp [hi]
  have e : (L.map (·.2.2.2)).getD i [] = L[i].2.2.2 := by simp [hi]
  rw [e]
  exact RowIn.of hc (hs.below ((Below.refl _ _).alloc (Nat.le_refl _) _)) hf.1 hf.2.1 hf.2.2 hb
end Go.Proofs.Ytnfddebcnkdajaa
