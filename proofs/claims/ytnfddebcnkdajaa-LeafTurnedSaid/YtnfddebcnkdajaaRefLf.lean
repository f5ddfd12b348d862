/- The document's leaves: Is, Put. -/
import Derived.Test.YtnfddebcnkdajaaLfBox
import Derived.Test.YtnfddebcnkdajaaBRef1
namespace Go.Proofs.Ytnfddebcnkdajaa
open Go.RowKit
set_option maxRecDepth 20000

theorem lfIs_slot {l : Lf} {slot : Int} (h : ¬ (0 ≤ slot ∧ slot < 16)) : lfIs l slot = false := by
  unfold lfIs
  rw [decide_eq_false_iff_not]
  exact fun e => h e.1
theorem lfIs_0 {l : Lf} {slot : Int} (hs : 0 ≤ slot ∧ slot < 16) (hk : l.kind = 0) : lfIs l slot = decide (l = lf0) := by
  unfold lfIs
  rw [Bool.eq_iff_iff, decide_eq_true_eq, decide_eq_true_eq]
  constructor
  · rintro ⟨-, h | ⟨-, h | h⟩⟩
    · exact h
    · rw [h] at hk
      exact absurd (show (2 : Int) = 0 from hk) (by decide)
    · omega
  · exact fun h => ⟨hs, Or.inl h⟩
theorem lfIs_lba {l : Lf} {slot : Int} (hk : l.kind ≠ 0) (hl : ¬ (0 ≤ l.lba ∧ l.lba < 32)) : lfIs l slot = false := by
  unfold lfIs
  rw [decide_eq_false_iff_not]
  rintro ⟨-, h | ⟨h, -⟩⟩
  · exact hk (by rw [h])
  · exact hl h
theorem lfIs_2 {l : Lf} {slot : Int} (hs : 0 ≤ slot ∧ slot < 16) (hl : 0 ≤ l.lba ∧ l.lba < 32) (hk : l.kind = 2) : lfIs l slot = decide (l = lfZ l.lba) := by
  unfold lfIs
  rw [Bool.eq_iff_iff, decide_eq_true_eq, decide_eq_true_eq]
  constructor
  · rintro ⟨-, h | ⟨-, h | h⟩⟩
    · rw [h] at hk
      exact absurd (show (0 : Int) = 2 from hk) (by decide)
    · exact h
    · omega
  · exact fun h => ⟨hs, Or.inr ⟨hl, Or.inl h⟩⟩
theorem lfIs_1 {l : Lf} {slot : Int} (hs : 0 ≤ slot ∧ slot < 16) (hl : 0 ≤ l.lba ∧ l.lba < 32) (hk : l.kind = 1) : lfIs l slot = decide (nv32 l.sl = slot ∧ l.ep ≠ 0#32) := by
  unfold lfIs
  rw [Bool.eq_iff_iff, decide_eq_true_eq, decide_eq_true_eq]
  constructor
  · rintro ⟨-, h | ⟨-, h | h⟩⟩
    · rw [h] at hk
      exact absurd (show (0 : Int) = 1 from hk) (by decide)
    · rw [h] at hk
      exact absurd (show (2 : Int) = 1 from hk) (by decide)
    · exact h.2
  · exact fun h => ⟨hs, Or.inr ⟨hl, Or.inr ⟨hk, h⟩⟩⟩
theorem lfIs_k {l : Lf} {slot : Int} (h0 : l.kind ≠ 0) (h1 : l.kind ≠ 1) (h2 : l.kind ≠ 2) : lfIs l slot = false := by
  unfold lfIs
  rw [decide_eq_false_iff_not]
  rintro ⟨-, h | ⟨-, h | h⟩⟩
  · exact h0 (by rw [h])
  · exact h2 (by rw [h])
  · exact h1 h.1
theorem ep_ne (x : BitVec 32) : (nv32 x = 0) ↔ x = 0#32 := ⟨fun h => nv32_inj (y := 0#32) h, fun h => by rw [h]; rfl⟩
theorem rlis : LfIsIn 16 := by
  intro l slot w
  obtain ⟨k, d, lb, ep, sl, ve, t1, t2⟩ := l
  have hn0 : nv32 0#32 = 0 := rfl
  have hn1 : nv 0#64 = 0 := rfl
  have hB : Below w.heap.size w (w.alloc (.cells #[.int .i64 k, .bool d, .int .i64 lb, .int .u32 (nv32 ep), .int .u32 (nv32 sl), .int .u64 (nv ve), .int .u64 (nv t1), .int .u64 (nv t2)] 29)) := (Below.refl _ _).alloc (Nat.le_refl _) _
  by_cases hs : 0 ≤ slot ∧ slot < 16
  case neg =>
    rw [lfIs_slot hs]
    unfold lfv
    by_cases h0 : slot < 0
    · go_enter Try.func16, Try.ntmps16
      go_wp2
      go_ret
      exact ⟨rfl, hB⟩
    · have h1 : slot ≥ 16 := by omega
      go_enter Try.func16, Try.ntmps16
      go_wp2
      go_ret
      exact ⟨rfl, hB⟩
  have s0 : ¬ slot < 0 := by omega
  have s1 : ¬ slot ≥ 16 := by omega
  by_cases k0 : k = 0
  · subst k0
    rw [lfIs_0 hs rfl]
    have heq := eqL ⟨0, d, lb, ep, sl, ve, t1, t2⟩ lf0
    unfold lfv at heq ⊢
    simp only [hn0, hn1] at heq
    generalize decide ((⟨0, d, lb, ep, sl, ve, t1, t2⟩ : Lf) = lf0) = r at *
    clear hs
    go_enter Try.func16, Try.ntmps16
    go_wp2
    go_ret
    exact ⟨rfl, hB⟩
  by_cases hl : 0 ≤ lb ∧ lb < 32
  case neg =>
    rw [lfIs_lba k0 hl]
    unfold lfv
    by_cases h0 : lb < 0
    · clear hs hl
      go_enter Try.func16, Try.ntmps16
      go_wp2
      go_ret
      exact ⟨rfl, hB⟩
    · have h1 : lb ≥ 32 := by omega
      clear hs hl
      go_enter Try.func16, Try.ntmps16
      go_wp2
      go_ret
      exact ⟨rfl, hB⟩
  have l0 : ¬ lb < 0 := by omega
  have l1 : ¬ lb ≥ 32 := by omega
  by_cases k2 : k = 2
  · subst k2
    rw [lfIs_2 hs hl rfl]
    have heq := eqL ⟨2, d, lb, ep, sl, ve, t1, t2⟩ (lfZ lb)
    unfold lfv at heq ⊢
    simp only [hn0, hn1] at heq
    have e : decide ((⟨2, d, lb, ep, sl, ve, t1, t2⟩ : Lf) = lfZ (⟨2, d, lb, ep, sl, ve, t1, t2⟩ : Lf).lba) = decide ((⟨2, d, lb, ep, sl, ve, t1, t2⟩ : Lf) = lfZ lb) := rfl
    rw [e]
    generalize decide ((⟨2, d, lb, ep, sl, ve, t1, t2⟩ : Lf) = lfZ lb) = r at *
    clear hs hl e
    go_enter Try.func16, Try.ntmps16
    go_wp2
    go_ret
    exact ⟨rfl, hB⟩
  by_cases k1 : k = 1
  · subst k1
    rw [lfIs_1 hs hl rfl]
    have hi : IntKind.i64.wrap (nv32 sl) = nv32 sl := by
      have := nv32_range sl
      rw [IntKind.wrap_i64]
      omega
    have e : ∀ r : Bool, decide (nv32 (⟨1, d, lb, ep, sl, ve, t1, t2⟩ : Lf).sl = slot ∧ (⟨1, d, lb, ep, sl, ve, t1, t2⟩ : Lf).ep ≠ 0#32) = r ↔ (decide (nv32 sl = slot) && !decide (nv32 ep = 0)) = r := fun r => by
      have he := ep_ne ep
      have : decide (nv32 sl = slot ∧ ep ≠ 0#32) = (decide (nv32 sl = slot) && !decide (nv32 ep = 0)) := by
        by_cases h1 : nv32 sl = slot <;> by_cases h2 : ep = 0#32 <;> simp [h1, h2, hn0, he]
      rw [← this]
    obtain ⟨r, hr⟩ : ∃ r, decide (nv32 (⟨1, d, lb, ep, sl, ve, t1, t2⟩ : Lf).sl = slot ∧ (⟨1, d, lb, ep, sl, ve, t1, t2⟩ : Lf).ep ≠ 0#32) = r := ⟨_, rfl⟩
    rw [hr]
    replace hr := hide' ((e r).1 hr)
    clear e
    unfold lfv
    clear hs hl
    by_cases h1 : nv32 sl = slot
    case neg =>
      have := hr.out
      rw [decide_eq_false h1, Bool.false_and] at this
      subst this
      clear hr
      go_enter Try.func16, Try.ntmps16
      go_wp2
      go_ret
      exact ⟨rfl, hB⟩
    subst h1
    have hr2 : Hid ((nv32 ep != 0) = r) := hide' (by
      have := hr.out
      rw [decide_eq_true rfl, Bool.true_and] at this
      rw [← this]
      by_cases h2 : nv32 ep = 0 <;> simp [h2])
    clear hr
    go_enter Try.func16, Try.ntmps16
    go_wp2
    go_ret
    exact ⟨congrArg (fun b => Ending.returned (.bool b)) hr2.out, hB⟩
  · rw [lfIs_k (by exact k0) (by exact k1) (by exact k2)]
    unfold lfv
    clear hs hl
    go_enter Try.func16, Try.ntmps16
    go_wp2
    go_ret
    exact ⟨rfl, hB⟩
end Go.Proofs.Ytnfddebcnkdajaa
