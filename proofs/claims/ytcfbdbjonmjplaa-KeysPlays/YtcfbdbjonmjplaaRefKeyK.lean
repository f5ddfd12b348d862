/- The document's keys: Key. -/
import Derived.Test.YtcfbdbjonmjplaaRefKey
import Derived.Test.YtcfbdbjonmjplaaRefSpk
import Derived.Test.YtcfbdbjonmjplaaOwnB
namespace Go.Proofs.Ytcfbdbjonmjplaa
open Go.RowKit
set_option maxRecDepth 20000
set_option maxHeartbeats 2000000 in
theorem rkkey (p : Option Addr) (F : Nat → Prop) (v : Value) (st : KSt) (e : Nat) (hok : KOk st) (he : U32 e) (w : World) (hI : RKInv p F w v st) : Calls Try.prog 23 #[v, .int .u32 (e : Int)] w fun x w' => x = .returned (.tuple #[.agg #[.int .u64 (nv (kKey st e).1), .int .u64 (nv (kKey st e).2)], .bool (kHas st e)]) ∧ Below w.heap.size w w' := by
  obtain ⟨b, g, n, cap, hn, rfl, h, hbg, hr, hF⟩ := hI
  obtain ⟨s, lo, cur⟩ := st
  have hA : Below w.heap.size w (w.alloc (.cells #[.int .u64 0, .int .u64 0] 46)) := (Below.refl _ _).alloc (Nat.le_refl _) _
  have bR := Box.new w 0 0
  have h1 := CBox.grown h hA
  have r1 : URow (w.alloc (.cells #[.int .u64 0, .int .u64 0] 46)) g n cap lo := hr.stay (hA.block _ hr.lt)
  have hn1 : n ≤ 1000000 := by
    have h1 : n + lo = cur + 1 := hn.out
    have h2 : 1 ≤ lo := hok.1
    have h3 : cur ≤ 1000000 := hok.2.2
    omega
  clear h hr hF hbg hok
  go_enter Try.func23, Try.ntmps23
  go_wp2_with fail
  generalize w.alloc (.cells #[.int .u64 0, .int .u64 0] 46) = W1 at *
  have c1 : W1.cell? ⟨b, 1, none⟩ = some (.int .u64 (nv s)) := CBox.cell h1 1
  have c2 : W1.cell? ⟨b, 2, none⟩ = some (.slice (some ⟨g, 0, none⟩) n cap) := CBox.cell h1 2
  clear h1
  go_loopw [6] (fun i wr => ∃ k : Nat, k ≤ n ∧ i = .int .i64 (k : Int) ∧ wr = W1 ∧ Hid (∀ j, j < k → lo + j ≠ e)) (fun i _ => n - (intOf i).toNat)
  case atStart => exact ⟨0, Nat.zero_le _, rfl, rfl, hide' (fun j h => absurd h (Nat.not_lt_zero j))⟩
  case round =>
    obtain ⟨k, hk, rfl, rfl, hne⟩ := hrel
    by_cases hlt : k < n
    · have hlt' : (k : Int) < n := by omega
      have hu := r1.cell hlt
      obtain ⟨z, hz⟩ : ∃ z : Int, Hid (z = ((lo + k : Nat) : Int)) := ⟨_, rfl⟩
      rw [← hz.out] at hu
      have hw : IntKind.i64.wrap ((k : Int) + 1) = (k : Int) + 1 := by
        rw [IntKind.wrap_i64]
        omega
      by_cases hm : lo + k = e
      · have hze : z = (e : Int) := by rw [hz.out, hm]
        subst hze
        have hhas : kHas (s, lo, cur) e = true := by
          have := hn.out
          exact decide_eq_true (by dsimp only at this ⊢; omega)
        have hkk : kKey (s, lo, cur) e = keyOf s e := if_pos hhas
        have HH := hide' hhas
        have HK := hide' hkk
        clear hhas hkk hm hz
        go_wp2_with fail
        refine (rof s e he _).mono ?_
        rintro x w2 ⟨rfl, hb⟩
        replace bR := bR.grown hb
        replace hA := hA.trans (hb.mono hA.size)
        have f0 := bR.c0
        have f1 := bR.c1
        have f2 := bR.frozen 0
        have f3 := bR.frozen 1
        clear hb
        go_wp2
        refine bodyPost_ret (v := .tuple #[.agg #[.int .u64 (nv (keyOf s e).1), .int .u64 (nv (keyOf s e).2)], .bool true]) (by simp [results, Try.results23, go_sem, f0, f1]; try exact ⟨rfl, rfl⟩) rfl ⟨by rw [HH.out, HK.out]; try rfl, ?_⟩
        exact (hA.setCell (by simp only; omega) _).setCell (by simp only; omega) _
      · have hze : ¬ z = (e : Int) := by
          rw [hz.out]
          omega
        go_wp2
        go_roundw
        case rel => exact ⟨k + 1, by omega, by go_num, trivial, hide' (fun j hj => by rcases Nat.lt_succ_iff_lt_or_eq.1 hj with h | rfl; exact hne.out j h; exact hm)⟩
        case measure => simp [intOf]; omega
    · have hlt' : ¬ (k : Int) < n := by omega
      have hhas : kHas (s, lo, cur) e = false := by
        have h1 : n + lo = cur + 1 := hn.out
        refine decide_eq_false (fun h => ?_)
        dsimp only at h
        exact hne.out (e - lo) (by omega) (by omega)
      have hkk : kKey (s, lo, cur) e = (0#64, 0#64) := if_neg (by rw [hhas]; decide)
      have HH := hide' hhas
      have HK := hide' hkk
      have f0 := bR.c0
      have f1 := bR.c1
      have f2 := bR.frozen 0
      have f3 := bR.frozen 1
      clear hhas hkk
      go_wp2
      refine bodyPost_ret (v := .tuple #[.agg #[.int .u64 0, .int .u64 0], .bool false]) (by simp [results, Try.results23, go_sem, f0, f1]; try exact ⟨rfl, rfl⟩) rfl ⟨by rw [HH.out, HK.out]; try rfl, ?_⟩
      exact (hA.setCell (by simp only; omega) _).setCell (by simp only; omega) _
end Go.Proofs.Ytcfbdbjonmjplaa
