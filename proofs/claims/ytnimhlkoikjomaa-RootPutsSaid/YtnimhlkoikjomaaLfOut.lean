/- Numbers and Pairs as bytes, whatever function makes them; a row of two bytes that was made. -/
import Derived.Test.YtnimhlkoikjomaaBRef1
import Derived.Test.YtnimhlkoikjomaaFit
import Derived.Test.YtnimhlkoikjomaaObjA
import Derived.Test.YtnimhlkoikjomaaOff
namespace Go.Proofs.Ytnimhlkoikjomaa
open Go.RowKit
set_option maxRecDepth 20000

def PutIn (fn : Nat) : Prop := ∀ (V n : Nat), 1 ≤ n → n ≤ 8 → ∀ w : World, Calls Try.prog fn #[.int .u64 V, .int .i64 n] w fun e w' => ∃ x c, e = .returned (.slice x n c) ∧ SAt w' x n (putL V n) ∧ Fit x n c ∧ Below w.heap.size w w'
def BytesIn (fn : Nat) : Prop := ∀ (p : BitVec 64 × BitVec 64) (w : World), Calls Try.prog fn #[.agg #[.int .u64 (nv p.1), .int .u64 (nv p.2)]] w fun e w' => ∃ x c, e = .returned (.slice x 16 c) ∧ SAt w' x 16 (pairL p) ∧ Fit x 16 c ∧ Below w.heap.size w w'
theorem rput_in : PutIn 21 := fun V n h1 h2 w => (rput_own V n w h1 h2).mono (by
  rintro e w' ⟨v, rfl, own, hb⟩
  obtain ⟨x, c, rfl, hs, f1, f2, f3⟩ := own_slice (putL_length V n) own
  exact ⟨x, c, rfl, hs, ⟨f1, f2, f3⟩, hb⟩)
theorem rbytes_in : BytesIn 22 := fun p w => (rbytes p w).mono (by
  rintro e w' ⟨v, rfl, own, hb⟩
  obtain ⟨x, c, rfl, hs, f1, f2, f3⟩ := own_slice (pairL_length p) own
  exact ⟨x, c, rfl, hs, ⟨f1, f2, f3⟩, hb⟩)
theorem wput_in : PutIn 19 := fun V n h1 h2 w => (put_some V n w h1 h2).mono (by
  rintro e w' ⟨rfl, hat, hb, hlt⟩
  exact ⟨_, _, rfl, hat.sat hlt (putL_length V n), ⟨Nat.le_refl _, by unfold maxLen; omega, fun e => by cases e⟩, hb⟩)
theorem wbytes_in : BytesIn 20 := fun p w => (bytes_any p.1.toNat p.2.toNat w).mono (by
  rintro e w' ⟨g, rfl, hg, hr, hb⟩
  exact ⟨_, _, rfl, hr.sat (pairL_length p), ⟨Nat.le_refl _, by decide, fun e => by cases e⟩, hb⟩)
theorem own_cbox {w : World} {g n base : Nat} {cs : Array Value} (h : CBox 5 w g cs) (hn : cs.size = n) (hb : base ≤ g) (hm : n ≤ maxLen) : w.ownsRow base 5 1 (.slice (some ⟨g, 0, none⟩) n n) n cs.toList :=
  ⟨by rw [Nat.mul_one, Array.length_toList]; exact hn, .inr ⟨g, n, cs, rfl, hb, h, Nat.le_refl _, hm, by rw [Nat.mul_one]; exact hn, by rw [Nat.mul_one, ← hn, ← Array.length_toList, List.take_length]⟩⟩
end Go.Proofs.Ytnimhlkoikjomaa
