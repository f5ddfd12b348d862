/- What lockboxref1.Put and lockboxref1.Get come to. -/
import Derived.Test.YtbekiajnkmlokaaPut
namespace Go.Proofs.Ytbekiajnkmlokaa
open Go.RowKit

set_option maxHeartbeats 400000 in
theorem rput_none (v n : Int) (w : World) (h : n < 1 ∨ 8 < n) :
    Calls Try.prog 10 #[.int .u64 v, .int .i64 n] w fun e w' => e = .returned (.slice none 0 0) ∧ w' = w := by
  by_cases h1 : n < 1
  · go_enter Try.func10, Try.ntmps10
    go_wp2
    go_ret
    exact ⟨rfl, rfl⟩
  · have h2 : 8 < n := by omega
    go_enter Try.func10, Try.ntmps10
    go_wp2
    go_ret
    exact ⟨rfl, rfl⟩

theorem shr_byte (V j : Nat) : (V : Int) / 2 ^ (8 * j) % 256 = (byteAt V j : Nat) := by
  rw [byteAt, Int.pow_mul]
  simp
theorem rput_step {w1 : World} {base : Nat} {v : Value} (V n k : Nat) (h1 : 1 ≤ k) (h2 : k ≤ n)
    (h : w1.ownsRow base 5 1 v (n - k + 1) (((putL V n).take (n - k)).map (Value.int .u8) ++ [.int .u8 ((V : Int) / 2 ^ (8 * (k - 1)) % 256)])) :
    w1.ownsRow base 5 1 v (n - (k - 1)) (((putL V n).take (n - (k - 1))).map (Value.int .u8)) := by
  have e : n - (k - 1) = n - k + 1 := by omega
  have hl : n - k < (putL V n).length := by rw [putL_length]; omega
  rw [e, List.take_succ_eq_append_getElem hl, List.map_append]
  have e2 : (putL V n)[n - k] = (V : Int) / 2 ^ (8 * (k - 1)) % 256 := by
    rw [shr_byte]
    simp only [putL, List.getElem_map, List.getElem_range]
    rw [show n - 1 - (n - k) = k - 1 from by omega]
  rw [e2]
  exact h
theorem own_block {w : World} {base e size n : Nat} {v : Value} {xs : List Value} (h : w.ownsRow base e size v n xs) : ∀ k, v.ownBlock = some k → base ≤ k := by
  intro k hk
  obtain ⟨_, ⟨rfl, _⟩ | ⟨g, cap, cur, rfl, hg, _⟩⟩ := h
  · simp [Value.ownBlock] at hk
  · simp [Value.ownBlock] at hk; omega
theorem own_at {w : World} {base n V : Nat} {v : Value} (h : w.ownsRow base 5 1 v (n - 0) (((putL V n).take (n - 0)).map (Value.int .u8))) (h1 : 1 ≤ n) :
    ∃ g cap, v = .slice (some ⟨g, 0, none⟩) n cap ∧ base ≤ g ∧ g < w.heap.size ∧ At w g 0 (putL V n) := by
  rw [Nat.sub_zero, List.take_of_length_le (by rw [putL_length]; exact Nat.le_refl _)] at h
  have h' := h
  obtain ⟨_, ⟨_, h0⟩ | ⟨g, cap, cur, rfl, hg, hh, _⟩⟩ := h
  · omega
  · obtain ⟨hlt, _⟩ := Array.getElem?_eq_some_iff.1 hh
    refine ⟨g, cap, rfl, hg, hlt, fun i hi => ?_⟩
    rw [putL_length] at hi
    rw [Nat.zero_add, h'.cellAt i (by omega)]
    simp [putL_length, hi]

set_option maxHeartbeats 400000 in
theorem rput_some (V : Nat) (n : Nat) (w : World) (h1 : 1 ≤ n) (h2 : n ≤ 8) :
    Calls Try.prog 10 #[.int .u64 V, .int .i64 n] w fun e w' => ∃ g cap, e = .returned (.slice (some ⟨g, 0, none⟩) n cap) ∧ w.heap.size ≤ g ∧ g < w'.heap.size ∧ At w' g 0 (putL V n) ∧ Below w.heap.size w w' := by
  obtain ⟨i0, hi, hz0, hz1, hz2⟩ := info_parts Try.info5
  go_enter Try.func10, Try.ntmps10
  go_wp2
  go_loopw [5, 6] (fun v i wr => ∃ k : Nat, k ≤ n ∧ i = .int .i64 ((k : Int) - 1) ∧ wr.ownsRow w.heap.size 5 1 v (n - k) (((putL V n).take (n - k)).map (Value.int .u8)) ∧ Below w.heap.size w wr)
    (fun _ i _ => (intOf i + 1).toNat)
  case atStart =>
    exact ⟨n, Nat.le_refl _, rfl, by simpa using World.ownsRow_nil _ _ _ _, Below.refl _ _⟩
  case round =>
    obtain ⟨k, hk, rfl, hown, hb⟩ := hrel
    by_cases hlt : 1 ≤ k
    · have hL : n - k ≤ 8 := by omega
      have hS := hb.size
      go_wp2_with (at_builtin; refine wpList_append_own _ rfl _ _ 23 rfl w.heap.size 5 i0 (.int .u8 0) 1 1 Try.underlying23 hi hz0 hz1 hz2 rfl (by decide) _ _ _ rfl (hown.alloc _) ⟨wr.heap.size, 0, none⟩ 1 1 [.int .u8 ((V : Int) / 2 ^ (8 * (k - 1)) % 256)] rfl rfl ?c1 ?c2 ?c3 ?c4 ?c5 ?_)
      case c1 =>
        intro j u hj
        match j, hj with
        | 0, hj => simp at hj; subst hj; simp [Addr.add]
      case c2 => intro u hu; simp at hu; subst hu; rfl
      case c3 => unfold maxLen; omega
      case c4 => omega
      case c5 => simp; omega
      · intro v' w1 hown' hgrow _
        have R := rput_step V n k hlt hk (by rw [List.map_take]; exact hown')
        have hb' : Below w.heap.size w w1 := Below.grown (hb.alloc hS _) hgrow (by simp; omega) (own_block hown)
        clear hown' hgrow hown hb
        go_wp2
        go_roundw
        case rel => exact ⟨k - 1, by omega, by rw [show (k : Int) - 1 - 1 = ((k - 1 : Nat) : Int) - 1 from by omega], R, hb'⟩
        case measure => simp [intOf]; omega
    · go_wp2
      have hk0 : k = 0 := by omega
      subst hk0
      obtain ⟨g, cap, hv, hg, hg', ha⟩ := own_at hown (by omega)
      subst hv
      go_ret
      exact ⟨g, cap, rfl, hg, hg', ha, hb⟩

set_option maxHeartbeats 400000 in
theorem rget_none (a : Option Addr) (n cap : Nat) (w : World) (h : n < 1 ∨ 8 < n) :
    Calls Try.prog 13 #[.slice a n cap] w fun e w' => e = .returned (.tuple #[.int .u64 0, .bool false]) ∧ w' = w := by
  by_cases h1 : n < 1
  · go_enter Try.func13, Try.ntmps13
    go_wp2
    go_ret2
    exact ⟨rfl, rfl⟩
  · have h2 : 8 < n := by omega
    go_enter Try.func13, Try.ntmps13
    go_wp2
    go_ret2
    exact ⟨rfl, rfl⟩

theorem ret_two {k : IntKind} {a b : Int} {v : Value} (h : a = b) : Ending.returned (.tuple #[.int k a, v]) = .returned (.tuple #[.int k b, v]) := by rw [h]

set_option maxHeartbeats 400000 in
theorem rget_some (b off cap n : Nat) (xs : List Int) (w : World) (hn : xs.length = n) (h1 : 1 ≤ n) (hl : n ≤ 8) (hx : Bytes xs) (hc : At w b off xs) :
    Calls Try.prog 13 #[.slice (some ⟨b, off, none⟩) n cap] w fun e w' => e = .returned (.tuple #[.int .u64 (num xs), .bool true]) ∧ w' = w := by
  subst hn
  go_enter Try.func13, Try.ntmps13
  go_wp2
  go_loop [4, 5] (fun v i => ∃ k : Nat, k ≤ xs.length ∧ i = .int .i64 k ∧ v = .int .u64 (num (xs.take k))) (fun _ i => xs.length - (intOf i).toNat)
  case atStart => exact ⟨0, Nat.zero_le _, rfl, rfl⟩
  case round =>
    obtain ⟨k, hk, rfl, rfl⟩ := hrel
    by_cases hlt : k < xs.length
    · have hck := hc k hlt
      go_wp2
      go_round
      case rel => exact ⟨k + 1, hlt, by go_num, by rw [num_step xs hx hl k hlt]⟩
      case measure => simp [intOf]; omega
    · go_wp2
      go_ret2
      exact ⟨ret_two (by rw [List.take_of_length_le (by omega)]), rfl⟩
end Go.Proofs.Ytbekiajnkmlokaa
