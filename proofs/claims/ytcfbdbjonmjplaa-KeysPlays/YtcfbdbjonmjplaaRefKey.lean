/- The document's keys: its memory, Current, Key. -/
import Derived.Test.YtcfbdbjonmjplaaKeySaid
import Derived.Test.YtcfbdbjonmjplaaRefPow
import Derived.Test.YtcfbdbjonmjplaaRefOf
namespace Go.Proofs.Ytcfbdbjonmjplaa
open Go.RowKit
set_option maxRecDepth 20000

/-- Epochs, rising by one. -/
def rowU (lo n : Nat) : List Value := (List.range n).map fun i => .int .u32 ((lo + i : Nat) : Int)
theorem rowU_len (lo n : Nat) : (rowU lo n).length = n := by simp [rowU]
theorem rowU_get (lo : Nat) {n i : Nat} (h : i < n) : (rowU lo n)[i]? = some (.int .u32 ((lo + i : Nat) : Int)) := by simp [rowU, h]
theorem rowU_snoc (lo n : Nat) : rowU lo n ++ [.int .u32 ((lo + n : Nat) : Int)] = rowU lo (n + 1) := by simp [rowU, List.range_succ]
theorem rowU_one (lo n : Nat) : ∀ u ∈ rowU lo n, u.oneCell' = true := by
  intro u hu
  obtain ⟨i, _, rfl⟩ := List.mem_map.1 hu
  rfl
/-- A row of these that lies at block g. -/
def URow (w : World) (g n cap lo : Nat) : Prop := w.ownsRow 0 33 1 (.slice (some ⟨g, 0, none⟩) n cap) n (rowU lo n)
theorem URow.cell {w : World} {g n cap lo : Nat} (h : URow w g n cap lo) {i : Nat} (hi : i < n) : w.cell? ⟨g, i, none⟩ = some (.int .u32 ((lo + i : Nat) : Int)) := by
  obtain ⟨g', cap', e, _, _, hc⟩ := own_cell h (rowU_get lo hi)
  obtain rfl : g = g' := by simpa using (Value.slice.inj e).1
  exact hc
theorem URow.lt {w : World} {g n cap lo : Nat} (h : URow w g n cap lo) : g < w.heap.size := (World.ownsRow.lt h g rfl).2
theorem URow.stay {w w' : World} {g n cap lo : Nat} (h : URow w g n cap lo) (hb : w'.heap[g]? = w.heap[g]?) : URow w' g n cap lo := by
  obtain ⟨h1, ⟨e, _⟩ | ⟨g', cap', cur, e, hg, hh, rest⟩⟩ := h
  · cases e
  · obtain rfl : g = g' := by simpa using (Value.slice.inj e).1
    exact ⟨h1, Or.inr ⟨g, cap', cur, e, hg, hb.trans hh, rest⟩⟩
theorem URow.off {F : Nat → Prop} {w w' : World} {g n cap lo : Nat} (h : URow w g n cap lo) (hb : Off F w w') (hn : ¬ F g) : URow w' g n cap lo := h.stay (hb.block g h.lt hn)
theorem URow.of {w : World} {base n lo : Nat} {v : Value} {xs : List Value} (h : w.ownsRow base 33 1 v n xs) (hx : xs = rowU lo n) (h0 : 0 < n) : ∃ g cap, v = .slice (some ⟨g, 0, none⟩) n cap ∧ base ≤ g ∧ URow w g n cap lo := by
  subst hx
  obtain ⟨h1, ⟨_, e⟩ | ⟨g, cap, cur, rfl, hg, hh, rest⟩⟩ := h
  · omega
  · exact ⟨g, cap, rfl, hg, h1, Or.inr ⟨g, cap, cur, rfl, Nat.zero_le _, hh, rest⟩⟩
def RKInv (p : Option Addr) (F : Nat → Prop) (w : World) (v : Value) (st : KSt) : Prop := ∃ b g n cap, Hid (n + st.2.1 = st.2.2 + 1) ∧ v = .pointer (some ⟨b, 0, none⟩) ∧ CBox 44 w b #[.pointer p, .int .u64 (nv st.1), .slice (some ⟨g, 0, none⟩) n cap] ∧ b ≠ g ∧ URow w g n cap st.2.1 ∧ ∀ k, F k ↔ k = b ∨ k = g
theorem rkbase (p : Option Addr) : ObjBase (RKInv p) := by
  refine ⟨?_, ?_, ?_⟩
  · rintro F w w' v _ ⟨b, g, n, cap, hn, rfl, h, hbg, hr, hF⟩ _ hb
    exact ⟨b, g, n, cap, hn, rfl, (hb b ((hF b).2 (Or.inl rfl))).trans h, hbg, hr.stay (hb g ((hF g).2 (Or.inr rfl))), hF⟩
  · rintro F w v _ ⟨b, g, n, cap, hn, rfl, h, hbg, hr, hF⟩ k hk
    rcases (hF k).1 hk with rfl | rfl
    · exact CBox.lt h
    · exact hr.lt
  · rintro F w v _ ⟨b, g, n, cap, hn, rfl, _⟩
    exact ⟨_, rfl⟩
theorem rkmake (p : Option Addr) (s : BitVec 64) (w : World) : Calls Try.prog 9 #[.int .u64 (nv s), .pointer p] w fun e w' => ∃ v F, e = .returned v ∧ RKInv p F w' v (s, 1, 1) ∧ (∀ k, F k → w.heap.size ≤ k) ∧ Below w.heap.size w w' := by
  have hA : Below w.heap.size w (w.alloc (.cells #[.int .u32 1] 33)) := (Below.refl _ _).alloc (Nat.le_refl _) _
  have own := World.ownsRow_lit (base := 0) (e := 33) (size := 1) w #[.int .u32 1] 1 (Nat.zero_le _) (by decide) rfl
  have hU : URow (w.alloc (.cells #[.int .u32 1] 33)) w.heap.size 1 1 1 := own
  clear own
  have hs : w.heap.size < (w.alloc (.cells #[.int .u32 1] 33)).heap.size := by simp
  go_enter Try.func9, Try.ntmps9
  have e1 : (w.alloc (.cells #[.int .u32 1] 33)).heap.size = w.heap.size + 1 := by simp
  go_wp2_with fail
  have hN := CBox.new 44 (w.alloc (.cells #[.int .u32 1] 33)) #[.pointer p, .int .u64 (nv s), .slice (some ⟨w.heap.size, 0, none⟩) 1 1]
  rw [e1] at hN
  have hb : Below (w.heap.size + 1) (w.alloc (.cells #[.int .u32 1] 33)) ((w.alloc (.cells #[.int .u32 1] 33)).alloc (.cells #[.pointer p, .int .u64 (nv s), .slice (some ⟨w.heap.size, 0, none⟩) 1 1] 44)) := (Below.refl _ _).alloc (by rw [e1]; exact Nat.le_refl _) _
  have hU2 := hU.stay (hb.block _ (Nat.lt_succ_self _))
  have hB := hA.trans (hb.mono (Nat.le_succ _))
  go_wp2
  go_ret
  exact ⟨_, fun k => k = w.heap.size + 1 ∨ k = w.heap.size, rfl, ⟨w.heap.size + 1, w.heap.size, 1, 1, hide' rfl, rfl, hN, by omega, hU2, fun _ => Iff.rfl⟩, fun k hk => hk.elim (fun e => by omega) (fun e => by omega), hB⟩
set_option maxHeartbeats 1000000 in
theorem rkcurrent (p : Option Addr) (F : Nat → Prop) (v : Value) (st : KSt) (hok : KOk st) (w : World) (hI : RKInv p F w v st) : Calls Try.prog 19 #[v] w fun e w' => e = .returned (.int .u32 (st.2.2 : Int)) ∧ Below w.heap.size w w' := by
  obtain ⟨b, g, n, cap, hn, rfl, h, hbg, hr, hF⟩ := hI
  obtain ⟨s, lo, cur⟩ := st
  have hn' : n + lo = cur + 1 := hn.out
  have hok1 : lo ≤ cur := hok.2.1
  have hok2 : cur ≤ 1000000 := hok.2.2
  have c2 : w.cell? ⟨b, 2, none⟩ = some (.slice (some ⟨g, 0, none⟩) n cap) := CBox.cell h 2
  obtain ⟨j, hj⟩ : ∃ j, n = j + 1 := ⟨n - 1, by omega⟩
  have hu := hr.cell (i := j) (by omega)
  rw [show lo + j = cur from by omega] at hu
  have hw : IntKind.i64.wrap ((n : Int) - 1) = (j : Int) := by
    rw [IntKind.wrap_i64]
    omega
  have hlt : (j : Int) < n := by omega
  clear hn hn' hok1 hok2 h hr hF hok hj
  go_enter Try.func19, Try.ntmps19
  go_wp2
  go_region
  go_wp2
  go_ret
  exact ⟨rfl, (Below.refl _ _).drew⟩
end Go.Proofs.Ytcfbdbjonmjplaa
