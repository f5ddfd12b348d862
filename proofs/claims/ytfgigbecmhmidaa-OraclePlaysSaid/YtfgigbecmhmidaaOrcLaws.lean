/- What the statements on oracle come to, where it is what the document has: known. -/
import Derived.Test.YtfgigbecmhmidaaOrcSaid
import Derived.Lib.SlBytesConst
namespace Go.Proofs.Ytfgigbecmhmidaa
open Go.RowKit

variable {Inv : (Nat → Prop) → World → Value → OSt → Prop}
theorem oseal_at (hO : OrcIs Inv) (F : Nat → Prop) (v : Value) (L : List Iss) (S : List (List Int)) (key : BitVec 64 × BitVec 64) (nn : Nn) {k1 k2 n1 n2 n3 : Int} (hk1 : nv key.1 = k1) (hk2 : nv key.2 = k2) (hn1 : nv32 nn.1 = n1) (hn2 : nv32 nn.2.1 = n2) (hn3 : nv nn.2.2 = n3) (xs ys : List Int) (x y : Option Addr) (nx ny c d : Nat) (hnx : nx ≤ 4000) (hny : ny ≤ 4000) (hL : L.length ≤ 10000) (bx : Bytes xs) (by_ : Bytes ys) (fx : Fit x nx c) (fy : Fit y ny d) (w : World) (hI : Inv F w v (L, S)) (sx : SIn (fun k => ¬ F k) w x nx xs) (sy : SIn (fun k => ¬ F k) w y ny ys) {i : Int} (hi : (L.length : Int) + 1 = i) :
    Calls Try.prog 11 #[v, .agg #[.int .u64 k1, .int .u64 k2], .agg #[.int .u32 n1, .int .u32 n2, .int .u64 n3], .slice x nx c, .slice y ny d] w fun e w' => ∃ z cz F', e = .returned (.tuple #[.agg #[.slice z ny cz, .int .u64 18446744073709551615, .int .u64 i], .bool true]) ∧ Kept Inv F w v F' w' (L ++ [⟨key, nn, xs, ys⟩], S) ∧ SIn (fun k => w.heap.size ≤ k ∧ ¬ F' k) w' z ny (outB (L.length + 1) ny) ∧ Fit z ny cz := by
  subst hk1 hk2 hn1 hn2 hn3 hi
  exact hO.sealIn F v L S key nn xs ys x y nx ny c d hnx hny hL bx by_ fx fy w hI sx sy
theorem oopen_yes (hO : OrcIs Inv) (F : Nat → Prop) (v : Value) (st : OSt) (q : Ask) (i : Nat) {k1 k2 n1 n2 n3 t1 t2 : Int} (hk1 : nv q.key.1 = k1) (hk2 : nv q.key.2 = k2) (hn1 : nv32 q.non.1 = n1) (hn2 : nv32 q.non.2.1 = n2) (hn3 : nv q.non.2.2 = n3) (ht1 : nv q.tag.1 = t1) (ht2 : nv q.tag.2 = t2) {hs bs ds : List Int} (hhs : q.head = hs) (hbs : q.bytes = bs) (hds : (st.1.getD i default).data = ds) {l : Nat} (hl : ds.length = l) (x y : Option Addr) (n m c d : Nat) (hL : st.1.length ≤ 10000) (bx : Bytes hs) (by_ : Bytes bs) (fx : Fit x n c) (fy : Fit y m d) (hit : Hit st.1 q i) (w : World) (hI : Inv F w v st) (sx : SIn (fun k => ¬ F k) w x n hs) (sy : SIn (fun k => ¬ F k) w y m bs) :
    Calls Try.prog 14 #[v, .agg #[.int .u64 k1, .int .u64 k2], .agg #[.int .u32 n1, .int .u32 n2, .int .u64 n3], .slice x n c, .agg #[.slice y m d, .int .u64 t1, .int .u64 t2]] w fun e w' => ∃ z cz F', e = .returned (.tuple #[.slice z l cz, .bool true]) ∧ Kept Inv F w v F' w' st ∧ SIn (fun k => w.heap.size ≤ k ∧ ¬ F' k) w' z l ds := by
  subst hk1 hk2 hn1 hn2 hn3 ht1 ht2 hhs hbs hds hl
  exact hO.openYes F v st q x y n m c d i hL bx by_ fx fy hit w hI sx sy
theorem oopen_no (hO : OrcIs Inv) (F : Nat → Prop) (v : Value) (st : OSt) (q : Ask) {k1 k2 n1 n2 n3 t1 t2 : Int} (hk1 : nv q.key.1 = k1) (hk2 : nv q.key.2 = k2) (hn1 : nv32 q.non.1 = n1) (hn2 : nv32 q.non.2.1 = n2) (hn3 : nv q.non.2.2 = n3) (ht1 : nv q.tag.1 = t1) (ht2 : nv q.tag.2 = t2) {hs bs : List Int} (hhs : q.head = hs) (hbs : q.bytes = bs) (x y : Option Addr) (n m c d : Nat) (hL : st.1.length ≤ 10000) (bx : Bytes hs) (by_ : Bytes bs) (fx : Fit x n c) (fy : Fit y m d) (hit : ∀ i, ¬ Hit st.1 q i) (w : World) (hI : Inv F w v st) (sx : SIn (fun k => ¬ F k) w x n hs) (sy : SIn (fun k => ¬ F k) w y m bs) :
    Calls Try.prog 14 #[v, .agg #[.int .u64 k1, .int .u64 k2], .agg #[.int .u32 n1, .int .u32 n2, .int .u64 n3], .slice x n c, .agg #[.slice y m d, .int .u64 t1, .int .u64 t2]] w fun e w' => ∃ z cz F', e = .returned (.tuple #[.slice z 0 cz, .bool false]) ∧ Kept Inv F w v F' w' st := by
  subst hk1 hk2 hn1 hn2 hn3 ht1 ht2 hhs hbs
  exact hO.openNo F v st q x y n m c d hL bx by_ fx fy hit w hI sx sy
theorem At.lit7 (w : World) (zs : List Int) (fr : Nat × Nat) : At (w.alloc (.cells (zs.map (Value.int .u8)).toArray 5 fr)) w.heap.size 0 zs := by
  intro i hi
  rw [Nat.zero_add, World.cell?_alloc_mark]
  simp [hi]
theorem bytes_none : Bytes [] := fun x hx => by cases hx

set_option maxRecDepth 10000 in
set_option maxHeartbeats 2000000 in
theorem oknown (hO : OrcIs Inv) (w : World) : Calls Try.prog 22 #[] w fun e w' => e = .returned (.bool true) ∧ Below w.heap.size w w' := by
  have heq := eq32
  have kc := fun (w : World) (C : Array Value) (n c : Nat) => Lib.run_convert_bytes_const (P := Try.prog) w 37 5 C n c Try.underlying37 Try.underlying5
  go_enter Try.func22, Try.ntmps22
  go_wp2_with fail
  refine (hO.make _).mono ?_
  rintro e w1 ⟨v, F, rfl, hI, hF, hB⟩
  obtain ⟨a, rfl⟩ := hO.ptr hI
  go_wp2_with fail
  refine (oseal_at hO F _ [] [] (0#64, 0#64) (0#32, 0#32, 0#64) rfl rfl rfl rfl rfl [] [] none none 0 0 0 0 (by decide) (by decide) (by decide) bytes_none bytes_none fit_none fit_none _ hI (SIn.none _ _ _) (SIn.none _ _ _) (i := 1) rfl).mono ?_
  rintro e w2 ⟨z, cz, F2, rfl, hK, -, -⟩
  have hF2 : ∀ k, F2 k → w.heap.size ≤ k := fun k hk => (hK.sub k hk).elim (hF k) (fun h => Nat.le_trans hB.size h)
  replace hB := hB.trans (hK.off.below hF hB.size)
  replace hI := hK.inv
  clear hK
  have sx := (At.lit7 w2 [120] (1, 2)).sat (n := 1) (by simp) rfl
  have hb : Below w2.heap.size w2 (w2.alloc (.cells #[.int .u8 120] 5 (1, 2))) := (Below.refl _ _).alloc (Nat.le_refl _) _
  have hlt := hO.lt hI
  have sy : SIn (fun k => ¬ F2 k) (w2.alloc (.cells #[.int .u8 120] 5 (1, 2))) (some ⟨w2.heap.size, 0, none⟩) 1 [120] := ⟨rfl, fun _ => ⟨w2.heap.size, 0, rfl, by simp, fun h => Nat.lt_irrefl _ (hlt _ h), At.lit7 w2 [120] (1, 2)⟩⟩
  replace hI := hO.below hI hb
  replace hB := hB.trans (hb.mono hB.size)
  clear hb sx
  go_wp2_with fail
  refine (oseal_at hO F2 _ _ [] (0#64, 0#64) (0#32, 0#32, 0#64) rfl rfl rfl rfl rfl [] [120] none (some ⟨w2.heap.size, 0, none⟩) 0 1 0 1 (by decide) (by decide) (by decide) bytes_none (fun x hx => by simp at hx; omega) fit_none ⟨Nat.le_refl _, by decide, fun e => by cases e⟩ _ hI (SIn.none _ _ _) sy (i := 2) rfl).mono ?_
  rintro e w3 ⟨z3, cz3, F3, rfl, hK, -, -⟩
  have hF3 : ∀ k, F3 k → w.heap.size ≤ k := fun k hk => (hK.sub k hk).elim (hF2 k) (fun h => Nat.le_trans hB.size h)
  replace hB := hB.trans (hK.off.below hF2 hB.size)
  replace hI := hK.inv
  clear hK sy
  have hb : Below w3.heap.size w3 (w3.alloc (.cells #[.slice z3 1 cz3, .int .u64 18446744073709551615, .int .u64 2] 41)) := (Below.refl _ _).alloc (Nat.le_refl _) _
  replace hI := hO.below hI hb
  replace hB := hB.trans (hb.mono hB.size)
  clear hb
  go_wp2_with fail
  refine (hO.twice F3 _ _ true (by decide) ⟨fun _ => ⟨1, 0, by decide, by decide, rfl, rfl⟩, fun _ => rfl⟩ _ hI).mono ?_
  rintro e w4 ⟨F4, rfl, hK⟩
  replace hB := hB.trans (hK.off.below hF3 hB.size)
  go_wp2
  go_ret
  exact ⟨rfl, hB⟩
end Go.Proofs.Ytfgigbecmhmidaa
