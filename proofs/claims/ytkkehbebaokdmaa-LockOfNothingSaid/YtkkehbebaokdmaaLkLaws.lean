/- What the laws of a lock share: how it is made, what is known of it. -/
import Derived.Test.YtkkehbebaokdmaaLkSaid
import Derived.Test.YtkkehbebaokdmaaOrcRow
namespace Go.Proofs.Ytkkehbebaokdmaa
open Go.RowKit
set_option maxRecDepth 20000
variable {Inv : (Nat → Prop) → World → Value → LSt → Prop}

theorem lseal_at (hO : LockIs Inv) (F : Nat → Prop) (v : Value) (st : LSt) (key : BitVec 64 × BitVec 64) (nn : Nn) {k1 k2 n1 n2 n3 : Int} (hk1 : nv key.1 = k1) (hk2 : nv key.2 = k2) (hn1 : nv32 nn.1 = n1) (hn2 : nv32 nn.2.1 = n2) (hn3 : nv nn.2.2 = n3) (xs ys : List Int) (x y : Option Addr) (nx ny c d : Nat) (hnx : nx ≤ 4000) (hny : ny ≤ 4000) (hL : st.iss.length ≤ 10000) (bx : Bytes xs) (by_ : Bytes ys) (fx : Fit x nx c) (fy : Fit y ny d) (w : World) (hI : Inv F w v st) (sx : SIn (fun k => ¬ F k) w x nx xs) (sy : SIn (fun k => ¬ F k) w y ny ys) :
    Calls Try.prog 10 #[v, .agg #[.int .u64 k1, .int .u64 k2], .agg #[.int .u32 n1, .int .u32 n2, .int .u64 n3], .slice x nx c, .slice y ny d] w fun e w' => ∃ z cz F', e = .returned (.tuple #[.agg #[.slice z ny cz, .int .u64 (nv (st.sealT key nn xs ys).1), .int .u64 (nv (st.sealT key nn xs ys).2)], .bool true]) ∧ KeptL Inv F w v F' w' (st.sealS ⟨key, nn, xs, ys⟩) ∧ SIn (fun k => ¬ F' k) w' z ny (st.sealB key nn ys) ∧ Fit z ny cz := by
  subst hk1 hk2 hn1 hn2 hn3
  exact (hO.seal_ F v st key nn xs ys x y nx ny c d hnx hny hL bx by_ fx fy w hI sx sy).mono fun _ _ ⟨z, cz, F', h1, h2, h3, h4⟩ => ⟨z, cz, F', h1, h2, h3.mono (fun _ _ h => h.1), h4⟩
theorem lopen_at (hO : LockIs Inv) (F : Nat → Prop) (v : Value) (st : LSt) (q : Ask) {k1 k2 n1 n2 n3 t1 t2 : Int} (hk1 : nv q.key.1 = k1) (hk2 : nv q.key.2 = k2) (hn1 : nv32 q.non.1 = n1) (hn2 : nv32 q.non.2.1 = n2) (hn3 : nv q.non.2.2 = n3) (ht1 : nv q.tag.1 = t1) (ht2 : nv q.tag.2 = t2) {hs bs : List Int} (hhs : q.head = hs) (hbs : q.bytes = bs) {r : Option (List Int)} (hr : st.opens q = r) {l : Nat} (hl : (r.getD []).length = l) {s : Bool} (hs_ : r.isSome = s) (x y : Option Addr) (n m c d : Nat) (hnx : n ≤ 4000) (hny : m ≤ 4000) (hL : st.iss.length ≤ 10000) (bx : Bytes hs) (by_ : Bytes bs) (fx : Fit x n c) (fy : Fit y m d) (w : World) (hI : Inv F w v st) (sx : SIn (fun k => ¬ F k) w x n hs) (sy : SIn (fun k => ¬ F k) w y m bs) :
    Calls Try.prog 13 #[v, .agg #[.int .u64 k1, .int .u64 k2], .agg #[.int .u32 n1, .int .u32 n2, .int .u64 n3], .slice x n c, .agg #[.slice y m d, .int .u64 t1, .int .u64 t2]] w fun e w' => ∃ z cz F', e = .returned (.tuple #[.slice z l cz, .bool s]) ∧ KeptL Inv F w v F' w' st ∧ SIn (fun k => ¬ F' k) w' z l (r.getD []) := by
  subst hk1 hk2 hn1 hn2 hn3 ht1 ht2 hhs hbs hr hl hs_
  exact hO.open_ F v st q x y n m c d hnx hny hL bx by_ fx fy w hI sx sy
theorem lsum_at (hO : LockIs Inv) (F : Nat → Prop) (v : Value) (st : LSt) (P : List (List Int)) {zs : List Int} (hz : P.flatten = zs) {v1 v2 : Int} (hv : st.sumV zs = (v1, v2)) {st' : LSt} (hs : st.sumS zs = st') (x : Option Addr) (m c : Nat) (hm : m ≤ 1000) (hl : zs.length ≤ 50000) (hS : st.sums.length ≤ 10000) (fx : Fit x m c) (w : World) (hI : Inv F w v st) (h : LIn (fun k => ¬ F k) w x m P) :
    Calls Try.prog 15 #[v, .slice x m c] w fun e w' => ∃ F', e = .returned (.agg #[.int .u64 v1, .int .u64 v2]) ∧ KeptL Inv F w v F' w' st' := by
  subst hz hs
  refine (hO.sum F v st P x m c hm hl hS fx w hI h).mono ?_
  rw [hv]
  exact fun _ _ h => h
theorem LSt.sumV_real {st : LSt} (hi : st.ideal = false) (zs : List Int) {p : BitVec 64 × BitVec 64} (hp : sumP zs = p) : st.sumV zs = (nv p.1, nv p.2) := by rw [LSt.sumV, if_neg (by rw [hi]; decide), hp]
theorem LSt.sumV_ideal {st : LSt} (hi : st.ideal = true) (zs : List Int) {i : Nat} (h : sumIx st.sums zs = i) : st.sumV zs = (17216961135462248174, ((i : Nat) : Int)) := by rw [LSt.sumV, if_pos hi, h]
theorem lit1 {F : Nat → Prop} (w : World) (hlt : ∀ k, F k → k < w.heap.size) (u : Int) : SIn (fun k => ¬ F k) (w.alloc (.cells #[.int .u8 u] 5 (1, 2))) (some ⟨w.heap.size, 0, none⟩) 1 [u] :=
  ⟨rfl, fun _ => ⟨w.heap.size, 0, rfl, by simp, fun h => Nat.lt_irrefl _ (hlt _ h), At.lit7 w [u] (1, 2)⟩⟩
theorem fit1 (b : Nat) : Fit (some ⟨b, 0, none⟩) 1 1 := ⟨Nat.le_refl _, by decide, fun e => by cases e⟩
theorem bytes_one (u : Int) (h : 0 ≤ u ∧ u < 256) : Bytes [u] := fun x hx => by simp at hx; omega
set_option maxRecDepth 20000 in
set_option maxHeartbeats 2000000 in
theorem lknown (hO : LockIs Inv) (w : World) : Calls Try.prog 20 #[] w fun e w' => e = .returned (.bool true) ∧ Below w.heap.size w w' := by
  have heq := eq32
  have kc := fun (w : World) (C : Array Value) (n c : Nat) => Lib.run_convert_bytes_const (P := Try.prog) w 27 5 C n c Try.underlying27 Try.underlying5
  obtain ⟨p, HP⟩ : ∃ p, Hid (sumP [97] = p) := ⟨_, rfl⟩
  have hR : ∀ w : World, ∀ x : Option Addr, (x = none → 1 = 0 ∧ 1 = 0) → SAt w x 1 [97] → Calls Try.prog 29 #[.slice x 1 1] w fun e w' => e = .returned (.agg #[.int .u64 (nv p.1), .int .u64 (nv p.2)]) ∧ Below w.heap.size w w' := fun w x hnil sx => rsum_of [97] x 1 1 (by decide) (bytes_one 97 (by decide)) hnil w sx HP.out
  go_enter Try.func20, Try.ntmps20
  go_wp2_with fail
  refine (hO.real _).mono ?_
  rintro e w1 ⟨v, F, rfl, hI, hF, hB⟩
  obtain ⟨a, rfl⟩ := hO.ptr hI
  have hlt := hO.lt hI
  have hb : Below w1.heap.size w1 ((w1.alloc (.cells #[.int .u8 97] 5 (1, 2))).alloc (.cells #[.slice (some ⟨w1.heap.size, 0, none⟩) 1 1] 27)) := by go_grown
  have hl := lin_one (w1.alloc (.cells #[.int .u8 97] 5 (1, 2))) (G := fun k => ¬ F k) (fun h => by have := hlt _ h; simp at this; omega) (lit1 w1 hlt 97) (c := 1) (Nat.le_refl _) (by decide) (fun e => by cases e) (bytes_one 97 (by decide))
  rw [World.size_alloc] at hl
  replace hI := hO.below hI hb
  replace hB := hB.trans (hb.mono hB.size)
  clear hb hlt
  go_wp2_with fail
  refine (lsum_at hO F _ ⟨false, [], []⟩ [[97]] (zs := [97]) rfl (LSt.sumV_real rfl [97] HP.out) rfl _ 1 1 (by decide) (by decide) (by decide) (fit1 _) _ hI hl).mono ?_
  clear hl
  rintro e w2 ⟨F2, rfl, hK⟩
  replace hB := hB.trans (hK.off.below hF hB.size)
  clear hK hI
  have sx := (At.lit7 w2 [97] (1, 2)).sat (n := 1) (by simp) rfl
  have hb : Below w2.heap.size w2 (w2.alloc (.cells #[.int .u8 97] 5 (1, 2))) := (Below.refl _ _).alloc (Nat.le_refl _) _
  replace hB := hB.trans (hb.mono hB.size)
  clear hb
  go_wp2_with fail
  refine (hR _ _ (fun e => by cases e) sx).mono ?_
  rintro e w3 ⟨rfl, hb⟩
  replace hB := hB.trans (hb.mono hB.size)
  clear hb sx hR
  go_wp2_with fail
  refine (hO.ideal _).mono ?_
  rintro e w4 ⟨v, F4, rfl, hI, hF4, hb⟩
  replace hF4 : ∀ k, F4 k → w.heap.size ≤ k := fun k hk => Nat.le_trans hB.size (hF4 k hk)
  replace hB := hB.trans (hb.mono hB.size)
  clear hb
  obtain ⟨a, rfl⟩ := hO.ptr hI
  have hlt := hO.lt hI
  have hb : Below w4.heap.size w4 ((w4.alloc (.cells #[.int .u8 97] 5 (1, 2))).alloc (.cells #[.slice (some ⟨w4.heap.size, 0, none⟩) 1 1] 27)) := by go_grown
  have hl := lin_one (w4.alloc (.cells #[.int .u8 97] 5 (1, 2))) (G := fun k => ¬ F4 k) (fun h => by have := hlt _ h; simp at this; omega) (lit1 w4 hlt 97) (c := 1) (Nat.le_refl _) (by decide) (fun e => by cases e) (bytes_one 97 (by decide))
  rw [World.size_alloc] at hl
  replace hI := hO.below hI hb
  replace hB := hB.trans (hb.mono hB.size)
  clear hb hlt
  go_wp2_with fail
  refine (lsum_at hO F4 _ ⟨true, [], []⟩ [[97]] (zs := [97]) rfl (v1 := 17216961135462248174) (v2 := 1) (LSt.sumV_ideal rfl [97] (i := 1) rfl) rfl _ 1 1 (by decide) (by decide) (by decide) (fit1 _) _ hI hl).mono ?_
  rintro e w5 ⟨F5, rfl, hK⟩
  replace hB := hB.trans (hK.off.below hF4 hB.size)
  clear hK hI hl
  go_wp2
  go_ret
  exact ⟨rfl, hB⟩
end Go.Proofs.Ytkkehbebaokdmaa
