/- What the statements on oracle come to, where it is what the document has: known. -/
import Derived.Test.YtkkehbebaokdmaaOrcSaid
import Derived.Lib.SlBytesConst
namespace Go.Proofs.Ytkkehbebaokdmaa
open Go.RowKit
set_option maxRecDepth 20000

variable {Inv : (Nat → Prop) → World → Value → OSt → Prop}
theorem oseal_at (hO : OrcIs Inv) (F : Nat → Prop) (v : Value) (L : List Iss) (S : List (List Int)) (key : BitVec 64 × BitVec 64) (nn : Nn) {k1 k2 n1 n2 n3 : Int} (hk1 : nv key.1 = k1) (hk2 : nv key.2 = k2) (hn1 : nv32 nn.1 = n1) (hn2 : nv32 nn.2.1 = n2) (hn3 : nv nn.2.2 = n3) (xs ys : List Int) (x y : Option Addr) (nx ny c d : Nat) (hnx : nx ≤ 4000) (hny : ny ≤ 4000) (hL : L.length ≤ 10000) (bx : Bytes xs) (by_ : Bytes ys) (fx : Fit x nx c) (fy : Fit y ny d) (w : World) (hI : Inv F w v (L, S)) (sx : SIn (fun k => ¬ F k) w x nx xs) (sy : SIn (fun k => ¬ F k) w y ny ys) {i : Int} (hi : (L.length : Int) + 1 = i) :
    Calls Try.prog 31 #[v, .agg #[.int .u64 k1, .int .u64 k2], .agg #[.int .u32 n1, .int .u32 n2, .int .u64 n3], .slice x nx c, .slice y ny d] w fun e w' => ∃ z cz F', e = .returned (.tuple #[.agg #[.slice z ny cz, .int .u64 18446744073709551615, .int .u64 i], .bool true]) ∧ Kept Inv F w v F' w' (L ++ [⟨key, nn, xs, ys⟩], S) ∧ SIn (fun k => w.heap.size ≤ k ∧ ¬ F' k) w' z ny (outB (L.length + 1) ny) ∧ Fit z ny cz := by
  subst hk1 hk2 hn1 hn2 hn3 hi
  exact hO.sealIn F v L S key nn xs ys x y nx ny c d hnx hny hL bx by_ fx fy w hI sx sy
theorem oopen_yes (hO : OrcIs Inv) (F : Nat → Prop) (v : Value) (st : OSt) (q : Ask) (i : Nat) {k1 k2 n1 n2 n3 t1 t2 : Int} (hk1 : nv q.key.1 = k1) (hk2 : nv q.key.2 = k2) (hn1 : nv32 q.non.1 = n1) (hn2 : nv32 q.non.2.1 = n2) (hn3 : nv q.non.2.2 = n3) (ht1 : nv q.tag.1 = t1) (ht2 : nv q.tag.2 = t2) {hs bs ds : List Int} (hhs : q.head = hs) (hbs : q.bytes = bs) (hds : (st.1.getD i default).data = ds) {l : Nat} (hl : ds.length = l) (x y : Option Addr) (n m c d : Nat) (hL : st.1.length ≤ 10000) (bx : Bytes hs) (by_ : Bytes bs) (fx : Fit x n c) (fy : Fit y m d) (hit : Hit st.1 q i) (w : World) (hI : Inv F w v st) (sx : SIn (fun k => ¬ F k) w x n hs) (sy : SIn (fun k => ¬ F k) w y m bs) :
    Calls Try.prog 32 #[v, .agg #[.int .u64 k1, .int .u64 k2], .agg #[.int .u32 n1, .int .u32 n2, .int .u64 n3], .slice x n c, .agg #[.slice y m d, .int .u64 t1, .int .u64 t2]] w fun e w' => ∃ z cz F', e = .returned (.tuple #[.slice z l cz, .bool true]) ∧ Kept Inv F w v F' w' st ∧ SIn (fun k => w.heap.size ≤ k ∧ ¬ F' k) w' z l ds := by
  subst hk1 hk2 hn1 hn2 hn3 ht1 ht2 hhs hbs hds hl
  exact hO.openYes F v st q x y n m c d i hL bx by_ fx fy hit w hI sx sy
theorem oopen_no (hO : OrcIs Inv) (F : Nat → Prop) (v : Value) (st : OSt) (q : Ask) {k1 k2 n1 n2 n3 t1 t2 : Int} (hk1 : nv q.key.1 = k1) (hk2 : nv q.key.2 = k2) (hn1 : nv32 q.non.1 = n1) (hn2 : nv32 q.non.2.1 = n2) (hn3 : nv q.non.2.2 = n3) (ht1 : nv q.tag.1 = t1) (ht2 : nv q.tag.2 = t2) {hs bs : List Int} (hhs : q.head = hs) (hbs : q.bytes = bs) (x y : Option Addr) (n m c d : Nat) (hL : st.1.length ≤ 10000) (bx : Bytes hs) (by_ : Bytes bs) (fx : Fit x n c) (fy : Fit y m d) (hit : ∀ i, ¬ Hit st.1 q i) (w : World) (hI : Inv F w v st) (sx : SIn (fun k => ¬ F k) w x n hs) (sy : SIn (fun k => ¬ F k) w y m bs) :
    Calls Try.prog 32 #[v, .agg #[.int .u64 k1, .int .u64 k2], .agg #[.int .u32 n1, .int .u32 n2, .int .u64 n3], .slice x n c, .agg #[.slice y m d, .int .u64 t1, .int .u64 t2]] w fun e w' => ∃ z cz F', e = .returned (.tuple #[.slice z 0 cz, .bool false]) ∧ Kept Inv F w v F' w' st := by
  subst hk1 hk2 hn1 hn2 hn3 ht1 ht2 hhs hbs
  exact hO.openNo F v st q x y n m c d hL bx by_ fx fy hit w hI sx sy
theorem At.lit7 (w : World) (zs : List Int) (fr : Nat × Nat) : At (w.alloc (.cells (zs.map (Value.int .u8)).toArray 5 fr)) w.heap.size 0 zs := by
  intro i hi
  rw [Nat.zero_add, World.cell?_alloc_mark]
  simp [hi]
theorem bytes_none : Bytes [] := fun x hx => by cases hx

end Go.Proofs.Ytkkehbebaokdmaa
