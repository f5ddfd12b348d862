/- LkSaid OrcLaws RegionX RegionG: texts laid together. -/
import Derived.Test.YtkkehbebaokdmaaM05
import Derived.Test.YtkkehbebaokdmaaM09
import Derived.Lib.SlBytesConst
import Derived.Test.YtkkehbebaokdmaaM02
import Derived.Below

/- What the statements ask of the program's lock: by an invariant that its own text gives. -/
namespace Go.Proofs.Ytkkehbebaokdmaa
open Go.RowKit
set_option maxRecDepth 20000

theorem sat_not {w : World} {b : Nat} {x : Option Addr} {n : Nat} {xs : List Int} (hc : ∀ o u, w.cell? ⟨b, o, none⟩ ≠ some (.int .u8 u)) (h : SAt w x n xs) : SIn (fun k => k ≠ b) w x n xs :=
  ⟨h.1, fun hn => by
    obtain ⟨g, o, e, hlt, hat⟩ := h.2 hn
    refine ⟨g, o, e, hlt, fun e' => ?_, hat⟩
    subst e'
    exact hc _ _ (hat 0 (by have := h.1; omega))⟩
theorem SBox.not8 {w : World} {b : Nat} {y : Option Addr} {n c : Nat} {t1 t2 : Int} (h : SBox w b (.slice y n c) t1 t2) (o : Nat) (u : Int) : w.cell? ⟨b, o, none⟩ ≠ some (.int .u8 u) := by
  unfold SBox at h
  match o with
  | 0 | 1 | 2 => simp [World.cell?, h]
  | o + 3 => simp [World.cell?, h]
/-- Which sealer, what it has sealed, what it has summed (a real one remembers nothing). -/
structure LSt where
  ideal : Bool
  iss : List Iss
  sums : List (List Int)
/-- What is sealed: bytes, tag; what is remembered. -/
def LSt.sealB (st : LSt) (key : BitVec 64 × BitVec 64) (nn : Nn) (ys : List Int) : List Int := if st.ideal = true then outB (st.iss.length + 1) ys.length else mixL (subP key nn) ys
def LSt.sealT (st : LSt) (key : BitVec 64 × BitVec 64) (nn : Nn) (xs ys : List Int) : BitVec 64 × BitVec 64 := if st.ideal = true then tagI (st.iss.length + 1) else tagP (subP key nn) xs (mixL (subP key nn) ys)
def LSt.sealS (st : LSt) (e : Iss) : LSt := if st.ideal = true then ⟨st.ideal, st.iss ++ [e], st.sums⟩ else st
/-- What is opened. -/
noncomputable def LSt.opens (st : LSt) (q : Ask) : Option (List Int) :=
  open Classical in
  if st.ideal = true then (if h : ∃ i, Hit st.iss q i then some (st.iss.getD h.choose default).data else none) else (if tagP (subP q.key q.non) q.head q.bytes = q.tag then some (mixL (subP q.key q.non) q.bytes) else none)
/-- A sum. -/
def LSt.sumV (st : LSt) (zs : List Int) : Int × Int := if st.ideal = true then (17216961135462248174, (sumIx st.sums zs : Nat)) else (nv (sumP zs).1, nv (sumP zs).2)
def LSt.sumS (st : LSt) (zs : List Int) : LSt := if st.ideal = true then ⟨st.ideal, st.iss, sumSt st.sums zs⟩ else st
theorem LSt.sealB_length (st : LSt) (key : BitVec 64 × BitVec 64) (nn : Nn) (ys : List Int) : (st.sealB key nn ys).length = ys.length := by
  unfold LSt.sealB
  split
  · exact outB_length _ _
  · exact mixL_length _ _
theorem LSt.sealB_bytes (st : LSt) (key : BitVec 64 × BitVec 64) (nn : Nn) {ys : List Int} (h : Bytes ys) : Bytes (st.sealB key nn ys) := by
  unfold LSt.sealB
  split
  · exact outB_bytes _ _
  · exact mixL_bytes _ h
theorem LSt.opens_hit {st : LSt} {q : Ask} {i : Nat} (hi : st.ideal = true) (hL : st.iss.length ≤ 50000) (h : Hit st.iss q i) : st.opens q = some (st.iss.getD i default).data := by
  have hx : ∃ i, Hit st.iss q i := ⟨i, h⟩
  unfold LSt.opens
  rw [if_pos hi, dif_pos hx, hx.choose_spec.one h (by omega)]
theorem LSt.opens_no {st : LSt} {q : Ask} (hi : st.ideal = true) (h : ∀ i, ¬ Hit st.iss q i) : st.opens q = none := by
  unfold LSt.opens
  rw [if_pos hi, dif_neg (fun ⟨i, hx⟩ => h i hx)]
theorem LSt.opens_real {st : LSt} {q : Ask} (hi : st.ideal = false) (h : tagP (subP q.key q.non) q.head q.bytes = q.tag) : st.opens q = some (mixL (subP q.key q.non) q.bytes) := by
  unfold LSt.opens
  rw [if_neg (by rw [hi]; decide), if_pos h]
theorem LSt.opens_unreal {st : LSt} {q : Ask} (hi : st.ideal = false) (h : tagP (subP q.key q.non) q.head q.bytes ≠ q.tag) : st.opens q = none := by
  unfold LSt.opens
  rw [if_neg (by rw [hi]; decide), if_neg h]
/-- Behind a call on a lock: what it has now, and what has turned. -/
structure KeptL (Inv : (Nat → Prop) → World → Value → LSt → Prop) (F : Nat → Prop) (w : World) (v : Value) (F' : Nat → Prop) (w' : World) (st' : LSt) : Prop where
  inv : Inv F' w' v st'
  sub : ∀ k, F' k → F k ∨ w.heap.size ≤ k
  off : Off F w w'
structure LockIs (Inv : (Nat → Prop) → World → Value → LSt → Prop) : Prop where
  stay : ∀ {F : Nat → Prop} {w w' : World} {v : Value} {st : LSt}, Inv F w v st → w.heap.size ≤ w'.heap.size → (∀ k, F k → w'.heap[k]? = w.heap[k]?) → Inv F w' v st
  lt : ∀ {F : Nat → Prop} {w : World} {v : Value} {st : LSt}, Inv F w v st → ∀ k, F k → k < w.heap.size
  ptr : ∀ {F : Nat → Prop} {w : World} {v : Value} {st : LSt}, Inv F w v st → ∃ a, v = .pointer (some a)
  none_ : ∀ {F : Nat → Prop} {w : World} {v : Value} {st : LSt}, Inv F w v st → st.ideal = false → st.iss = [] ∧ st.sums = []
  plain : ∀ {F : Nat → Prop} {w : World} {v : Value} {st : LSt}, Inv F w v st → st.ideal = false → ∀ {x : Option Addr} {n : Nat} {xs : List Int}, SAt w x n xs → SIn (fun k => ¬ F k) w x n xs
  real : ∀ w : World, Calls Try.prog 23 #[] w fun e w' => ∃ v F, e = .returned v ∧ Inv F w' v ⟨false, [], []⟩ ∧ (∀ k, F k → w.heap.size ≤ k) ∧ Below w.heap.size w w'
  ideal : ∀ w : World, Calls Try.prog 22 #[] w fun e w' => ∃ v F, e = .returned v ∧ Inv F w' v ⟨true, [], []⟩ ∧ (∀ k, F k → w.heap.size ≤ k) ∧ Below w.heap.size w w'
  seal_ : ∀ (F : Nat → Prop) (v : Value) (st : LSt) (key : BitVec 64 × BitVec 64) (nn : Nn) (xs ys : List Int) (x y : Option Addr) (nx ny c d : Nat), nx ≤ 4000 → ny ≤ 4000 → st.iss.length ≤ 10000 → Bytes xs → Bytes ys → Fit x nx c → Fit y ny d → ∀ w : World, Inv F w v st → SIn (fun k => ¬ F k) w x nx xs → SIn (fun k => ¬ F k) w y ny ys →
    Calls Try.prog 10 #[v, kv key, nvv nn, .slice x nx c, .slice y ny d] w fun e w' => ∃ z cz F', e = .returned (.tuple #[.agg #[.slice z ny cz, .int .u64 (nv (st.sealT key nn xs ys).1), .int .u64 (nv (st.sealT key nn xs ys).2)], .bool true]) ∧ KeptL Inv F w v F' w' (st.sealS ⟨key, nn, xs, ys⟩) ∧ SIn (fun k => ¬ F' k ∧ (st.ideal = true → w.heap.size ≤ k)) w' z ny (st.sealB key nn ys) ∧ Fit z ny cz
  open_ : ∀ (F : Nat → Prop) (v : Value) (st : LSt) (q : Ask) (x y : Option Addr) (n m c d : Nat), n ≤ 4000 → m ≤ 4000 → st.iss.length ≤ 10000 → Bytes q.head → Bytes q.bytes → Fit x n c → Fit y m d → ∀ w : World, Inv F w v st → SIn (fun k => ¬ F k) w x n q.head → SIn (fun k => ¬ F k) w y m q.bytes →
    Calls Try.prog 13 #[v, kv q.key, nvv q.non, .slice x n c, .agg #[.slice y m d, .int .u64 (nv q.tag.1), .int .u64 (nv q.tag.2)]] w fun e w' => ∃ z cz F', e = .returned (.tuple #[.slice z ((st.opens q).getD []).length cz, .bool (st.opens q).isSome]) ∧ KeptL Inv F w v F' w' st ∧ SIn (fun k => ¬ F' k) w' z ((st.opens q).getD []).length ((st.opens q).getD [])
  sum : ∀ (F : Nat → Prop) (v : Value) (st : LSt) (P : List (List Int)) (x : Option Addr) (m c : Nat), m ≤ 1000 → P.flatten.length ≤ 50000 → st.sums.length ≤ 10000 → Fit x m c → ∀ w : World, Inv F w v st → LIn (fun k => ¬ F k) w x m P →
    Calls Try.prog 15 #[v, .slice x m c] w fun e w' => ∃ F', e = .returned (.agg #[.int .u64 (st.sumV P.flatten).1, .int .u64 (st.sumV P.flatten).2]) ∧ KeptL Inv F w v F' w' (st.sumS P.flatten)
  issued : ∀ (F : Nat → Prop) (v : Value) (st : LSt), st.iss.length ≤ 10000 → ∀ w : World, Inv F w v st →
    Calls Try.prog 18 #[v] w fun e w' => ∃ z cz F', e = .returned (.slice z st.iss.length cz) ∧ KeptL Inv F w v F' w' st ∧ IRd w' z st.iss.length st.iss
  twice : ∀ (F : Nat → Prop) (v : Value) (st : LSt) (t : Bool), st.iss.length ≤ 10000 → (t = true ↔ Two st.iss) → ∀ w : World, Inv F w v st →
    Calls Try.prog 21 #[v] w fun e w' => ∃ F', e = .returned (.bool t) ∧ KeptL Inv F w v F' w' st
  sealNil : ∀ (key : BitVec 64 × BitVec 64) (nn : Nn) (x y : Option Addr) (nx ny c d : Nat) (w : World), Calls Try.prog 10 #[.pointer none, kv key, nvv nn, .slice x nx c, .slice y ny d] w fun e w' => (∃ z cz t1 t2, e = .returned (.tuple #[.agg #[.slice z 0 cz, .int .u64 t1, .int .u64 t2], .bool false])) ∧ Below w.heap.size w w'
  openNil : ∀ (key : BitVec 64 × BitVec 64) (nn : Nn) (x y : Option Addr) (nx ny c d : Nat) (t1 t2 : Int) (w : World), Calls Try.prog 13 #[.pointer none, kv key, nvv nn, .slice x nx c, .agg #[.slice y ny d, .int .u64 t1, .int .u64 t2]] w fun e w' => (∃ z cz, e = .returned (.tuple #[.slice z 0 cz, .bool false])) ∧ Below w.heap.size w w'
  sumNil : ∀ (x : Option Addr) (m c : Nat) (w : World), Calls Try.prog 15 #[.pointer none, .slice x m c] w fun e w' => e = .returned (.agg #[.int .u64 0, .int .u64 0]) ∧ Below w.heap.size w w'
  issuedNil : ∀ w : World, Calls Try.prog 18 #[.pointer none] w fun e w' => (∃ z cz, e = .returned (.slice z 0 cz)) ∧ Below w.heap.size w w'
  twiceNil : ∀ w : World, Calls Try.prog 21 #[.pointer none] w fun e w' => e = .returned (.bool false) ∧ Below w.heap.size w w'
theorem LockIs.keep {Inv : (Nat → Prop) → World → Value → LSt → Prop} (h : LockIs Inv) {F G : Nat → Prop} {w w' : World} {v : Value} {st : LSt} (hI : Inv F w v st) (hb : Off G w w') (hd : ∀ k, F k → ¬ G k) : Inv F w' v st :=
  h.stay hI hb.size (fun k hk => hb.block k (h.lt hI k hk) (hd k hk))
theorem LockIs.below {Inv : (Nat → Prop) → World → Value → LSt → Prop} (h : LockIs Inv) {F : Nat → Prop} {w w' : World} {v : Value} {st : LSt} (hI : Inv F w v st) (hb : Below w.heap.size w w') : Inv F w' v st :=
  h.keep hI (Off.of_below (F := fun _ => False) hb) (fun _ _ h => h)
theorem KeptL.sin {Inv : (Nat → Prop) → World → Value → LSt → Prop} {F F' : Nat → Prop} {w w' : World} {v : Value} {st' : LSt} (h : KeptL Inv F w v F' w' st') {x : Option Addr} {n : Nat} {xs : List Int} (hs : SIn (fun k => ¬ F k) w x n xs) : SIn (fun k => ¬ F' k) w' x n xs :=
  ((hs.mono (G' := fun k => ¬ F k ∧ k < w.heap.size) (fun k hk h => ⟨h, hk⟩)).off h.off (fun _ _ h => h.1)).mono (fun k _ hk hf => (h.sub k hf).elim hk.1 (fun e => by omega))
end Go.Proofs.Ytkkehbebaokdmaa


/- What the statements on oracle come to, where it is what the document has: known. -/
namespace Go.Proofs.Ytkkehbebaokdmaa
open Go.RowKit
set_option maxRecDepth 20000

variable {Inv : (Nat → Prop) → World → Value → OSt → Prop}
theorem oseal_at (hO : OrcIs Inv) (F : Nat → Prop) (v : Value) (L : List Iss) (S : List (List Int)) (key : BitVec 64 × BitVec 64) (nn : Nn) {k1 k2 n1 n2 n3 : Int} (hk1 : nv key.1 = k1) (hk2 : nv key.2 = k2) (hn1 : nv32 nn.1 = n1) (hn2 : nv32 nn.2.1 = n2) (hn3 : nv nn.2.2 = n3) (xs ys : List Int) (x y : Option Addr) (nx ny c d : Nat) (hnx : nx ≤ 4000) (hny : ny ≤ 4000) (hL : L.length ≤ 10000) (bx : Bytes xs) (by_ : Bytes ys) (fx : Fit x nx c) (fy : Fit y ny d) (w : World) (hI : Inv F w v (L, S)) (sx : SIn (fun k => ¬ F k) w x nx xs) (sy : SIn (fun k => ¬ F k) w y ny ys) {i : Int} (hi : (L.length : Int) + 1 = i) :
    Calls Try.prog 31 #[v, .agg #[.int .u64 k1, .int .u64 k2], .agg #[.int .u32 n1, .int .u32 n2, .int .u64 n3], .slice x nx c, .slice y ny d] w fun e w' => ∃ z cz F', e = .returned (.tuple #[.agg #[.slice z ny cz, .int .u64 18446744073709551615, .int .u64 i], .bool true]) ∧ Kept Inv F w v F' w' (L ++ [⟨key, nn, xs, ys⟩], S) ∧ SIn (fun k => w.heap.size ≤ k ∧ ¬ F' k) w' z ny (outB (L.length + 1) ny) ∧ Fit z ny cz := by
  subst hk1 hk2 hn1 hn2 hn3 hi
  exact hO.sealIn F v L S key nn xs ys x y nx ny c d hnx hny hL bx by_ fx fy w hI sx sy
theorem oopen_yes (hO : OrcIs Inv) (F : Nat → Prop) (v : Value) (st : OSt) (q : Ask) (i : Nat) {k1 k2 n1 n2 n3 t1 t2 : Int} (hk1 : nv q.key.1 = k1) (hk2 : nv q.key.2 = k2) (hn1 : nv32 q.non.1 = n1) (hn2 : nv32 q.non.2.1 = n2) (hn3 : nv q.non.2.2 = n3) (ht1 : nv q.tag.1 = t1) (ht2 : nv q.tag.2 = t2) {hs bs ds : List Int} (hhs : q.head = hs) (hbs : q.bytes = bs) (hds : (st.1.getD i default).data = ds) {l : Nat} (hl : ds.length = l) (x y : Option Addr) (n m c d : Nat) (hL : st.1.length ≤ 10000) (bx : Bytes hs) (by_ : Bytes bs) (fx : Fit x n c) (fy : Fit y m d) (hit : Hit st.1 q i) (w : World) (hI : Inv F w v st) (sx : SIn (fun k => ¬ F k) w x n hs) (sy : SIn (fun k => ¬ F k) w y m bs) :
    Calls Try.prog 32 #[v, .agg #[.int .u64 k1, .int .u64 k2], .agg #[.int .u32 n1, .int .u32 n2, .int .u64 n3], .slice x n c, .agg #[.slice y m d, .int .u64 t1, .int .u64 t2]] w fun e w' => ∃ z cz F', e = .returned (.tuple #[.slice z l cz, .bool true]) ∧ Kept Inv F w v F' w' st ∧ SIn (fun k => w.heap.size ≤ k ∧ ¬ F' k) w' z l ds := by
  subst hk1 hk2 hn1 hn2 hn3 ht1 ht2 hhs hbs hds hl
  exact hO.openYes F v st q x y n m c d i hL bx by_ fx fy hit w hI sx sy
theorem oopen_no (hO : OrcIs Inv) (F : Nat → Prop) (v : Value) (st : OSt) (q : Ask) {k1 k2 n1 n2 n3 t1 t2 : Int} (hk1 : nv q.key.1 = k1) (hk2 : nv q.key.2 = k2) (hn1 : nv32 q.non.1 = n1) (hn2 : nv32 q.non.2.1 = n2) (hn3 : nv q.non.2.2 = n3) (ht1 : nv q.tag.1 = t1) (ht2 : nv q.tag.2 = t2) {hs bs : List Int} (hhs : q.head = hs) (hbs : q.bytes = bs) (x y : Option Addr) (n m c d : Nat) (hL : st.1.length ≤ 10000) (bx : Bytes hs) (by_ : Bytes bs) (fx : Fit x n c) (fy : Fit y m d) (hit : ∀ i, ¬ Hit st.1 q i) (w : World) (hI : Inv F w v st) (sx : SIn (fun k => ¬ F k) w x n hs) (sy : SIn (fun k => ¬ F k) w y m bs) :
    Calls Try.prog 32 #[v, .agg #[.int .u64 k1, .int .u64 k2], .agg #[.int .u32 n1, .int .u32 n2, .int .u64 n3], .slice x n c, .agg #[.slice y m d, .int .u64 t1, .int .u64 t2]] w fun e w' => ∃ z cz F', e = .returned (.tuple #[.slice z 0 cz, .bool false]) ∧ Kept Inv F w v F' w' st := by
  subst hk1 hk2 hn1 hn2 hn3 ht1 ht2 hhs hbs
  exact hO.openNo F v st q x y n m c d hL bx by_ fx fy hit w hI sx sy
theorem At.lit7 (w : World) (zs : List Int) (fr : Nat × Nat) : At (w.alloc (.cells (zs.map (Value.int .u8)).toArray 5 fr)) w.heap.size 0 zs := by
  intro i hi
  rw [Nat.zero_add, World.cell?_alloc_mark]
  simp [hi]
theorem bytes_none : Bytes [] := fun x hx => by cases hx

end Go.Proofs.Ytkkehbebaokdmaa


/- A statement whose order Go leaves open and whose last operation, a store, waits for all others: what is asked of every world ahead of it need not hold behind it. -/
namespace Go.Proofs.Ytkkehbebaokdmaa
open Go.RowKit
set_option maxRecDepth 20000
section
variable {P : Program} {ops : Array Oper} {Q : Exit → Act → World → Prop} {md : Region.Mode} {S S' : World → Prop} {last : Nat}

/-- Whatever order is picked from here on; S holds behind each operation but the last one. -/
def wpAnyX (P : Program) (md : Region.Mode) (ops : Array Oper) (Q : Exit → Act → World → Prop) (S : World → Prop) (last : Nat) : Nat → Array Bool → Act → World → Prop
  | 0, listed, a, w => Region.ready md ops listed = [] ∧ Q .normal a w
  | fuel + 1, listed, a, w => (Region.ready md ops listed = [] → Q .normal a w) ∧
    ∀ i ∈ Region.ready md ops listed, wpOp P ops Q i (fun a' w' => (i ≠ last → S w') ∧ wpAnyX P md ops Q S last fuel (listed.setIfInBounds i true) a' w') a w
theorem wpAny_of_X : ∀ (fuel : Nat) (listed : Array Bool) (a : Act) (w : World), wpAnyX P md ops Q S last fuel listed a w → wpAny P md ops Q fuel listed a w
  | 0, _, _, _, h => h
  | fuel + 1, _, _, _, h => ⟨h.1, fun i hi => wpOp_mono (fun a' w' h' => wpAny_of_X fuel _ a' w' h'.2) (h.2 i hi)⟩
theorem heldX_more (hS : ∀ w, S' w → S w) : ∀ (fuel : Nat) (listed : Array Bool) (a : Act) (w : World), wpAnyX P md ops Q S' last fuel listed a w → wpAnyX P md ops Q S last fuel listed a w
  | 0, _, _, _, h => h
  | fuel + 1, _, _, _, h => ⟨h.1, fun i hi => wpOp_mono (fun a' w' h' => ⟨fun hl => hS _ (h'.1 hl), heldX_more hS fuel _ a' w' h'.2⟩) (h.2 i hi)⟩
/-- The last operation waits for number i. -/
def lastWaits (md : Region.Mode) (ops : Array Oper) (last i : Nat) : Bool := match ops[last]? with
  | some o => o.after.any fun e => Region.binds md e && e.on == i
  | none => false
theorem firstX {i : Nat} {oi : Oper} {v : Value} (hi : ops[i]? = some oi) (hsel : ∀ (j : Nat) (o : Oper) cs b, ops[j]? = some o → o.op ≠ .select cs b)
    (hQ : ∀ c a w, Q (.panic c) (a.put oi.dst v) w → Q (.panic c) a w) (hlast : lastWaits md ops last i = true) (hil : i ≠ last) :
    ∀ (fuel : Nat) (listed : Array Bool) (a : Act) (w : World),
      (∀ j oj, ops[j]? = some oj → j ≠ i → listed.getD j true = false → (∀ e ∈ oj.after, Region.binds md e = true → e.on ≠ i) → oi.apart ops oj = true) →
      i ∈ Region.ready md ops listed → YieldsIf P ops S oi v a → S w →
      wpAnyX P md ops Q S last fuel (listed.setIfInBounds i true) (a.put oi.dst v) w → wpAnyX P md ops Q S last (fuel + 1) listed a w := by
  intro fuel
  induction fuel with
  | zero =>
    intro listed a w _ hr hy hS H
    refine ⟨fun h => (by rw [h] at hr; cases hr), fun j hj => ?_⟩
    by_cases hji : j = i
    · subst hji
      exact hy.wpOp hi hS ⟨fun _ => hS, H⟩
    · have := ready_mono hj hji
      rw [H.1] at this
      cases this
  | succ fuel ih =>
    intro listed a w hfree hr hy hS H
    refine ⟨fun h => (by rw [h] at hr; cases hr), fun j hj => ?_⟩
    by_cases hji : j = i
    · subst hji
      exact hy.wpOp hi hS ⟨fun _ => hS, H⟩
    · have h1 := H.2 j (ready_mono hj hji)
      obtain ⟨hjun, oj, hoj, hall⟩ := mem_ready.1 hj
      have hnot : ∀ e ∈ oj.after, Region.binds md e = true → e.on ≠ i := fun e he hb heq => by
        have h1 := hall e he hb
        have h0 := (mem_ready.1 hr).1
        rw [heq] at h1
        rcases Nat.lt_or_ge i listed.size with h' | h'
        · simp [h'] at h0 h1
          rw [h0] at h1
          cases h1
        · simp [Array.getElem?_eq_none h'] at h1
      have hjl : j ≠ last := fun e => by
        subst e
        simp only [lastWaits, hoj, Array.any_eq_true] at hlast
        obtain ⟨n, hn, hb⟩ := hlast
        rw [Bool.and_eq_true, beq_iff_eq] at hb
        exact hnot _ (Array.getElem_mem hn) hb.1 hb.2
      have h2 := wpOp_putIf hoj (hfree j oj hoj hji hjun hnot) (fun cs b => hsel i oi cs b hi) (fun cs b => hsel j oj cs b hoj) hQ hy h1
      have hfree' : ∀ k ok, ops[k]? = some ok → k ≠ i → (listed.setIfInBounds j true).getD k true = false →
          (∀ e ∈ ok.after, Region.binds md e = true → e.on ≠ i) → oi.apart ops ok = true := fun k ok hk hki hun hno => by
        refine hfree k ok hk hki ?_ hno
        by_cases hjk : j = k
        · subst hjk
          exact hjun
        · rw [getD_set_ne true hjk] at hun
          exact hun
      refine wpOp_mono (fun a' w' h3 => ⟨h3.2.1, ih (listed.setIfInBounds j true) a' w' hfree' (ready_mono hr (Ne.symm hji)) h3.1 (h3.2.1 hjl) ?_⟩) h2
      rw [Array.setIfInBounds_comm _ _ hji]
      exact h3.2.2
theorem doneX {listed : Array Bool} {a : Act} {w : World} (hr : Region.ready md ops listed = []) (h : Q .normal a w) : ∀ fuel, wpAnyX P md ops Q S last fuel listed a w
  | 0 => ⟨hr, h⟩
  | _ + 1 => ⟨fun _ => h, by rw [hr]; simp⟩
theorem startX (last : Nat) {id : Nat} {a : Act} {w : World} (hm : P.follows .mixedOrders = true) (hS : S w.drew) (h : S w.drew → wpAnyX P .any ops Q S last ops.size (Array.replicate ops.size false) a w.drew) : (Code.region id ops true).wp P Q a w :=
  wp_region_any hm (wpAny_of_X _ _ _ _ (h hS))

variable {fuel : Nat} {listed : Array Bool} {t : List Value} {d : List Deferred} {w : World}
theorem takeX (i k : Nat) {oi : Oper} {v : Value} (hi : ops[i]? = some oi) (hd : oi.dst = some k)
    (hs : Region.noSelect ops = true) (hf : Region.free md ops listed i = true) (hr : (Region.ready md ops listed).contains i = true)
    (hQ : ∀ c a w, Q (.panic c) (a.put oi.dst v) w → Q (.panic c) a w) (hw : Region.wanted oi (yielded ops t.toArray) = true) (hlast : lastWaits md ops last i = true) (hil : i ≠ last) (hS : S w)
    (hy : ∀ w, S w → (execOp (Act.eval ⟨t.toArray, d⟩) oi).run P w = .ok (.value v) w)
    (h : wpAnyX P md ops Q S last fuel (listed.setIfInBounds i true) ⟨(t.set k v).toArray, d⟩ w) : wpAnyX P md ops Q S last (fuel + 1) listed ⟨t.toArray, d⟩ w := by
  refine firstX hi (Region.noSelect_spec hs) hQ hlast hil fuel listed _ w (Region.free_spec hi hf) (by simpa using hr) (Or.inl ⟨hw, hy⟩) hS ?_
  have e : Act.put ⟨t.toArray, d⟩ oi.dst v = ⟨(t.set k v).toArray, d⟩ := by simp [hd, Act.put]
  rw [e]
  exact h
theorem moveX (i k x : Nat) {oi : Oper} {v : Value} (hi : ops[i]? = some oi) (hd : oi.dst = some k) (ho : oi.op = .move (.tmp x))
    (hs : Region.noSelect ops = true) (hf : Region.free md ops listed i = true) (hr : (Region.ready md ops listed).contains i = true)
    (hQ : ∀ c a w, Q (.panic c) (a.put oi.dst v) w → Q (.panic c) a w) (hw : Region.wanted oi (yielded ops t.toArray) = true) (hlast : lastWaits md ops last i = true) (hil : i ≠ last) (hS : S w)
    (hv : t[x]? = some v)
    (h : wpAnyX P md ops Q S last fuel (listed.setIfInBounds i true) ⟨(t.set k v).toArray, d⟩ w) : wpAnyX P md ops Q S last (fuel + 1) listed ⟨t.toArray, d⟩ w :=
  takeX i k hi hd hs hf hr hQ hw hlast hil hS (fun w _ => by rw [BigFrame.run_move _ ho w, eval_slot hv]) h
/-- The one operation that may come up now. -/
theorem onlyX (i : Nat) {oi : Oper} (hi : ops[i]? = some oi) (hr : Region.ready md ops listed = [i]) (hw : Region.wanted oi (yielded ops t.toArray) = true)
    (h : ∀ K : Act → World → Prop, Shut (∀ a w, (i ≠ last → S w) → ((i ≠ last → S w) → wpAnyX P md ops Q S last fuel (listed.setIfInBounds i true) a w) → K a w) → Oper.wp P oi ⟨t.toArray, d⟩ w K Q) :
    wpAnyX P md ops Q S last (fuel + 1) listed ⟨t.toArray, d⟩ w := by
  refine ⟨fun h0 => (by rw [hr] at h0; cases h0), fun j hj => ?_⟩
  rw [hr] at hj
  obtain rfl : j = i := by simpa using hj
  unfold wpOp
  simp only [hi, hw, if_true]
  exact Or.inl (h _ (fun a w hS hn => ⟨hS, hn hS⟩))
end
end Go.Proofs.Ytkkehbebaokdmaa


/- Two chains of two operations each that make memory, in whatever order: what a struct literal with two copies of slices comes to. -/
namespace Go.Proofs.Ytkkehbebaokdmaa
open Go.RowKit
set_option maxRecDepth 20000
section
variable {P : Program} {ops : Array Oper} {Q : Exit → Act → World → Prop} {md : Region.Mode} {S : World → Prop} {last : Nat}
variable {fuel : Nat} {listed : Array Bool} {d : List Deferred}

theorem opX (i : Nat) {oi : Oper} {a : Act} {w : World} {K : Act → World → Prop} (hi : ops[i]? = some oi) (hg : oi.guard = none) (h : Oper.wp P oi a w K Q) : wpOp P ops Q i K a w := by
  have hw : Region.wanted oi (yielded ops a.tmps) = true := by simp [Region.wanted, hg]
  unfold wpOp
  simp only [hi, hw, if_true]
  exact Or.inl h
theorem oneX {a : Act} {w : World} (i : Nat) {oi : Oper} (hi : ops[i]? = some oi) (hg : oi.guard = none) (hr : Region.ready md ops listed = [i])
    (h : Oper.wp P oi a w (fun a' w' => (i ≠ last → S w') ∧ wpAnyX P md ops Q S last fuel (listed.setIfInBounds i true) a' w') Q) : wpAnyX P md ops Q S last (fuel + 1) listed a w := by
  refine ⟨fun h0 => (by rw [hr] at h0; cases h0), fun j hj => ?_⟩
  rw [hr] at hj
  obtain rfl : j = i := by simpa using hj
  exact opX j hi hg h
theorem twoX {a : Act} {w : World} (i j : Nat) {oi oj : Oper} (hi : ops[i]? = some oi) (hgi : oi.guard = none) (hj : ops[j]? = some oj) (hgj : oj.guard = none) (hr : Region.ready md ops listed = [i, j])
    (h1 : Oper.wp P oi a w (fun a' w' => (i ≠ last → S w') ∧ wpAnyX P md ops Q S last fuel (listed.setIfInBounds i true) a' w') Q)
    (h2 : Oper.wp P oj a w (fun a' w' => (j ≠ last → S w') ∧ wpAnyX P md ops Q S last fuel (listed.setIfInBounds j true) a' w') Q) : wpAnyX P md ops Q S last (fuel + 1) listed a w := by
  refine ⟨fun h0 => (by rw [hr] at h0; cases h0), fun k hk => ?_⟩
  rw [hr] at hk
  simp only [List.mem_cons, List.not_mem_nil, or_false] at hk
  rcases hk with rfl | rfl
  · exact opX k hi hgi h1
  · exact opX k hj hgj h2

/-- An operation that makes memory: whatever world meets I, it answers a value of which A holds, and all that was there stays. -/
def Makes (P : Program) (Q : Exit → Act → World → Prop) (o : Oper) (k : Nat) (d : List Deferred) (I : List Value → World → Prop) (A : Value → World → Prop) : Prop :=
  ∀ (t : List Value) (w : World) (K : Act → World → Prop), I t w → (∀ v w', Below w.heap.size w w' → A v w' → K ⟨(t.set k v).toArray, d⟩ w') → Oper.wp P o ⟨t.toArray, d⟩ w K Q
/-- But for these four slots t' is t. -/
def But (t t' : List Value) (a b c e : Nat) : Prop := t'.length = t.length ∧ ∀ s, s ≠ a → s ≠ b → s ≠ c → s ≠ e → t'[s]? = t[s]?

/-- Two copies, one behind the other: a1, a2 (which takes what a1 made), b1, b2 (which takes what b1 made, and waits for a2). -/
theorem gridC {t : List Value} {w0 : World} (i1 i2 j1 j2 k1 k2 l1 l2 : Nat) {a1 a2 b1 b2 : Oper}
    (ha1 : ops[i1]? = some a1) (ha2 : ops[i2]? = some a2) (hb1 : ops[j1]? = some b1) (hb2 : ops[j2]? = some b2) (ga1 : a1.guard = none) (ga2 : a2.guard = none) (gb1 : b1.guard = none) (gb2 : b2.guard = none)
    (r00 : Region.ready md ops listed = [i1, j1]) (r10 : Region.ready md ops (listed.setIfInBounds i1 true) = [i2, j1]) (r01 : Region.ready md ops (listed.setIfInBounds j1 true) = [i1])
    (r20 : Region.ready md ops ((listed.setIfInBounds i1 true).setIfInBounds i2 true) = [j1]) (r11 : Region.ready md ops ((listed.setIfInBounds i1 true).setIfInBounds j1 true) = [i2])
    (r21 : Region.ready md ops (((listed.setIfInBounds i1 true).setIfInBounds i2 true).setIfInBounds j1 true) = [j2])
    (hik : k1 ≠ k2 ∧ k1 ≠ l1 ∧ k1 ≠ l2 ∧ k2 ≠ l1 ∧ k2 ≠ l2 ∧ l1 ≠ l2) (hij : i1 ≠ i2 ∧ i1 ≠ j1 ∧ i2 ≠ j1) (hlen : k1 < t.length ∧ l1 < t.length)
    (A1 A2 B1 B2 : Value → World → Prop) (sA1 : ∀ v w w', A1 v w → Below w.heap.size w w' → A1 v w') (sA2 : ∀ v w w', A2 v w → Below w.heap.size w w' → A2 v w') (sB1 : ∀ v w w', B1 v w → Below w.heap.size w w' → B1 v w')
    (hS : ∀ w, Below w0.heap.size w0 w → S w)
    (mA1 : Makes P Q a1 k1 d (fun t' w => But t t' k1 k2 l1 l2 ∧ Below w0.heap.size w0 w) A1)
    (mA2 : Makes P Q a2 k2 d (fun t' w => But t t' k1 k2 l1 l2 ∧ Below w0.heap.size w0 w ∧ ∃ v, t'[k1]? = some v ∧ A1 v w) A2)
    (mB1 : Makes P Q b1 l1 d (fun t' w => But t t' k1 k2 l1 l2 ∧ Below w0.heap.size w0 w) B1)
    (mB2 : Makes P Q b2 l2 d (fun t' w => But t t' k1 k2 l1 l2 ∧ Below w0.heap.size w0 w ∧ ∃ v, t'[l1]? = some v ∧ B1 v w) B2)
    (fin : ∀ v1 v2 u1 u2 w, Below w0.heap.size w0 w → A2 v2 w → B2 u2 w → wpAnyX P md ops Q S last fuel ((((listed.setIfInBounds i1 true).setIfInBounds i2 true).setIfInBounds j1 true).setIfInBounds j2 true) ⟨((((t.set k1 v1).set k2 v2).set l1 u1).set l2 u2).toArray, d⟩ w) :
    wpAnyX P md ops Q S last (fuel + 1 + 1 + 1 + 1) listed ⟨t.toArray, d⟩ w0 := by
  obtain ⟨n12, n13, n14, n23, n24, n34⟩ := hik
  obtain ⟨m12, m13, m23⟩ := hij
  obtain ⟨q1, q3⟩ := hlen
  have but0 : But t t k1 k2 l1 l2 := ⟨rfl, fun _ _ _ _ _ => rfl⟩
  have butS : ∀ {t' : List Value} (k : Nat) (v : Value), But t t' k1 k2 l1 l2 → k = k1 ∨ k = k2 ∨ k = l1 ∨ k = l2 → But t (t'.set k v) k1 k2 l1 l2 := fun {t'} k v h hk => ⟨by rw [List.length_set]; exact h.1, fun s h1 h2 h3 h4 => by
    rw [List.getElem?_set_ne (by rcases hk with rfl | rfl | rfl | rfl <;> exact fun e => (by first | exact h1 e.symm | exact h2 e.symm | exact h3 e.symm | exact h4 e.symm))]
    exact h.2 s h1 h2 h3 h4⟩
  have getS : ∀ {t' : List Value} (k : Nat) (v : Value), t'.length = t.length → k < t.length → (t'.set k v)[k]? = some v := fun {t'} k v h hk => by
    rw [List.getElem?_set_self (by omega)]
  have getO : ∀ {t' : List Value} (k s : Nat) (v u : Value), k ≠ s → t'[s]? = some u → (t'.set k v)[s]? = some u := fun {t'} k s v u h hs => by
    rw [List.getElem?_set_ne h]
    exact hs
  have b0 := Below.refl w0.heap.size w0
  refine twoX i1 j1 ha1 ga1 hb1 gb1 r00 (mA1 t w0 _ ⟨but0, b0⟩ fun v1 w1 h1 p1 => ?_) (mB1 t w0 _ ⟨but0, b0⟩ fun u1 w1 h1 p1 => ?_)
  · have c1 := b0.trans h1
    have e1 := butS k1 v1 but0 (Or.inl rfl)
    refine ⟨fun _ => hS _ c1, twoX i2 j1 ha2 ga2 hb1 gb1 r10 (mA2 _ w1 _ ⟨e1, c1, v1, getS k1 v1 rfl q1, p1⟩ fun v2 w2 h2 p2 => ?_) (mB1 _ w1 _ ⟨e1, c1⟩ fun u1 w2 h2 p2 => ?_)⟩
    · have c2 := c1.trans (h2.mono c1.size)
      have e2 := butS k2 v2 e1 (Or.inr (Or.inl rfl))
      refine ⟨fun _ => hS _ c2, oneX j1 hb1 gb1 r20 (mB1 _ w2 _ ⟨e2, c2⟩ fun u1 w3 h3 p3 => ?_)⟩
      have c3 := c2.trans (h3.mono c2.size)
      have e3 := butS l1 u1 e2 (Or.inr (Or.inr (Or.inl rfl)))
      refine ⟨fun _ => hS _ c3, oneX j2 hb2 gb2 r21 (mB2 _ w3 _ ⟨e3, c3, u1, getS l1 u1 e2.1 q3, p3⟩ fun u2 w4 h4 p4 => ?_)⟩
      have c4 := c3.trans (h4.mono c3.size)
      exact ⟨fun _ => hS _ c4, fin v1 v2 u1 u2 w4 c4 (sA2 _ _ _ (sA2 _ _ _ p2 h3) h4) p4⟩
    · have c2 := c1.trans (h2.mono c1.size)
      have e2 := butS l1 u1 e1 (Or.inr (Or.inr (Or.inl rfl)))
      have g1 := getO l1 k1 u1 v1 (Ne.symm n13) (getS k1 v1 rfl q1)
      refine ⟨fun _ => hS _ c2, oneX i2 ha2 ga2 r11 (mA2 _ w2 _ ⟨e2, c2, v1, g1, sA1 _ _ _ p1 h2⟩ fun v2 w3 h3 p3 => ?_)⟩
      have c3 := c2.trans (h3.mono c2.size)
      have e3 := butS k2 v2 e2 (Or.inr (Or.inl rfl))
      have r : Region.ready md ops (((listed.setIfInBounds i1 true).setIfInBounds j1 true).setIfInBounds i2 true) = [j2] := by rw [Array.setIfInBounds_comm (i := j1) (j := i2) _ _ (Ne.symm m23)]; exact r21
      refine ⟨fun _ => hS _ c3, oneX j2 hb2 gb2 r (mB2 _ w3 _ ⟨e3, c3, u1, getO k2 l1 v2 u1 n23 (getS l1 u1 e1.1 q3), sB1 _ _ _ p2 h3⟩ fun u2 w4 h4 p4 => ?_)⟩
      have c4 := c3.trans (h4.mono c3.size)
      refine ⟨fun _ => hS _ c4, ?_⟩
      rw [Array.setIfInBounds_comm (i := j1) (j := i2) _ _ (Ne.symm m23), List.set_comm (i := l1) (j := k2) _ _ (Ne.symm n23)]
      exact fin v1 v2 u1 u2 w4 c4 (sA2 _ _ _ p3 h4) p4
  · have c1 := b0.trans h1
    have e1 := butS l1 u1 but0 (Or.inr (Or.inr (Or.inl rfl)))
    refine ⟨fun _ => hS _ c1, oneX i1 ha1 ga1 r01 (mA1 _ w1 _ ⟨e1, c1⟩ fun v1 w2 h2 p2 => ?_)⟩
    have c2 := c1.trans (h2.mono c1.size)
    have e2 := butS k1 v1 e1 (Or.inl rfl)
    have g1 := getO k1 l1 v1 u1 n13 (getS l1 u1 rfl q3)
    have r : Region.ready md ops ((listed.setIfInBounds j1 true).setIfInBounds i1 true) = [i2] := by rw [Array.setIfInBounds_comm (i := j1) (j := i1) _ _ (Ne.symm m13)]; exact r11
    refine ⟨fun _ => hS _ c2, oneX i2 ha2 ga2 r (mA2 _ w2 _ ⟨e2, c2, v1, getS k1 v1 e1.1 q1, p2⟩ fun v2 w3 h3 p3 => ?_)⟩
    have c3 := c2.trans (h3.mono c2.size)
    have e3 := butS k2 v2 e2 (Or.inr (Or.inl rfl))
    have r : Region.ready md ops (((listed.setIfInBounds j1 true).setIfInBounds i1 true).setIfInBounds i2 true) = [j2] := by rw [Array.setIfInBounds_comm (i := j1) (j := i1) _ _ (Ne.symm m13), Array.setIfInBounds_comm (i := j1) (j := i2) _ _ (Ne.symm m23)]; exact r21
    refine ⟨fun _ => hS _ c3, oneX j2 hb2 gb2 r (mB2 _ w3 _ ⟨e3, c3, u1, getO k2 l1 v2 u1 n23 g1, sB1 _ _ _ (sB1 _ _ _ p1 h2) h3⟩ fun u2 w4 h4 p4 => ?_)⟩
    have c4 := c3.trans (h4.mono c3.size)
    refine ⟨fun _ => hS _ c4, ?_⟩
    rw [Array.setIfInBounds_comm (i := j1) (j := i1) _ _ (Ne.symm m13), Array.setIfInBounds_comm (i := j1) (j := i2) _ _ (Ne.symm m23), List.set_comm (i := l1) (j := k1) _ _ (Ne.symm n13), List.set_comm (i := l1) (j := k2) _ _ (Ne.symm n23)]
    exact fin v1 v2 u1 u2 w4 c4 (sA2 _ _ _ p3 h4) p4
end
end Go.Proofs.Ytkkehbebaokdmaa
