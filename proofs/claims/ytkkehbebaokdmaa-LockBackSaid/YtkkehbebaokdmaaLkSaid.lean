/- What the statements ask of the program's lock: by an invariant that its own text gives. -/
import Derived.Test.YtkkehbebaokdmaaOrcSaid
import Derived.Test.YtkkehbebaokdmaaGcmSaid
import Derived.Test.YtkkehbebaokdmaaDigSaid
namespace Go.Proofs.Ytkkehbebaokdmaa
open Go.RowKit
set_option maxRecDepth 20000

theorem sat_not {w : World} {b : Nat} {x : Option Addr} {n : Nat} {xs : List Int} (hc : ∀ o u, w.cell? ⟨b, o, none⟩ ≠ some (.int .u8 u)) (h : SAt w x n xs) : SIn (fun k => k ≠ b) w x n xs :=
  ⟨h.1, fun hn => by
    obtain ⟨g, o, e, hlt, hat⟩ := h.2 hn
    refine ⟨g, o, e, hlt, fun e' => ?_, hat⟩
    subst e'
    exact hc _ _ (hat 0 (by have := h.1; omega))⟩
theorem SBox.not8 {w : World} {b : Nat} {y : Option Addr} {n c : Nat} {t1 t2 : Int} (h : SBox w b (.slice y n c) t1 t2) (o : Nat) (u : Int) : w.cell? ⟨b, o, none⟩ ≠ some (.int .u8 u) := by
  unfold SBox at h
  match o with
  | 0 | 1 | 2 => simp [World.cell?, h]
  | o + 3 => simp [World.cell?, h]
/-- Which sealer, what it has sealed, what it has summed (a real one remembers nothing). -/
structure LSt where
  ideal : Bool
  iss : List Iss
  sums : List (List Int)
/-- What is sealed: bytes, tag; what is remembered. -/
def LSt.sealB (st : LSt) (key : BitVec 64 × BitVec 64) (nn : Nn) (ys : List Int) : List Int := if st.ideal = true then outB (st.iss.length + 1) ys.length else mixL (subP key nn) ys
def LSt.sealT (st : LSt) (key : BitVec 64 × BitVec 64) (nn : Nn) (xs ys : List Int) : BitVec 64 × BitVec 64 := if st.ideal = true then tagI (st.iss.length + 1) else tagP (subP key nn) xs (mixL (subP key nn) ys)
def LSt.sealS (st : LSt) (e : Iss) : LSt := if st.ideal = true then ⟨st.ideal, st.iss ++ [e], st.sums⟩ else st
/-- What is opened. -/
noncomputable def LSt.opens (st : LSt) (q : Ask) : Option (List Int) :=
  open Classical in
  if st.ideal = true then (if h : ∃ i, Hit st.iss q i then some (st.iss.getD h.choose default).data else none) else (if tagP (subP q.key q.non) q.head q.bytes = q.tag then some (mixL (subP q.key q.non) q.bytes) else none)
/-- A sum. -/
def LSt.sumV (st : LSt) (zs : List Int) : Int × Int := if st.ideal = true then (17216961135462248174, (sumIx st.sums zs : Nat)) else (nv (sumP zs).1, nv (sumP zs).2)
def LSt.sumS (st : LSt) (zs : List Int) : LSt := if st.ideal = true then ⟨st.ideal, st.iss, sumSt st.sums zs⟩ else st
theorem LSt.sealB_length (st : LSt) (key : BitVec 64 × BitVec 64) (nn : Nn) (ys : List Int) : (st.sealB key nn ys).length = ys.length := by
  unfold LSt.sealB
  split
  · exact outB_length _ _
  · exact mixL_length _ _
theorem LSt.sealB_bytes (st : LSt) (key : BitVec 64 × BitVec 64) (nn : Nn) {ys : List Int} (h : Bytes ys) : Bytes (st.sealB key nn ys) := by
  unfold LSt.sealB
  split
  · exact outB_bytes _ _
  · exact mixL_bytes _ h
theorem LSt.opens_hit {st : LSt} {q : Ask} {i : Nat} (hi : st.ideal = true) (hL : st.iss.length ≤ 50000) (h : Hit st.iss q i) : st.opens q = some (st.iss.getD i default).data := by
  have hx : ∃ i, Hit st.iss q i := ⟨i, h⟩
  unfold LSt.opens
  rw [if_pos hi, dif_pos hx, hx.choose_spec.one h (by omega)]
theorem LSt.opens_no {st : LSt} {q : Ask} (hi : st.ideal = true) (h : ∀ i, ¬ Hit st.iss q i) : st.opens q = none := by
  unfold LSt.opens
  rw [if_pos hi, dif_neg (fun ⟨i, hx⟩ => h i hx)]
theorem LSt.opens_real {st : LSt} {q : Ask} (hi : st.ideal = false) (h : tagP (subP q.key q.non) q.head q.bytes = q.tag) : st.opens q = some (mixL (subP q.key q.non) q.bytes) := by
  unfold LSt.opens
  rw [if_neg (by rw [hi]; decide), if_pos h]
theorem LSt.opens_unreal {st : LSt} {q : Ask} (hi : st.ideal = false) (h : tagP (subP q.key q.non) q.head q.bytes ≠ q.tag) : st.opens q = none := by
  unfold LSt.opens
  rw [if_neg (by rw [hi]; decide), if_neg h]
/-- Behind a call on a lock: what it has now, and what has turned. -/
structure KeptL (Inv : (Nat → Prop) → World → Value → LSt → Prop) (F : Nat → Prop) (w : World) (v : Value) (F' : Nat → Prop) (w' : World) (st' : LSt) : Prop where
  inv : Inv F' w' v st'
  sub : ∀ k, F' k → F k ∨ w.heap.size ≤ k
  off : Off F w w'
structure LockIs (Inv : (Nat → Prop) → World → Value → LSt → Prop) : Prop where
  stay : ∀ {F : Nat → Prop} {w w' : World} {v : Value} {st : LSt}, Inv F w v st → w.heap.size ≤ w'.heap.size → (∀ k, F k → w'.heap[k]? = w.heap[k]?) → Inv F w' v st
  lt : ∀ {F : Nat → Prop} {w : World} {v : Value} {st : LSt}, Inv F w v st → ∀ k, F k → k < w.heap.size
  ptr : ∀ {F : Nat → Prop} {w : World} {v : Value} {st : LSt}, Inv F w v st → ∃ a, v = .pointer (some a)
  none_ : ∀ {F : Nat → Prop} {w : World} {v : Value} {st : LSt}, Inv F w v st → st.ideal = false → st.iss = [] ∧ st.sums = []
  plain : ∀ {F : Nat → Prop} {w : World} {v : Value} {st : LSt}, Inv F w v st → st.ideal = false → ∀ {x : Option Addr} {n : Nat} {xs : List Int}, SAt w x n xs → SIn (fun k => ¬ F k) w x n xs
  real : ∀ w : World, Calls Try.prog 23 #[] w fun e w' => ∃ v F, e = .returned v ∧ Inv F w' v ⟨false, [], []⟩ ∧ (∀ k, F k → w.heap.size ≤ k) ∧ Below w.heap.size w w'
  ideal : ∀ w : World, Calls Try.prog 22 #[] w fun e w' => ∃ v F, e = .returned v ∧ Inv F w' v ⟨true, [], []⟩ ∧ (∀ k, F k → w.heap.size ≤ k) ∧ Below w.heap.size w w'
  seal_ : ∀ (F : Nat → Prop) (v : Value) (st : LSt) (key : BitVec 64 × BitVec 64) (nn : Nn) (xs ys : List Int) (x y : Option Addr) (nx ny c d : Nat), nx ≤ 4000 → ny ≤ 4000 → st.iss.length ≤ 10000 → Bytes xs → Bytes ys → Fit x nx c → Fit y ny d → ∀ w : World, Inv F w v st → SIn (fun k => ¬ F k) w x nx xs → SIn (fun k => ¬ F k) w y ny ys →
    Calls Try.prog 10 #[v, kv key, nvv nn, .slice x nx c, .slice y ny d] w fun e w' => ∃ z cz F', e = .returned (.tuple #[.agg #[.slice z ny cz, .int .u64 (nv (st.sealT key nn xs ys).1), .int .u64 (nv (st.sealT key nn xs ys).2)], .bool true]) ∧ KeptL Inv F w v F' w' (st.sealS ⟨key, nn, xs, ys⟩) ∧ SIn (fun k => ¬ F' k ∧ (st.ideal = true → w.heap.size ≤ k)) w' z ny (st.sealB key nn ys) ∧ Fit z ny cz
  open_ : ∀ (F : Nat → Prop) (v : Value) (st : LSt) (q : Ask) (x y : Option Addr) (n m c d : Nat), n ≤ 4000 → m ≤ 4000 → st.iss.length ≤ 10000 → Bytes q.head → Bytes q.bytes → Fit x n c → Fit y m d → ∀ w : World, Inv F w v st → SIn (fun k => ¬ F k) w x n q.head → SIn (fun k => ¬ F k) w y m q.bytes →
    Calls Try.prog 13 #[v, kv q.key, nvv q.non, .slice x n c, .agg #[.slice y m d, .int .u64 (nv q.tag.1), .int .u64 (nv q.tag.2)]] w fun e w' => ∃ z cz F', e = .returned (.tuple #[.slice z ((st.opens q).getD []).length cz, .bool (st.opens q).isSome]) ∧ KeptL Inv F w v F' w' st ∧ SIn (fun k => ¬ F' k) w' z ((st.opens q).getD []).length ((st.opens q).getD [])
  sum : ∀ (F : Nat → Prop) (v : Value) (st : LSt) (P : List (List Int)) (x : Option Addr) (m c : Nat), m ≤ 1000 → P.flatten.length ≤ 50000 → st.sums.length ≤ 10000 → Fit x m c → ∀ w : World, Inv F w v st → LIn (fun k => ¬ F k) w x m P →
    Calls Try.prog 15 #[v, .slice x m c] w fun e w' => ∃ F', e = .returned (.agg #[.int .u64 (st.sumV P.flatten).1, .int .u64 (st.sumV P.flatten).2]) ∧ KeptL Inv F w v F' w' (st.sumS P.flatten)
  issued : ∀ (F : Nat → Prop) (v : Value) (st : LSt), st.iss.length ≤ 10000 → ∀ w : World, Inv F w v st →
    Calls Try.prog 18 #[v] w fun e w' => ∃ z cz F', e = .returned (.slice z st.iss.length cz) ∧ KeptL Inv F w v F' w' st ∧ IRd w' z st.iss.length st.iss
  twice : ∀ (F : Nat → Prop) (v : Value) (st : LSt) (t : Bool), st.iss.length ≤ 10000 → (t = true ↔ Two st.iss) → ∀ w : World, Inv F w v st →
    Calls Try.prog 21 #[v] w fun e w' => ∃ F', e = .returned (.bool t) ∧ KeptL Inv F w v F' w' st
  sealNil : ∀ (key : BitVec 64 × BitVec 64) (nn : Nn) (x y : Option Addr) (nx ny c d : Nat) (w : World), Calls Try.prog 10 #[.pointer none, kv key, nvv nn, .slice x nx c, .slice y ny d] w fun e w' => (∃ z cz t1 t2, e = .returned (.tuple #[.agg #[.slice z 0 cz, .int .u64 t1, .int .u64 t2], .bool false])) ∧ Below w.heap.size w w'
  openNil : ∀ (key : BitVec 64 × BitVec 64) (nn : Nn) (x y : Option Addr) (nx ny c d : Nat) (t1 t2 : Int) (w : World), Calls Try.prog 13 #[.pointer none, kv key, nvv nn, .slice x nx c, .agg #[.slice y ny d, .int .u64 t1, .int .u64 t2]] w fun e w' => (∃ z cz, e = .returned (.tuple #[.slice z 0 cz, .bool false])) ∧ Below w.heap.size w w'
  sumNil : ∀ (x : Option Addr) (m c : Nat) (w : World), Calls Try.prog 15 #[.pointer none, .slice x m c] w fun e w' => e = .returned (.agg #[.int .u64 0, .int .u64 0]) ∧ Below w.heap.size w w'
  issuedNil : ∀ w : World, Calls Try.prog 18 #[.pointer none] w fun e w' => (∃ z cz, e = .returned (.slice z 0 cz)) ∧ Below w.heap.size w w'
  twiceNil : ∀ w : World, Calls Try.prog 21 #[.pointer none] w fun e w' => e = .returned (.bool false) ∧ Below w.heap.size w w'
theorem LockIs.keep {Inv : (Nat → Prop) → World → Value → LSt → Prop} (h : LockIs Inv) {F G : Nat → Prop} {w w' : World} {v : Value} {st : LSt} (hI : Inv F w v st) (hb : Off G w w') (hd : ∀ k, F k → ¬ G k) : Inv F w' v st :=
  h.stay hI hb.size (fun k hk => hb.block k (h.lt hI k hk) (hd k hk))
theorem LockIs.below {Inv : (Nat → Prop) → World → Value → LSt → Prop} (h : LockIs Inv) {F : Nat → Prop} {w w' : World} {v : Value} {st : LSt} (hI : Inv F w v st) (hb : Below w.heap.size w w') : Inv F w' v st :=
  h.keep hI (Off.of_below (F := fun _ => False) hb) (fun _ _ h => h)
theorem KeptL.sin {Inv : (Nat → Prop) → World → Value → LSt → Prop} {F F' : Nat → Prop} {w w' : World} {v : Value} {st' : LSt} (h : KeptL Inv F w v F' w' st') {x : Option Addr} {n : Nat} {xs : List Int} (hs : SIn (fun k => ¬ F k) w x n xs) : SIn (fun k => ¬ F' k) w' x n xs :=
  ((hs.mono (G' := fun k => ¬ F k ∧ k < w.heap.size) (fun k hk h => ⟨h, hk⟩)).off h.off (fun _ _ h => h.1)).mono (fun k _ hk hf => (h.sub k hf).elim hk.1 (fun e => by omega))
end Go.Proofs.Ytkkehbebaokdmaa
