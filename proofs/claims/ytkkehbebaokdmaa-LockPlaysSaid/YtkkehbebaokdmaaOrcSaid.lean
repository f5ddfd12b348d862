/- What the statements ask of the program's ideal sealer: by an invariant that its own text gives. -/
import Derived.Test.YtkkehbebaokdmaaRefOSame
import Derived.Test.YtkkehbebaokdmaaLIn
namespace Go.Proofs.Ytkkehbebaokdmaa
open Go.RowKit
set_option maxRecDepth 20000

def kv (key : BitVec 64 × BitVec 64) : Value := .agg #[.int .u64 (nv key.1), .int .u64 (nv key.2)]
def nvv (n : Nn) : Value := .agg #[.int .u32 (nv32 n.1), .int .u32 (nv32 n.2.1), .int .u64 (nv n.2.2)]
/-- A slice: so long, so much room. -/
def Fit (x : Option Addr) (n c : Nat) : Prop := n ≤ c ∧ c ≤ maxLen ∧ (x = none → n = 0 ∧ c = 0)
/-- A slice of issues in memory of G, none of it frozen. -/
def IRdG (G : Nat → Prop) (w : World) (x : Option Addr) (n : Nat) (L : List Iss) : Prop := L.length = n ∧ (0 < n → ∃ g o, x = some ⟨g, o, none⟩ ∧ g < w.heap.size ∧ G g ∧ ∀ i, i < n → ∃ c, IssIn G w (L.getD i default) c i ∧ ∀ j u, (issC (L.getD i default) c i)[j]? = some u → w.cell? ⟨g, o + i * 10 + j, none⟩ = some u)
theorem IRdG.rd {G : Nat → Prop} {w : World} {x : Option Addr} {n : Nat} {L : List Iss} (h : IRdG G w x n L) : IRd w x n L :=
  ⟨h.1, fun hn => by
    obtain ⟨g, o, e, hg, _, hr⟩ := h.2 hn
    refine ⟨g, o, e, hg, fun i hi => ?_⟩
    obtain ⟨c, h1, h2⟩ := hr i hi
    exact ⟨c, h1.mono (fun _ _ _ => trivial), h2⟩⟩
/-- Behind a call on an object: what it has now, and what has turned. -/
structure Kept (Inv : (Nat → Prop) → World → Value → OSt → Prop) (F : Nat → Prop) (w : World) (v : Value) (F' : Nat → Prop) (w' : World) (st' : OSt) : Prop where
  inv : Inv F' w' v st'
  sub : ∀ k, F' k → F k ∨ w.heap.size ≤ k
  off : Off F w w'
structure OrcIs (Inv : (Nat → Prop) → World → Value → OSt → Prop) : Prop where
  stay : ∀ {F : Nat → Prop} {w w' : World} {v : Value} {st : OSt}, Inv F w v st → w.heap.size ≤ w'.heap.size → (∀ k, F k → w'.heap[k]? = w.heap[k]?) → Inv F w' v st
  lt : ∀ {F : Nat → Prop} {w : World} {v : Value} {st : OSt}, Inv F w v st → ∀ k, F k → k < w.heap.size
  ptr : ∀ {F : Nat → Prop} {w : World} {v : Value} {st : OSt}, Inv F w v st → ∃ a, v = .pointer (some a)
  make : ∀ w : World, Calls Try.prog 30 #[] w fun e w' => ∃ v F, e = .returned v ∧ Inv F w' v ([], []) ∧ (∀ k, F k → w.heap.size ≤ k) ∧ Below w.heap.size w w'
  sealIn : ∀ (F : Nat → Prop) (v : Value) (L : List Iss) (S : List (List Int)) (key : BitVec 64 × BitVec 64) (nn : Nn) (xs ys : List Int) (x y : Option Addr) (nx ny c d : Nat), nx ≤ 4000 → ny ≤ 4000 → L.length ≤ 10000 → Bytes xs → Bytes ys → Fit x nx c → Fit y ny d → ∀ w : World, Inv F w v (L, S) → SIn (fun k => ¬ F k) w x nx xs → SIn (fun k => ¬ F k) w y ny ys →
    Calls Try.prog 31 #[v, kv key, nvv nn, .slice x nx c, .slice y ny d] w fun e w' => ∃ z cz F', e = .returned (.tuple #[.agg #[.slice z ny cz, .int .u64 18446744073709551615, .int .u64 ((L.length : Int) + 1)], .bool true]) ∧ Kept Inv F w v F' w' (L ++ [⟨key, nn, xs, ys⟩], S) ∧ SIn (fun k => w.heap.size ≤ k ∧ ¬ F' k) w' z ny (outB (L.length + 1) ny) ∧ Fit z ny cz
  openYes : ∀ (F : Nat → Prop) (v : Value) (st : OSt) (q : Ask) (x y : Option Addr) (n m c d i : Nat), st.1.length ≤ 10000 → Bytes q.head → Bytes q.bytes → Fit x n c → Fit y m d → Hit st.1 q i → ∀ w : World, Inv F w v st → SIn (fun k => ¬ F k) w x n q.head → SIn (fun k => ¬ F k) w y m q.bytes →
    Calls Try.prog 32 #[v, kv q.key, nvv q.non, .slice x n c, .agg #[.slice y m d, .int .u64 (nv q.tag.1), .int .u64 (nv q.tag.2)]] w fun e w' => ∃ z cz F', e = .returned (.tuple #[.slice z (st.1.getD i default).data.length cz, .bool true]) ∧ Kept Inv F w v F' w' st ∧ SIn (fun k => w.heap.size ≤ k ∧ ¬ F' k) w' z (st.1.getD i default).data.length (st.1.getD i default).data
  openNo : ∀ (F : Nat → Prop) (v : Value) (st : OSt) (q : Ask) (x y : Option Addr) (n m c d : Nat), st.1.length ≤ 10000 → Bytes q.head → Bytes q.bytes → Fit x n c → Fit y m d → (∀ i, ¬ Hit st.1 q i) → ∀ w : World, Inv F w v st → SIn (fun k => ¬ F k) w x n q.head → SIn (fun k => ¬ F k) w y m q.bytes →
    Calls Try.prog 32 #[v, kv q.key, nvv q.non, .slice x n c, .agg #[.slice y m d, .int .u64 (nv q.tag.1), .int .u64 (nv q.tag.2)]] w fun e w' => ∃ z cz F', e = .returned (.tuple #[.slice z 0 cz, .bool false]) ∧ Kept Inv F w v F' w' st
  sum : ∀ (F : Nat → Prop) (v : Value) (L : List Iss) (S : List (List Int)) (P : List (List Int)) (x : Option Addr) (m c : Nat), m ≤ 1000 → P.flatten.length ≤ 50000 → S.length ≤ 10000 → Fit x m c → ∀ w : World, Inv F w v (L, S) → LIn (fun k => ¬ F k) w x m P →
    Calls Try.prog 33 #[v, .slice x m c] w fun e w' => ∃ F', e = .returned (.agg #[.int .u64 17216961135462248174, .int .u64 (sumIx S P.flatten : Nat)]) ∧ Kept Inv F w v F' w' (L, sumSt S P.flatten)
  issued : ∀ (F : Nat → Prop) (v : Value) (st : OSt), st.1.length ≤ 10000 → ∀ w : World, Inv F w v st →
    Calls Try.prog 34 #[v] w fun e w' => ∃ z cz F', e = .returned (.slice z st.1.length cz) ∧ Kept Inv F w v F' w' st ∧ IRdG (fun k => w.heap.size ≤ k ∧ ¬ F' k) w' z st.1.length st.1 ∧ st.1.length ≤ cz ∧ ∀ k i, w.heap.size ≤ k → w'.frozen? ⟨k, i, none⟩ = false
  twice : ∀ (F : Nat → Prop) (v : Value) (st : OSt) (t : Bool), st.1.length ≤ 10000 → (t = true ↔ Two st.1) → ∀ w : World, Inv F w v st →
    Calls Try.prog 35 #[v] w fun e w' => ∃ F', e = .returned (.bool t) ∧ Kept Inv F w v F' w' st
  sealNil : ∀ (key : BitVec 64 × BitVec 64) (nn : Nn) (x y : Option Addr) (nx ny c d : Nat) (w : World), Calls Try.prog 31 #[.pointer none, kv key, nvv nn, .slice x nx c, .slice y ny d] w fun e w' => (∃ z cz t1 t2, e = .returned (.tuple #[.agg #[.slice z 0 cz, .int .u64 t1, .int .u64 t2], .bool false])) ∧ Below w.heap.size w w'
  openNil : ∀ (key : BitVec 64 × BitVec 64) (nn : Nn) (x y : Option Addr) (nx ny c d : Nat) (t1 t2 : Int) (w : World), Calls Try.prog 32 #[.pointer none, kv key, nvv nn, .slice x nx c, .agg #[.slice y ny d, .int .u64 t1, .int .u64 t2]] w fun e w' => (∃ z cz, e = .returned (.tuple #[.slice z 0 cz, .bool false])) ∧ Below w.heap.size w w'
  sumNil : ∀ (x : Option Addr) (m c : Nat) (w : World), Calls Try.prog 33 #[.pointer none, .slice x m c] w fun e w' => e = .returned (.agg #[.int .u64 0, .int .u64 0]) ∧ Below w.heap.size w w'
  issuedNil : ∀ w : World, Calls Try.prog 34 #[.pointer none] w fun e w' => (∃ z cz, e = .returned (.slice z 0 cz)) ∧ Below w.heap.size w w'
  twiceNil : ∀ w : World, Calls Try.prog 35 #[.pointer none] w fun e w' => e = .returned (.bool false) ∧ Below w.heap.size w w'
theorem OrcIs.keep {Inv : (Nat → Prop) → World → Value → OSt → Prop} (h : OrcIs Inv) {F G : Nat → Prop} {w w' : World} {v : Value} {st : OSt} (hI : Inv F w v st) (hb : Off G w w') (hd : ∀ k, F k → ¬ G k) : Inv F w' v st :=
  h.stay hI hb.size (fun k hk => hb.block k (h.lt hI k hk) (hd k hk))
theorem OrcIs.below {Inv : (Nat → Prop) → World → Value → OSt → Prop} (h : OrcIs Inv) {F : Nat → Prop} {w w' : World} {v : Value} {st : OSt} (hI : Inv F w v st) (hb : Below w.heap.size w w') : Inv F w' v st :=
  h.keep hI (Off.of_below (F := fun _ => False) hb) (fun _ _ h => h)
theorem fit_none : Fit none 0 0 := ⟨Nat.le_refl _, Nat.zero_le _, fun _ => ⟨rfl, rfl⟩⟩
end Go.Proofs.Ytkkehbebaokdmaa
