/- LIn RowsAt Fit DevSt DskSaid DevLaws Region DskLaws: texts laid together. -/
import Derived.Test.YtcjmmfgnnebgkaaM02
import Derived.Test.YtcjmmfgnnebgkaaM01
import Derived.WalkKit
import Derived.Deep.RegionHeld
import Derived.BigRegion

/- Slices of rows of bytes, in blocks of G. -/
namespace Go.Proofs.Ytcjmmfgnnebgkaa
open Go.RowKit
set_option maxRecDepth 20000

theorem Off.one (w : World) (b i : Nat) (u : Value) : Off (fun k => k = b) w (w.setCell ⟨b, i, Option.none⟩ u) := (Off.refl (fun k => k = b) w).setCell (p := ⟨b, i, Option.none⟩) (Or.inl rfl) u
/-- The slice in this cell has these bytes. -/
def RowInG (G : Nat → Prop) (w : World) (b o : Nat) (ys : List Int) : Prop := ∃ y c, w.cell? ⟨b, o, none⟩ = some (.slice y ys.length c) ∧ SIn G w y ys.length ys ∧ ys.length ≤ c ∧ c ≤ maxLen ∧ (y = none → ys.length = 0 ∧ c = 0) ∧ Bytes ys
theorem RowInG.of {G : Nat → Prop} {w : World} {b o n c : Nat} {y : Option Addr} {ys : List Int} (h : w.cell? ⟨b, o, none⟩ = some (.slice y n c)) (hs : SIn G w y n ys) (hc : n ≤ c) (hm : c ≤ maxLen) (hnil : y = none → n = 0 ∧ c = 0) (hb : Bytes ys) : RowInG G w b o ys := by
  obtain rfl : ys.length = n := hs.1
  exact ⟨y, c, h, hs, hc, hm, hnil, hb⟩
/-- A slice of m rows. -/
def LIn (G : Nat → Prop) (w : World) (x : Option Addr) (m : Nat) (P : List (List Int)) : Prop := P.length = m ∧ (0 < m → ∃ b o, x = some ⟨b, o, none⟩ ∧ b < w.heap.size ∧ G b ∧ ∀ i, i < m → RowInG G w b (o + i) (P.getD i []))
theorem LIn.off {F G : Nat → Prop} {w w' : World} {x : Option Addr} {m : Nat} {P : List (List Int)} (h : LIn G w x m P) (hb : Off F w w') (hd : ∀ b, b < w.heap.size → G b → ¬ F b) : LIn G w' x m P :=
  ⟨h.1, fun hm => by
    obtain ⟨b, o, e, hlt, hg, hr⟩ := h.2 hm
    refine ⟨b, o, e, Nat.lt_of_lt_of_le hlt hb.size, hg, fun i hi => ?_⟩
    obtain ⟨y, c, h1, h2, h3⟩ := hr i hi
    exact ⟨y, c, (hb.cell (p := ⟨b, o + i, none⟩) hlt (hd b hlt hg)).trans h1, h2.off hb hd, h3⟩⟩
theorem LIn.drew {G : Nat → Prop} {w : World} {x : Option Addr} {m : Nat} {P : List (List Int)} (h : LIn G w x m P) : LIn G w.drew x m P := h.off (F := fun _ => False) (Off.refl _ _).drew (fun _ _ _ h => h)
theorem lin_none (G : Nat → Prop) (w : World) (x : Option Addr) : LIn G w x 0 [] := ⟨rfl, fun h => absurd h (by omega)⟩
theorem lin_one {G : Nat → Prop} (w : World) {y : Option Addr} {n c : Nat} {ys : List Int} (hG : G w.heap.size) (hs : SIn G w y n ys) (hc : n ≤ c) (hm : c ≤ maxLen) (hnil : y = none → n = 0 ∧ c = 0) (hb : Bytes ys) :
    LIn G (w.alloc (.cells #[.slice y n c] 33)) (some ⟨w.heap.size, 0, none⟩) 1 [ys] := by
  refine ⟨rfl, fun _ => ⟨w.heap.size, 0, rfl, by rw [World.size_alloc]; omega, hG, fun i hi => ?_⟩⟩
  obtain rfl : i = 0 := by omega
  exact RowInG.of (y := y) (n := n) (c := c) (by simp) (hs.off (F := fun _ => False) ((Off.refl _ _).alloc _) (fun _ _ _ h => h)) hc hm hnil hb
theorem lin_two {G : Nat → Prop} (w : World) {y z : Option Addr} {n c k d : Nat} {ys zs : List Int} (hG : G w.heap.size) (hs : SIn G w y n ys) (hc : n ≤ c) (hm : c ≤ maxLen) (hnil : y = none → n = 0 ∧ c = 0) (hb : Bytes ys)
    (hs2 : SIn G w z k zs) (hc2 : k ≤ d) (hm2 : d ≤ maxLen) (hnil2 : z = none → k = 0 ∧ d = 0) (hb2 : Bytes zs) :
    LIn G (w.alloc (.cells #[.slice y n c, .slice z k d] 33)) (some ⟨w.heap.size, 0, none⟩) 2 [ys, zs] := by
  refine ⟨rfl, fun _ => ⟨w.heap.size, 0, rfl, by rw [World.size_alloc]; omega, hG, fun i hi => ?_⟩⟩
  match i, hi with
  | 0, _ => exact RowInG.of (y := y) (n := n) (c := c) (by simp) (hs.off (F := fun _ => False) ((Off.refl _ _).alloc _) (fun _ _ _ h => h)) hc hm hnil hb
  | 1, _ => exact RowInG.of (y := z) (n := k) (c := d) (by simp) (hs2.off (F := fun _ => False) ((Off.refl _ _).alloc _) (fun _ _ _ h => h)) hc2 hm2 hnil2 hb2
end Go.Proofs.Ytcjmmfgnnebgkaa


/- A slice of structs, cell by cell. -/
namespace Go.Proofs.Ytcjmmfgnnebgkaa
open Go.RowKit
set_option maxRecDepth 20000

/-- A slice of m things of so many cells each, of each of which R holds. -/
def RowsAt {α : Type} [Inhabited α] (size : Nat) (R : World → List Value → α → Prop) (w : World) (x : Option Addr) (m : Nat) (L : List α) : Prop :=
  L.length = m ∧ (0 < m → ∃ b o, x = some ⟨b, o, none⟩ ∧ b < w.heap.size ∧ ∀ i, i < m → ∃ cs, cs.length = size ∧ (∀ j u, cs[j]? = some u → w.cell? ⟨b, o + i * size + j, none⟩ = some u) ∧ R w cs (L.getD i default))
end Go.Proofs.Ytcjmmfgnnebgkaa


/- A slice: so long, so much room. -/
namespace Go.Proofs.Ytcjmmfgnnebgkaa
open Go.RowKit
set_option maxRecDepth 20000

/-- A slice: so long, so much room. -/
def Fit (x : Option Addr) (n c : Nat) : Prop := n ≤ c ∧ c ≤ maxLen ∧ (x = none → n = 0 ∧ c = 0)
theorem fit_none : Fit none 0 0 := ⟨Nat.le_refl _, Nat.zero_le _, fun _ => ⟨rfl, rfl⟩⟩
end Go.Proofs.Ytcjmmfgnnebgkaa


/- A device that nobody trusts, plain; what its calls leave, in memory. -/
namespace Go.Proofs.Ytcjmmfgnnebgkaa
open Go.RowKit
set_option maxRecDepth 20000

/-- What lasts, what waits, all that was done. -/
structure SsdSt where
  B : List Int
  Wt : List (Nat × List Int)
  T : List (Int × List Int)
/-- Bytes laid over others, in order. -/
def layW (b : List Int) (L : List (Nat × List Int)) : List Int := L.foldl (fun b o => splice b o.1 o.2) b
def SsdSt.cur (s : SsdSt) : List Int := layW s.B s.Wt
/-- Of what waits, that whose place in K is true. -/
def keptOf (L : List (Nat × List Int)) (K : List Bool) : List (Nat × List Int) := ((L.zip K).filter (·.2)).map (·.1)
def SsdSt.write (s : SsdSt) (off : Nat) (xs : List Int) : SsdSt := ⟨s.B, s.Wt ++ [(off, xs)], s.T ++ [((off : Int), xs)]⟩
def SsdSt.settle (s : SsdSt) : SsdSt := ⟨s.cur, [], s.T ++ [(-1, [])]⟩
def SsdSt.crash (s : SsdSt) (K : List Bool) : SsdSt := ⟨layW s.B (keptOf s.Wt K), [], s.T⟩
def SsdSt.smash (s : SsdSt) (off : Nat) (xs : List Int) : SsdSt := ⟨splice s.cur off xs, [], s.T⟩
def SsdSt.lay (s : SsdSt) (xs : List Int) : SsdSt := ⟨xs, [], s.T⟩
/-- Bools in memory. -/
def KIn (G : Nat → Prop) (w : World) (x : Option Addr) (m : Nat) (K : List Bool) : Prop := K.length = m ∧ (0 < m → ∃ b o, x = some ⟨b, o, none⟩ ∧ b < w.heap.size ∧ G b ∧ ∀ i, i < m → w.cell? ⟨b, o + i, none⟩ = some (.bool (K.getD i false)))
theorem KIn.none (G : Nat → Prop) (w : World) (x : Option Addr) : KIn G w x 0 [] := ⟨rfl, fun h => absurd h (by omega)⟩
theorem KIn.off {F G : Nat → Prop} {w w' : World} {x : Option Addr} {m : Nat} {K : List Bool} (h : KIn G w x m K) (hb : Off F w w') (hd : ∀ b, b < w.heap.size → G b → ¬ F b) : KIn G w' x m K :=
  ⟨h.1, fun hm => by
    obtain ⟨b, o, e, hlt, hg, hr⟩ := h.2 hm
    exact ⟨b, o, e, Nat.lt_of_lt_of_le hlt hb.size, hg, fun i hi => (hb.cell (p := ⟨b, o + i, Option.none⟩) hlt (hd b hlt hg)).trans (hr i hi)⟩⟩
theorem KIn.mono {G G' : Nat → Prop} {w : World} {x : Option Addr} {m : Nat} {K : List Bool} (h : KIn G w x m K) (hd : ∀ b, b < w.heap.size → G b → G' b) : KIn G' w x m K :=
  ⟨h.1, fun hm => by
    obtain ⟨b, o, e, hlt, hg, hr⟩ := h.2 hm
    exact ⟨b, o, e, hlt, hd b hlt hg, hr⟩⟩
/-- A write, or a barrier, in memory. -/
def OpIn (G : Nat → Prop) (w : World) (b o : Nat) (p : Int × List Int) : Prop := w.cell? ⟨b, o, none⟩ = some (.int .i64 p.1) ∧ RowInG G w b (o + 1) p.2
/-- A slice of these. -/
def TIn (G : Nat → Prop) (w : World) (x : Option Addr) (m : Nat) (L : List (Int × List Int)) : Prop := L.length = m ∧ (0 < m → ∃ b o, x = some ⟨b, o, none⟩ ∧ b < w.heap.size ∧ G b ∧ ∀ i, i < m → OpIn G w b (o + i * 2) (L.getD i (0, [])))
theorem RowInG.off {F G : Nat → Prop} {w w' : World} {b o : Nat} {ys : List Int} (h : RowInG G w b o ys) (hb : Off F w w') (hlt : b < w.heap.size) (hF : ¬ F b) (hd : ∀ b, b < w.heap.size → G b → ¬ F b) : RowInG G w' b o ys := by
  obtain ⟨y, c, h1, h2, h3⟩ := h
  exact ⟨y, c, (hb.cell (p := ⟨b, o, none⟩) hlt hF).trans h1, h2.off hb hd, h3⟩
theorem TIn.off {F G : Nat → Prop} {w w' : World} {x : Option Addr} {m : Nat} {L : List (Int × List Int)} (h : TIn G w x m L) (hb : Off F w w') (hd : ∀ b, b < w.heap.size → G b → ¬ F b) : TIn G w' x m L :=
  ⟨h.1, fun hm => by
    obtain ⟨b, o, e, hlt, hg, hr⟩ := h.2 hm
    exact ⟨b, o, e, Nat.lt_of_lt_of_le hlt hb.size, hg, fun i hi => ⟨(hb.cell (p := ⟨b, o + i * 2, none⟩) hlt (hd b hlt hg)).trans (hr i hi).1, (hr i hi).2.off hb hlt (hd b hlt hg) hd⟩⟩⟩
/-- New memory, none of it the object's. -/
abbrev NewOf (w : World) (F : Nat → Prop) : Nat → Prop := fun k => w.heap.size ≤ k ∧ ¬ F k
/-- None of the new memory is frozen. -/
abbrev Soft (w w' : World) : Prop := ∀ k i, w.heap.size ≤ k → w'.frozen? ⟨k, i, none⟩ = false
end Go.Proofs.Ytcjmmfgnnebgkaa


/- The slow disk: plain, and what the statements ask of the program's. -/
namespace Go.Proofs.Ytcjmmfgnnebgkaa
open Go.RowKit
set_option maxRecDepth 20000

/-- Blocks that last, what waits, all that was done; does it refuse? -/
structure DskSt where
  B : List (List Int)
  Wt : List (Nat × List Int)
  T : List (Int × List Int)
  no : Bool
/-- Blocks laid over others, in order. -/
def layD (B : List (List Int)) (L : List (Nat × List Int)) : List (List Int) := L.foldl (fun B o => B.set o.1 o.2) B
def DskSt.cur (s : DskSt) (i : Nat) : List Int := (layD s.B s.Wt).getD i []
def DskSt.write (s : DskSt) (lba : Nat) (xs : List Int) : DskSt := ⟨s.B, s.Wt ++ [(lba, xs)], s.T ++ [((lba : Int), xs)], s.no⟩
def DskSt.settle (s : DskSt) : DskSt := ⟨layD s.B s.Wt, [], s.T ++ [(-1, [])], s.no⟩
def DskSt.crash (s : DskSt) (K : List Bool) : DskSt := ⟨layD s.B (keptOf s.Wt K), [], s.T, s.no⟩
def DskSt.refuse (s : DskSt) (b : Bool) : DskSt := ⟨s.B, s.Wt, s.T, b⟩
/-- A block of noughts; a new disk. -/
abbrev zblk : List Int := List.replicate 32 0
abbrev DskSt.new : DskSt := ⟨List.replicate 32 zblk, [], [], false⟩
/-- What a disk is told to have: 32 blocks of 32 bytes; what waits is blocks of it. -/
structure DskWf (s : DskSt) : Prop where
  n : s.B.length = 32
  b : ∀ x ∈ s.B, x.length = 32
  w : ∀ o ∈ s.Wt, o.1 < 32 ∧ o.2.length = 32
theorem layD_wf : ∀ (L : List (Nat × List Int)) (B : List (List Int)), B.length = 32 → (∀ x ∈ B, x.length = 32) → (∀ o ∈ L, o.1 < 32 ∧ o.2.length = 32) → (layD B L).length = 32 ∧ ∀ x ∈ layD B L, x.length = 32
  | [], B, h1, h2, _ => ⟨h1, h2⟩
  | o :: L, B, h1, h2, h3 => layD_wf L (B.set o.1 o.2) (by rw [List.length_set]; exact h1) (fun x hx => by
      rcases List.mem_or_eq_of_mem_set hx with h | h
      · exact h2 x h
      · rw [h]
        exact (h3 o List.mem_cons_self).2) (fun p hp => h3 p (List.mem_cons_of_mem _ hp))
theorem getD_len {B : List (List Int)} (h1 : B.length = 32) (h2 : ∀ x ∈ B, x.length = 32) (i : Nat) (hi : i < 32) : (B.getD i []).length = 32 := by
  have : i < B.length := by omega
  rw [List.getD_eq_getElem?_getD, List.getElem?_eq_getElem this, Option.getD_some]
  exact h2 _ (List.getElem_mem this)
theorem DskWf.cur {s : DskSt} (h : DskWf s) (i : Nat) (hi : i < 32) : (s.cur i).length = 32 := by
  obtain ⟨h1, h2⟩ := layD_wf s.Wt s.B h.n h.b h.w
  exact getD_len h1 h2 i hi
/-- What is asked of a disk, whatever memory it has: by a power of PI. -/
structure DskIs (PI : (Nat → Prop) → World → Value → PSt → Prop) (DI : Option Addr → (Nat → Prop) → World → Value → DskSt → Prop) : Prop where
  base : ∀ p, ObjBase (DI p)
  wf : ∀ {p : Option Addr} {F : Nat → Prop} {w : World} {v : Value} {st : DskSt}, DI p F w v st → DskWf st
  make : ∀ (p : Option Addr), ∀ w : World, Calls Try.prog 9 #[.pointer p] w fun e w' => ∃ v F, e = .returned v ∧ DI p F w' v DskSt.new ∧ (∀ k, F k → w.heap.size ≤ k) ∧ Below w.heap.size w w'
  write : ∀ (p : Option Addr) (F G : Nat → Prop) (v : Value) (st : DskSt) (q : PSt) (lba c : Nat) (x : Option Addr) (xs : List Int), lba < 32 → st.no = false → st.T.length ≤ 100000 → q.2.2 ≤ 1000000 → Fit x 32 c → Bytes xs → ∀ w : World, DI p F w v st → PI G w (.pointer p) q → (∀ k, F k → ¬ G k) → SIn (fun k => ¬ F k ∧ ¬ G k) w x 32 xs →
    Calls Try.prog 12 #[v, .int .i64 (lba : Int), .slice x 32 c] w fun e w' => ∃ F' G', e = .returned (.bool (pSpend q).1) ∧ KeptD (DI p) PI F G w v (.pointer p) F' G' w' (if (pSpend q).1 = true then st.write lba xs else st) (pSpend q).2
  writeNo : ∀ (p : Option Addr) (F : Nat → Prop) (v : Value) (st : DskSt) (lba : Int) (x : Option Addr) (n c : Nat), (lba < 0 ∨ 32 ≤ lba) ∨ n ≠ 32 ∨ st.no = true → ∀ w : World, DI p F w v st →
    Calls Try.prog 12 #[v, .int .i64 lba, .slice x n c] w fun e w' => ∃ F', e = .returned (.bool false) ∧ KeptG (DI p) F w v F' w' st
  barrier : ∀ (p : Option Addr) (F G : Nat → Prop) (v : Value) (st : DskSt) (q : PSt), st.T.length ≤ 100000 → q.2.2 ≤ 1000000 → ∀ w : World, DI p F w v st → PI G w (.pointer p) q → (∀ k, F k → ¬ G k) →
    Calls Try.prog 14 #[v] w fun e w' => ∃ F' G', e = .returned (.bool (pSpend q).1) ∧ KeptD (DI p) PI F G w v (.pointer p) F' G' w' (if (pSpend q).1 = true then st.settle else st) (pSpend q).2
  read : ∀ (p : Option Addr) (F G : Nat → Prop) (v : Value) (st : DskSt) (q : PSt) (lba : Nat), lba < 32 → q.1 = true → ∀ w : World, DI p F w v st → PI G w (.pointer p) q → (∀ k, F k → ¬ G k) →
    Calls Try.prog 16 #[v, .int .i64 (lba : Int)] w fun e w' => ∃ z cz F', e = .returned (.tuple #[.slice z 32 cz, .bool true]) ∧ KeptG (DI p) F w v F' w' st ∧ SIn (NewOf w F') w' z 32 (st.cur lba) ∧ Fit z 32 cz ∧ Soft w w'
  readNo : ∀ (p : Option Addr) (F G : Nat → Prop) (v : Value) (st : DskSt) (q : PSt) (lba : Int), (lba < 0 ∨ 32 ≤ lba) ∨ q.1 = false → ∀ w : World, DI p F w v st → PI G w (.pointer p) q → (∀ k, F k → ¬ G k) →
    Calls Try.prog 16 #[v, .int .i64 lba] w fun e w' => ∃ z cz F', e = .returned (.tuple #[.slice z 0 cz, .bool false]) ∧ KeptG (DI p) F w v F' w' st
  crash : ∀ (p : Option Addr) (F : Nat → Prop) (v : Value) (st : DskSt) (x : Option Addr) (m c : Nat) (K : List Bool), Fit x m c → ∀ w : World, DI p F w v st → KIn (fun k => ¬ F k) w x m K →
    Calls Try.prog 18 #[v, .slice x m c] w fun e w' => ∃ F', e = .returned (.tuple #[]) ∧ KeptG (DI p) F w v F' w' (st.crash K)
  refuse : ∀ (p : Option Addr) (F : Nat → Prop) (v : Value) (st : DskSt) (b : Bool), ∀ w : World, DI p F w v st →
    Calls Try.prog 20 #[v, .bool b] w fun e w' => ∃ F', e = .returned (.tuple #[]) ∧ KeptG (DI p) F w v F' w' (st.refuse b)
  trace : ∀ (p : Option Addr) (F : Nat → Prop) (v : Value) (st : DskSt), st.T.length ≤ 100000 → ∀ w : World, DI p F w v st →
    Calls Try.prog 27 #[v] w fun e w' => ∃ z cz F', e = .returned (.slice z st.T.length cz) ∧ KeptG (DI p) F w v F' w' st ∧ TIn (NewOf w F') w' z st.T.length st.T ∧ Fit z st.T.length cz ∧ Soft w w'
  writeNil : ∀ (lba : Int) (x : Option Addr) (n c : Nat) (w : World), Calls Try.prog 12 #[.pointer none, .int .i64 lba, .slice x n c] w fun e w' => e = .returned (.bool false) ∧ Below w.heap.size w w'
  barrierNil : ∀ w : World, Calls Try.prog 14 #[.pointer none] w fun e w' => e = .returned (.bool false) ∧ Below w.heap.size w w'
  readNil : ∀ (lba : Int) (w : World), Calls Try.prog 16 #[.pointer none, .int .i64 lba] w fun e w' => (∃ z cz, e = .returned (.tuple #[.slice z 0 cz, .bool false])) ∧ Below w.heap.size w w'
  crashNil : ∀ (x : Option Addr) (n c : Nat) (w : World), Calls Try.prog 18 #[.pointer none, .slice x n c] w fun e w' => e = .returned (.tuple #[]) ∧ Below w.heap.size w w'
  refuseNil : ∀ (b : Bool) (w : World), Calls Try.prog 20 #[.pointer none, .bool b] w fun e w' => e = .returned (.tuple #[]) ∧ Below w.heap.size w w'
  traceNil : ∀ w : World, Calls Try.prog 27 #[.pointer none] w fun e w' => (∃ z cz, e = .returned (.slice z 0 cz)) ∧ Below w.heap.size w w'
end Go.Proofs.Ytcjmmfgnnebgkaa


/- What the laws of devices share: their memory. -/
namespace Go.Proofs.Ytcjmmfgnnebgkaa
open Go.RowKit
set_option maxRecDepth 20000

section
variable {σ τ : Type} {I : (Nat → Prop) → World → Value → σ → Prop} {J : (Nat → Prop) → World → Value → τ → Prop} {w wr : World} {F G : Nat → Prop} {v u : Value} {s : σ} {t : τ}
/-- Bytes that were there ahead of both. -/
theorem Duo.arg (h : Duo I J w F v s G u t wr) {x : Option Addr} {n : Nat} {xs : List Int} (hx : SAt w x n xs) : SIn (fun k => ¬ F k ∧ ¬ G k) wr x n xs :=
  (hx.inn.off (F := fun _ => False) (Off.of_below h.hB) (fun _ _ _ h => h)).mono (fun b _ hb => ⟨fun hf => by have := h.hF b hf; omega, fun hg => by have := h.hG b hg; omega⟩)
/-- A row that is laid now. -/
theorem Duo.row (hI : ObjBase I) (hJ : ObjBase J) (h : Duo I J w F v s G u t wr) (zs : List Int) (n : Nat) (hn : zs.length = n) : SIn (fun k => ¬ F k ∧ ¬ G k) (wr.alloc (.cells (zs.map (Value.int .u8)).toArray 5)) (some ⟨wr.heap.size, 0, none⟩) n zs :=
  ⟨hn, fun _ => ⟨wr.heap.size, 0, rfl, by simp, ⟨(h.new hI hJ).1, (h.new hI hJ).2.1⟩, fun i hi => by simp [hi]⟩⟩
theorem KIn.arg (h : Duo I J w F v s G u t wr) {x : Option Addr} {n : Nat} {K : List Bool} (hx : KIn (fun k => k < w.heap.size) w x n K) : KIn (fun k => ¬ F k) wr x n K :=
  (hx.off (F := fun _ => False) (Off.of_below h.hB) (fun _ _ _ h => h)).mono (fun b _ hb hf => by have := h.hF b hf; omega)
end
/-- Bytes that are neither object's stay so behind a call on the first. -/
theorem KeptG.sin {σ : Type} {I : (Nat → Prop) → World → Value → σ → Prop} {F F' G : Nat → Prop} {w w' : World} {v : Value} {s' : σ} (hK : KeptG I F w v F' w' s') {x : Option Addr} {n : Nat} {xs : List Int} (h : SIn (fun k => ¬ F k ∧ ¬ G k) w x n xs) : SIn (fun k => ¬ F' k ∧ ¬ G k) w' x n xs :=
  ((h.mono (G' := fun k => k < w.heap.size ∧ ¬ F k ∧ ¬ G k) (fun _ hl h => ⟨hl, h⟩)).off hK.off (fun _ _ h => h.2.1)).mono (fun b _ h => ⟨fun hf => (hK.sub b hf).elim h.2.1 (fun e => by have := h.1; omega), h.2.2⟩)
theorem KeptG.tin {σ : Type} {I : (Nat → Prop) → World → Value → σ → Prop} {F F' : Nat → Prop} {w w' : World} {v : Value} {s' : σ} (hK : KeptG I F w v F' w' s') {x : Option Addr} {n : Nat} {L : List (Int × List Int)} (h : TIn (fun k => ¬ F k) w x n L) : TIn (fun _ => True) w' x n L := by
  refine ⟨h.1, fun hm => ?_⟩
  obtain ⟨b, o, e, hlt, _, hr⟩ := (h.off hK.off (fun _ _ h => h)).2 hm
  refine ⟨b, o, e, hlt, trivial, fun i hi => ⟨(hr i hi).1, ?_⟩⟩
  obtain ⟨y, c, h1, h2, h3⟩ := (hr i hi).2
  exact ⟨y, c, h1, h2.mono (fun _ _ _ => trivial), h3⟩
/-- New memory of a call on the first is neither's. -/
theorem SIn.newD {σ τ : Type} {I : (Nat → Prop) → World → Value → σ → Prop} {J : (Nat → Prop) → World → Value → τ → Prop} {F F' G : Nat → Prop} {w0 w w' : World} {v u : Value} {s : σ} {t : τ} (hJ : ObjBase J) (M : Duo I J w0 F v s G u t w) {x : Option Addr} {n : Nat} {xs : List Int} (h : SIn (NewOf w F') w' x n xs) : SIn (fun k => ¬ F' k ∧ ¬ G k) w' x n xs :=
  h.mono (fun b _ hb => ⟨hb.2, fun hg => by have := hJ.lt M.two b hg; have := hb.1; omega⟩)
theorem bytes_nil : Bytes [] := fun x hx => by cases hx
theorem splice_len (L : List Int) (off : Nat) (cs : List Int) (h : off + cs.length ≤ L.length) : (splice L off cs).length = L.length := length_splice L off cs h
theorem layW_one (b : List Int) (off : Nat) (xs : List Int) : layW b [(off, xs)] = splice b off xs := rfl
theorem kept_step : ∀ (L : List (Nat × List Int)) (K : List Bool) (k : Nat) (o : Nat × List Int), k < L.length → L.getD k (0, []) = o → keptOf (L.take (k + 1)) K = keptOf (L.take k) K ++ if K.getD k false = true then [o] else []
  | [], _, _, _, h, _ => absurd h (by simp)
  | a :: L, [], k, o, _, _ => by simp [keptOf]
  | a :: L, κ :: K, 0, o, _, h => by
    have : a = o := h
    subst this
    cases κ <;> simp [keptOf]
  | a :: L, κ :: K, k + 1, o, hk, h => by
    have ih := kept_step L K k o (by simpa using hk) h
    have e : ∀ X, keptOf (a :: X) (κ :: K) = (if κ = true then [a] else []) ++ keptOf X K := fun X => by cases κ <;> simp [keptOf]
    rw [List.take_succ_cons, List.take_succ_cons, e, e, ih, List.append_assoc]
    rfl
theorem kept_mem {L : List (Nat × List Int)} {K : List Bool} {o : Nat × List Int} (h : o ∈ keptOf L K) : o ∈ L := by
  unfold keptOf at h
  obtain ⟨x, hx, rfl⟩ := List.mem_map.1 h
  exact (List.of_mem_zip (List.mem_filter.1 hx).1).1
end Go.Proofs.Ytcjmmfgnnebgkaa


/- A statement whose order Go leaves open, walked in the text's order: plain laws on such regions. -/
namespace Go.Proofs.Ytcjmmfgnnebgkaa
open Go.RowKit
set_option maxRecDepth 20000
section
variable {P : Program} {ops : Array Oper} {Q : Exit → Act → World → Prop} {md : Region.Mode} {S S' : World → Prop}

/-- What is asked of every world may be made more on the way. -/
theorem held_more (hS : ∀ w, S' w → S w) : ∀ (fuel : Nat) (listed : Array Bool) (a : Act) (w : World), wpAnyH P md ops Q S' fuel listed a w → wpAnyH P md ops Q S fuel listed a w
  | 0, _, _, _, h => h
  | fuel + 1, _, _, _, h => ⟨h.1, fun i hi => wpOp_mono (fun a' w' h' => ⟨hS _ h'.1, held_more hS fuel _ a' w' h'.2⟩) (h.2 i hi)⟩

variable {fuel : Nat} {listed : Array Bool} {t : List Value} {d : List Deferred} {w : World}

/-- An operation that yields its value in every world that meets S comes up first. -/
theorem takeL (i k : Nat) {oi : Oper} {v : Value} (hi : ops[i]? = some oi) (hd : oi.dst = some k)
    (hs : Region.noSelect ops = true) (hf : Region.free md ops listed i = true) (hr : (Region.ready md ops listed).contains i = true)
    (hQ : ∀ c a w, Q (.panic c) (a.put oi.dst v) w → Q (.panic c) a w) (hw : Region.wanted oi (yielded ops t.toArray) = true) (hS : S w)
    (hy : ∀ w, S w → (execOp (Act.eval ⟨t.toArray, d⟩) oi).run P w = .ok (.value v) w)
    (h : wpAnyH P md ops Q S fuel (listed.setIfInBounds i true) ⟨(t.set k v).toArray, d⟩ w) : wpAnyH P md ops Q S (fuel + 1) listed ⟨t.toArray, d⟩ w := by
  refine wpAnyH_take hi hs hf hr hQ (Or.inl ⟨hw, hy⟩) hS ?_
  have e : Act.put ⟨t.toArray, d⟩ oi.dst v = ⟨(t.set k v).toArray, d⟩ := by simp [hd, Act.put]
  rw [e]
  exact h

theorem eval_slot {x : Nat} {v : Value} (hv : t[x]? = some v) : Act.eval ⟨t.toArray, d⟩ (.tmp x) = v := by
  simp [Act.eval, hv]
/-- A copy of a slot. -/
theorem takeM (i k x : Nat) {oi : Oper} {v : Value} (hi : ops[i]? = some oi) (hd : oi.dst = some k) (ho : oi.op = .move (.tmp x))
    (hs : Region.noSelect ops = true) (hf : Region.free md ops listed i = true) (hr : (Region.ready md ops listed).contains i = true)
    (hQ : ∀ c a w, Q (.panic c) (a.put oi.dst v) w → Q (.panic c) a w) (hw : Region.wanted oi (yielded ops t.toArray) = true) (hS : S w)
    (hv : t[x]? = some v)
    (h : wpAnyH P md ops Q S fuel (listed.setIfInBounds i true) ⟨(t.set k v).toArray, d⟩ w) : wpAnyH P md ops Q S (fuel + 1) listed ⟨t.toArray, d⟩ w :=
  takeL i k hi hd hs hf hr hQ hw hS (fun w _ => by rw [BigFrame.run_move _ ho w, eval_slot hv]) h
theorem takeA (i k x : Nat) {oi : Oper} {v : Value} (hi : ops[i]? = some oi) (hd : oi.dst = some k) (ho : oi.op = .assign (.tmp x))
    (hs : Region.noSelect ops = true) (hf : Region.free md ops listed i = true) (hr : (Region.ready md ops listed).contains i = true)
    (hQ : ∀ c a w, Q (.panic c) (a.put oi.dst v) w → Q (.panic c) a w) (hw : Region.wanted oi (yielded ops t.toArray) = true) (hS : S w)
    (hv : t[x]? = some v)
    (h : wpAnyH P md ops Q S fuel (listed.setIfInBounds i true) ⟨(t.set k v).toArray, d⟩ w) : wpAnyH P md ops Q S (fuel + 1) listed ⟨t.toArray, d⟩ w :=
  takeL i k hi hd hs hf hr hQ hw hS (fun w _ => by rw [BigFrame.run_assign _ ho w, eval_slot hv]) h

/-- An operation that its guard passes over. -/
theorem takeN (i k : Nat) {oi : Oper} (hi : ops[i]? = some oi) (hd : oi.dst = some k)
    (hs : Region.noSelect ops = true) (hf : Region.free md ops listed i = true) (hr : (Region.ready md ops listed).contains i = true)
    (hQ : ∀ c a w, Q (.panic c) (a.put oi.dst undef) w → Q (.panic c) a w) (hw : Region.wanted oi (yielded ops t.toArray) = false) (hS : S w)
    (h : wpAnyH P md ops Q S fuel (listed.setIfInBounds i true) ⟨(t.set k undef).toArray, d⟩ w) : wpAnyH P md ops Q S (fuel + 1) listed ⟨t.toArray, d⟩ w := by
  refine wpAnyH_take hi hs hf hr hQ (Or.inr ⟨hw, rfl⟩) hS ?_
  have e : Act.put ⟨t.toArray, d⟩ oi.dst undef = ⟨(t.set k undef).toArray, d⟩ := by simp [hd, Act.put]
  rw [e]
  exact h

/-- The one operation that may come up now. -/
theorem onlyL (i : Nat) {oi : Oper} (hi : ops[i]? = some oi) (hr : Region.ready md ops listed = [i]) (hw : Region.wanted oi (yielded ops t.toArray) = true)
    (h : ∀ K : Act → World → Prop, Shut (∀ a w, S w → (S w → wpAnyH P md ops Q S fuel (listed.setIfInBounds i true) a w) → K a w) → Oper.wp P oi ⟨t.toArray, d⟩ w K Q) :
    wpAnyH P md ops Q S (fuel + 1) listed ⟨t.toArray, d⟩ w := by
  refine wpAnyH_ready (rs := [i]) hr (by simp) (AllReadyH.cons hi (fun K hK => ?_) AllReadyH.nil)
  rw [if_pos hw]
  exact h K hK

/-- Two operations may come up now. -/
theorem twoL (i j : Nat) {oi oj : Oper} (hi : ops[i]? = some oi) (hj : ops[j]? = some oj) (hr : Region.ready md ops listed = [i, j]) (hwi : Region.wanted oi (yielded ops t.toArray) = true) (hwj : Region.wanted oj (yielded ops t.toArray) = true)
    (h1 : ∀ K : Act → World → Prop, Shut (∀ a w, S w → (S w → wpAnyH P md ops Q S fuel (listed.setIfInBounds i true) a w) → K a w) → Oper.wp P oi ⟨t.toArray, d⟩ w K Q)
    (h2 : ∀ K : Act → World → Prop, Shut (∀ a w, S w → (S w → wpAnyH P md ops Q S fuel (listed.setIfInBounds j true) a w) → K a w) → Oper.wp P oj ⟨t.toArray, d⟩ w K Q) :
    wpAnyH P md ops Q S (fuel + 1) listed ⟨t.toArray, d⟩ w := by
  refine wpAnyH_ready (rs := [i, j]) hr (by simp) (AllReadyH.cons hi (fun K hK => ?_) (AllReadyH.cons hj (fun K hK => ?_) AllReadyH.nil))
  · rw [if_pos hwi]; exact h1 K hK
  · rw [if_pos hwj]; exact h2 K hK
end
end Go.Proofs.Ytcjmmfgnnebgkaa


/- What the laws of the disk share: its calls at a power that is on, without a fuse; block; what is known. -/
namespace Go.Proofs.Ytcjmmfgnnebgkaa
open Go.RowKit
set_option maxRecDepth 20000
variable {PI : (Nat → Prop) → World → Value → PSt → Prop} {DI : Option Addr → (Nat → Prop) → World → Value → DskSt → Prop}

/-- Bytes as a block. -/
def blk (xs : List Int) : List Int := splice zblk 0 xs
theorem blk_len {xs : List Int} (h : xs.length ≤ 32) : (blk xs).length = 32 := by
  rw [blk, splice_len _ _ _ (by simp; omega)]
  simp
theorem blk_bytes {xs : List Int} (h : Bytes xs) : Bytes (blk xs) := by
  intro x hx
  unfold blk splice at hx
  rw [List.take_zero, List.nil_append] at hx
  rcases List.mem_append.1 hx with hx | hx
  · exact h x hx
  · have := List.eq_of_mem_replicate (List.mem_of_mem_drop hx)
    omega
theorem make32 (w : World) : (Instr.makeSlice 33 (.int .i64 32) (.int .i64 32)).run Try.prog w = .ok (.slice (some ⟨w.heap.size, 0, none⟩) 32 32) (w.alloc (.cells (madeCells #[.int .u8 0] 32) 5)) :=
  run_make_row' (P := Try.prog) 33 5 (.int .u8 0) 1 Try.underlying33 Try.info5 rfl .i64 .i64 32 (by decide) (by decide) w
set_option maxHeartbeats 1000000 in
theorem bblock (odd : Bool) (xs : List Int) (x : Option Addr) (n c : Nat) (w : World) (sx : SAt w x n xs) :
    Calls Try.prog 11 #[.slice x n c, .bool odd] w fun e w' => e = .returned (if odd then .slice (some ⟨w.heap.size, 1, none⟩) 31 31 else .slice (some ⟨w.heap.size, 0, none⟩) 32 32) ∧ Row w' w.heap.size (blk (xs.take 32)) ∧ Below w.heap.size w w' := by
  have hmk := make32
  have hR := Row.made w 32
  have hB : Below w.heap.size w (w.alloc (.cells (madeCells #[.int .u8 0] 32) 5)) := by go_grown
  have sx0 := sx.below hB
  go_enter Try.func11, Try.ntmps11
  go_wp2_with (with_reducible show wpList _ _ _ (Oper.mk (some 9) _ _ _ _ _ :: _) _ _; refine (wpList_copyS rfl _ _ rfl w.heap.size 0 32 32 n c x rfl rfl (List.replicate 32 0) xs hR sx0 (by rw [List.length_replicate]; omega) w.heap.size w hB (Nat.le_refl _) ?_))
  intro w1 hR1 hb1
  clear hmk hR hB sx0
  have hs1 := sl_tail (some ⟨w.heap.size, 0, none⟩) 32 32 1 (by decide)
  cases odd
  · go_wp2
    go_ret
    exact ⟨rfl, hR1, hb1⟩
  · go_wp2
    go_ret
    exact ⟨rfl, hR1, hb1⟩
/-- A disk and its power, that is on, and has no fuse. -/
abbrev DDev (PI : (Nat → Prop) → World → Value → PSt → Prop) (DI : Option Addr → (Nat → Prop) → World → Value → DskSt → Prop) (p : Option Addr) (w : World) (F : Nat → Prop) (v : Value) (st : DskSt) (G : Nat → Prop) (k : Nat) (wr : World) : Prop :=
  Duo (DI p) PI w F v st G (.pointer p) (true, none, k) wr
theorem dwrite_at (hO : DskIs PI DI) (p : Option Addr) (F G : Nat → Prop) (v : Value) {w0 : World} {st st' : DskSt} {k : Nat} {ov : Int} (lba c : Nat) (x : Option Addr) (xs : List Int) (hov : (lba : Int) = ov) (hs : st.write lba xs = st') (h : lba < 32) (hn : st.no = false) (hT : st.T.length ≤ 100000) (hk : k ≤ 1000000) (fx : Fit x 32 c) (bx : Bytes xs) (w : World) (M : DDev PI DI p w0 F v st G k w) (hx : SIn (fun k => ¬ F k ∧ ¬ G k) w x 32 xs) :
    Calls Try.prog 12 #[v, .int .i64 ov, .slice x 32 c] w fun e w' => ∃ F' G', e = .returned (.bool true) ∧ KeptD (DI p) PI F G w v (.pointer p) F' G' w' st' (true, none, k + 1) := by
  subst hov hs
  exact hO.write p F G v st (true, none, k) lba c x xs h hn hT hk fx bx w M.one M.two M.dis hx
theorem dbarrier_at (hO : DskIs PI DI) (p : Option Addr) (F G : Nat → Prop) (v : Value) {w0 : World} {st st' : DskSt} {k : Nat} (hs : st.settle = st') (hT : st.T.length ≤ 100000) (hk : k ≤ 1000000) (w : World) (M : DDev PI DI p w0 F v st G k w) :
    Calls Try.prog 14 #[v] w fun e w' => ∃ F' G', e = .returned (.bool true) ∧ KeptD (DI p) PI F G w v (.pointer p) F' G' w' st' (true, none, k + 1) := by
  subst hs
  exact hO.barrier p F G v st (true, none, k) hT hk w M.one M.two M.dis
theorem dread_at (hO : DskIs PI DI) (p : Option Addr) (F G : Nat → Prop) (v : Value) {w0 : World} {st : DskSt} {k : Nat} {ov : Int} (lba : Nat) {ys : List Int} (hov : (lba : Int) = ov) (hy : st.cur lba = ys) (h : lba < 32) (w : World) (M : DDev PI DI p w0 F v st G k w) :
    Calls Try.prog 16 #[v, .int .i64 ov] w fun e w' => ∃ z cz F', e = .returned (.tuple #[.slice z 32 cz, .bool true]) ∧ KeptG (DI p) F w v F' w' st ∧ SIn (NewOf w F') w' z 32 ys ∧ Fit z 32 cz ∧ Soft w w' := by
  subst hov hy
  exact hO.read p F G v st (true, none, k) lba h rfl w M.one M.two M.dis
theorem dcrash_at (hO : DskIs PI DI) (p : Option Addr) (F : Nat → Prop) (v : Value) {st st' : DskSt} (x : Option Addr) (m c : Nat) (K : List Bool) (hs : st.crash K = st') (fx : Fit x m c) (w : World) (hI : DI p F w v st) (hK : KIn (fun k => ¬ F k) w x m K) :
    Calls Try.prog 18 #[v, .slice x m c] w fun e w' => ∃ F', e = .returned (.tuple #[]) ∧ KeptG (DI p) F w v F' w' st' := by
  subst hs
  exact hO.crash p F v st x m c K fx w hI hK
/-- A row that the statement made is neither's. -/
theorem row_sin {w0 w w' : World} {F G : Nat → Prop} {v : Value} {st : DskSt} {k : Nat} {p : Option Addr} (hO : DskIs PI DI) (hP : PowIs PI) (M : DDev PI DI p w0 F v st G k w) {g n : Nat} {cur : List Int} (hg : w.heap.size ≤ g) (h : Row w' g cur) (hn : cur.length = n) : SIn (fun k => ¬ F k ∧ ¬ G k) w' (some ⟨g, 0, none⟩) n cur :=
  ⟨hn, fun _ => ⟨g, 0, rfl, h.lt, ⟨fun hf => by have := (hO.base _).lt M.one g hf; omega, fun hf => by have := hP.base.lt M.two g hf; omega⟩, h.at⟩⟩
set_option maxHeartbeats 2000000 in
theorem dknown (hP : PowIs PI) (hO : DskIs PI DI) (w : World) : Calls Try.prog 28 #[] w fun e w' => e = .returned (.bool true) ∧ Below w.heap.size w w' := by
  have hmk := make32
  go_enter Try.func28, Try.ntmps28
  go_wp2_with fail
  refine (hP.make _).mono ?_
  rintro e w1 ⟨u, G, rfl, hJ, hG, hb⟩
  obtain ⟨p, rfl⟩ := hP.base.ptr hJ
  have M0 : ObjIn PI w G (.pointer (some p)) (true, none, 0) w1 := ⟨hJ, hG, hb⟩
  clear hJ hG hb
  go_wp2_with fail
  refine (hO.make (some p) _).mono ?_
  rintro e w2 ⟨v, F, rfl, hI, hF, hb⟩
  obtain ⟨a, rfl⟩ := (hO.base _).ptr hI
  have M : DDev PI DI (some p) w F (.pointer (some a)) DskSt.new G 0 w2 := (M0.duo hP.base hI hF hb).swap
  clear hI hF hb M0
  go_wp2_with fail
  refine (dread_at hO (some p) F G _ 3 (ys := zblk) rfl rfl (by decide) _ M).mono ?_
  rintro e w3 ⟨z, cz, F3, rfl, hK, sz, -, -⟩
  replace sz := sz.newD hP.base M
  replace M := M.o1 hP.base hK
  clear hK
  go_wp2_with fail
  refine (hO.readNo (some p) F3 G _ _ _ 32 (Or.inl (Or.inr (by decide))) _ M.one M.two M.dis).mono ?_
  rintro e wr ⟨z2, cz2, F4, rfl, hK⟩
  replace sz := hK.sin sz
  replace M := M.o1 hP.base hK
  clear hK
  go_wp2_with fail
  refine wp_region_held_drew (S := fun w' => Below wr.heap.size wr w') (by kernel_rfl) (Below.refl _ _).drew (fun hHeld => ?_)
  refine takeM 0 20 3 rfl rfl rfl (by kernel_rfl) (by kernel_rfl) (by kernel_rfl) (fun _ _ _ h => h) (by rfl) hHeld rfl ?_
  simp only [List.set_cons_succ, List.set_cons_zero]
  refine takeM 1 21 20 rfl rfl rfl (by kernel_rfl) (by kernel_rfl) (by kernel_rfl) (fun _ _ _ h => h) (by rfl) hHeld rfl ?_
  simp only [List.set_cons_succ, List.set_cons_zero]
  refine takeM 2 22 2 rfl rfl rfl (by kernel_rfl) (by kernel_rfl) (by kernel_rfl) (fun _ _ _ h => h) (by rfl) hHeld rfl ?_
  simp only [List.set_cons_succ, List.set_cons_zero]
  refine takeL 3 23 (v := ?_) rfl rfl (by kernel_rfl) (by kernel_rfl) (by kernel_rfl) (fun _ _ _ h => h) (by rfl) hHeld (fun w hSw => ?_) ?_
  rotate_left 1
  · (try dsimp only at hSw)
    have e0_ := fun c => (sz.sat.below hSw).conv (c := c)
    clear hSw
    go_simp
    try with_reducible rfl
  simp only [List.set_cons_succ, List.set_cons_zero]
  refine onlyL 4 rfl (by kernel_rfl) (by rfl) (fun K hK0 => ?_)
  go_wp2_with fail
  have hRw : Row (wr.alloc (.cells (madeCells #[.int .u8 0] 32) 5)).drew wr.heap.size (List.replicate 32 0) := Row.made wr 32
  have hbn : Below wr.heap.size wr (wr.alloc (.cells (madeCells #[.int .u8 0] 32) 5)).drew := ((Below.refl _ _).alloc (Nat.le_refl _) _).drew
  refine hK0.out _ _ hbn (fun _ => ?_)
  clear hK0 K
  replace M := M.quiet (hO.base _) hP.base hbn
  generalize (wr.alloc (.cells (madeCells #[.int .u8 0] 32) 5)).drew = wn at *
  refine held_more (S' := fun w' => Below wn.heap.size wn w') (fun _ h => hbn.trans (h.mono hbn.size)) _ _ _ _ ?_
  clear hHeld hbn
  have hHeld := Below.refl wn.heap.size wn
  refine takeL 5 25 (v := ?_) rfl rfl (by kernel_rfl) (by kernel_rfl) (by kernel_rfl) (fun _ _ _ h => h) (by rfl) hHeld (fun w hSw => ?_) ?_
  rotate_left 1
  · (try dsimp only at hSw)
    have e0_ := fun c => ((hRw.sat (n := 32) (by simp)).below hSw).conv (c := c)
    clear hSw
    go_simp
    try with_reducible rfl
  simp only [List.set_cons_succ, List.set_cons_zero]
  refine takeL 6 26 (v := .bool true) rfl rfl (by kernel_rfl) (by kernel_rfl) (by kernel_rfl) (fun _ _ _ h => h) (by rfl) hHeld (fun w hSw => ?_) ?_
  · (try dsimp only at hSw)
    clear hSw
    go_simp
    rfl
  simp only [List.set_cons_succ, List.set_cons_zero]
  refine takeL 7 27 (v := ?_) rfl rfl (by kernel_rfl) (by kernel_rfl) (by kernel_rfl) (fun _ _ _ h => h) (by rfl) hHeld (fun w hSw => ?_) ?_
  rotate_left 1
  · (try dsimp only at hSw)
    clear hSw
    go_simp
    try with_reducible rfl
  simp only [List.set_cons_succ, List.set_cons_zero]
  refine takeM 8 28 27 rfl rfl rfl (by kernel_rfl) (by kernel_rfl) (by kernel_rfl) (fun _ _ _ h => h) (by rfl) hHeld rfl ?_
  simp only [List.set_cons_succ, List.set_cons_zero]
  refine takeM 9 29 5 rfl rfl rfl (by kernel_rfl) (by kernel_rfl) (by kernel_rfl) (fun _ _ _ h => h) (by rfl) hHeld rfl ?_
  simp only [List.set_cons_succ, List.set_cons_zero]
  refine takeL 10 30 (v := ?_) rfl rfl (by kernel_rfl) (by kernel_rfl) (by kernel_rfl) (fun _ _ _ h => h) (by rfl) hHeld (fun w hSw => ?_) ?_
  rotate_left 1
  · (try dsimp only at hSw)
    clear hSw
    go_simp
    try with_reducible rfl
  simp only [List.set_cons_succ, List.set_cons_zero]
  refine takeL 11 31 (v := ?_) rfl rfl (by kernel_rfl) (by kernel_rfl) (by kernel_rfl) (fun _ _ _ h => h) (by rfl) hHeld (fun w hSw => ?_) ?_
  rotate_left 1
  · (try dsimp only at hSw)
    clear hSw
    go_simp
    try with_reducible rfl
  simp only [List.set_cons_succ, List.set_cons_zero]
  refine takeA 12 0 31 rfl rfl rfl (by kernel_rfl) (by kernel_rfl) (by kernel_rfl) (fun _ _ _ h => h) (by rfl) hHeld rfl ?_
  simp only [List.set_cons_zero]
  refine wpAnyH_done (by kernel_rfl) ?_ _
  go_wp2
  go_ret
  exact ⟨rfl, M.hB⟩
end Go.Proofs.Ytcjmmfgnnebgkaa
