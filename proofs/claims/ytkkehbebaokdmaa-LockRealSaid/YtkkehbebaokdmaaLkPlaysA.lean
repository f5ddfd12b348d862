/- LockPlays: two locks, apart from each other; what was sealed last; the acts. -/
import Derived.Test.YtkkehbebaokdmaaM12
import Derived.Test.YtkkehbebaokdmaaM14
namespace Go.Proofs.Ytkkehbebaokdmaa
open Go.RowKit
set_option maxRecDepth 20000

structure LActP where
  kind : Int
  key : BitVec 64 × BitVec 64
  non : Nn
  data : List Int
  by_ : BitVec 64
instance : Inhabited LActP := ⟨⟨0, (0#64, 0#64), (0#32, 0#32, 0#64), [], 0#64⟩⟩
/-- An act, cell by cell. -/
def lactC (a : LActP) (d : Option Addr) (dc : Nat) : List Value := [.int .i64 a.kind, .int .u64 (nv a.key.1), .int .u64 (nv a.key.2), .int .u32 (nv32 a.non.1), .int .u32 (nv32 a.non.2.1), .int .u64 (nv a.non.2.2), .slice d a.data.length dc, .int .u64 (nv a.by_)]
def LActR (w : World) (cs : List Value) (a : LActP) : Prop := ∃ d dc, cs = lactC a d dc ∧ Bytes a.data ∧ SAt w d a.data.length a.data ∧ Fit d a.data.length dc
variable {Inv : (Nat → Prop) → World → Value → LSt → Prop}
/-- The program's, and the document's, each in memory of its own. -/
structure QSt (Inv : (Nat → Prop) → World → Value → LSt → Prop) (w : World) (a1 : Addr) (bx : Nat) (F G : Nat → Prop) (st st2 : LSt) (wr : World) : Prop where
  inv : Inv F wr (.pointer (some a1)) st
  rin : RLInv G wr bx st2
  dis : ∀ k, F k → ¬ G k
  hF : ∀ k, F k → w.heap.size ≤ k
  hG : ∀ k, G k → w.heap.size ≤ k
  hB : Below w.heap.size w wr
/-- What was sealed last: a box of its own, bytes in a block of bytes that is none of the program's. -/
structure Lst (w : World) (F G : Nat → Prop) (bl : Nat) (z : Option Addr) (n cz : Nat) (t : BitVec 64 × BitVec 64) (bs : List Int) (wr : World) : Prop where
  box : SBox wr bl (.slice z n cz) (nv t.1) (nv t.2)
  nF : ¬ F bl
  nG : ¬ G bl
  ge : w.heap.size ≤ bl
  sin : SIn (fun k => ¬ F k) wr z n bs
  typ : Typ8 w.heap.size wr z n
  byt : Bytes bs
  fit : Fit z n cz
  le : n ≤ 100
section
variable {w : World} {a1 : Addr} {bx : Nat} {F G : Nat → Prop} {st st2 : LSt} {wr wr' : World} {bl : Nat} {z : Option Addr} {n cz : Nat} {t : BitVec 64 × BitVec 64} {bs : List Int}
theorem QSt.o (h : QSt Inv w a1 bx F G st st2 wr) {F' : Nat → Prop} {st' : LSt} (hK : KeptL Inv F wr (.pointer (some a1)) F' wr' st') : QSt Inv w a1 bx F' G st' st2 wr' :=
  ⟨hK.inv, h.rin.off hK.off (fun k _ hg hf => h.dis k hf hg), fun k hk hg => (hK.sub k hk).elim (fun hf => h.dis k hf hg) (fun e => by have := h.rin.lt k hg; omega), fun k hk => (hK.sub k hk).elim (h.hF k) (fun e => Nat.le_trans h.hB.size e), h.hG, h.hB.trans (hK.off.below h.hF h.hB.size)⟩
theorem QSt.x (hO : LockIs Inv) (h : QSt Inv w a1 bx F G st st2 wr) {G' : Nat → Prop} {st' : LSt} (hR : RLInv G' wr' bx st') (hsub : ∀ k, G' k → G k ∨ wr.heap.size ≤ k) (hoff : Off G wr wr') : QSt Inv w a1 bx F G' st st' wr' :=
  ⟨hO.keep h.inv hoff (fun k hf hg => h.dis k hf hg), hR, fun k hf hk => (hsub k hk).elim (h.dis k hf) (fun e => by have := hO.lt h.inv k hf; omega), h.hF, fun k hk => (hsub k hk).elim (h.hG k) (fun e => Nat.le_trans h.hB.size e), h.hB.trans (hoff.below h.hG h.hB.size)⟩
theorem QSt.off (hO : LockIs Inv) (h : QSt Inv w a1 bx F G st st2 wr) {H : Nat → Prop} (hoff : Off H wr wr') (h1 : ∀ k, F k → ¬ H k) (h2 : ∀ k, G k → ¬ H k) (h3 : ∀ k, H k → w.heap.size ≤ k) : QSt Inv w a1 bx F G st st2 wr' :=
  ⟨hO.keep h.inv hoff h1, h.rin.off hoff (fun k _ hg => h2 k hg), h.dis, h.hF, h.hG, h.hB.trans (hoff.below h3 h.hB.size)⟩
theorem QSt.one (hO : LockIs Inv) (h : QSt Inv w a1 bx F G st st2 wr) {b : Nat} (hoff : Off (fun k => k = b) wr wr') (hb : ¬ F b ∧ ¬ G b ∧ w.heap.size ≤ b) : QSt Inv w a1 bx F G st st2 wr' :=
  h.off hO hoff (fun _ hf e => hb.1 (e ▸ hf)) (fun _ hg e => hb.2.1 (e ▸ hg)) (fun _ e => e ▸ hb.2.2)
theorem QSt.quiet (hO : LockIs Inv) (h : QSt Inv w a1 bx F G st st2 wr) (hb : Below wr.heap.size wr wr') : QSt Inv w a1 bx F G st st2 wr' :=
  h.off hO (Off.of_below (F := fun _ => False) hb) (fun _ _ h => h) (fun _ _ h => h) (fun _ h => h.elim)
theorem QSt.newF (hO : LockIs Inv) (h : QSt Inv w a1 bx F G st st2 wr) : ¬ F wr.heap.size ∧ ¬ G wr.heap.size ∧ w.heap.size ≤ wr.heap.size := ⟨fun e => Nat.lt_irrefl _ (hO.lt h.inv _ e), fun e => Nat.lt_irrefl _ (h.rin.lt _ e), h.hB.size⟩
/-- What came in is neither's. -/
theorem QSt.inF (h : QSt Inv w a1 bx F G st st2 wr) {x : Option Addr} {n : Nat} {ys : List Int} (hs : SAt w x n ys) : SIn (fun k => ¬ F k) wr x n ys :=
  (hs.inn.off (Off.of_below (F := fun _ => False) (h.hB)) (fun _ _ _ h => h)).mono (fun k _ hk hf => by have := h.hF k hf; omega)
theorem QSt.inG (h : QSt Inv w a1 bx F G st st2 wr) {x : Option Addr} {n : Nat} {ys : List Int} (hs : SAt w x n ys) : SIn (fun k => ¬ G k) wr x n ys :=
  (hs.inn.off (Off.of_below (F := fun _ => False) (h.hB)) (fun _ _ _ h => h)).mono (fun k _ hk hf => by have := h.hG k hf; omega)
theorem Typ8.off {B : Nat} {H : Nat → Prop} (h : Typ8 B wr z n) (hs : SIn (fun k => ¬ H k) wr z n bs) (hoff : Off H wr wr') : Typ8 B wr' z n := fun hn => by
  obtain ⟨g, o, cur, fr, e, hB, hg⟩ := h hn
  obtain ⟨b, o', e', hlt, hG, hat⟩ := hs.2 hn
  rw [e] at e'
  obtain ⟨rfl, rfl⟩ : g = b ∧ o = o' := by simpa using e'
  exact ⟨g, o, cur, fr, e, hB, off_block hg hoff hG⟩
theorem Lst.o (h : Lst w F G bl z n cz t bs wr) {F' : Nat → Prop} {v : Value} {st' : LSt} (hK : KeptL Inv F wr v F' wr' st') : Lst w F' G bl z n cz t bs wr' :=
  ⟨off_block h.box hK.off h.nF, fun e => (hK.sub _ e).elim h.nF (fun e => by have := h.box.lt; omega), h.nG, h.ge, hK.sin h.sin, h.typ.off h.sin hK.off, h.byt, h.fit, h.le⟩
theorem Lst.x (h : Lst w F G bl z n cz t bs wr) {G' : Nat → Prop} (hsub : ∀ k, G' k → G k ∨ wr.heap.size ≤ k) (hoff : Off G wr wr') (hU : U8 wr wr') : Lst w F G' bl z n cz t bs wr' :=
  ⟨off_block h.box hoff h.nG, h.nF, fun e => (hsub _ e).elim h.nG (fun e => by have := h.box.lt; omega), h.ge, h.typ.sin h.sin hU hoff.size, h.typ.stay hU, h.byt, h.fit, h.le⟩
theorem Lst.one (h : Lst w F G bl z n cz t bs wr) {b : Nat} (hoff : Off (fun k => k = b) wr wr') (hne : b ≠ bl) (hU : U8 wr wr') : Lst w F G bl z n cz t bs wr' :=
  ⟨off_block h.box hoff (fun e => hne e.symm), h.nF, h.nG, h.ge, h.typ.sin h.sin hU hoff.size, h.typ.stay hU, h.byt, h.fit, h.le⟩
theorem Lst.quiet (h : Lst w F G bl z n cz t bs wr) (hb : Below wr.heap.size wr wr') : Lst w F G bl z n cz t bs wr' :=
  ⟨h.box.grown hb, h.nF, h.nG, h.ge, h.sin.off (Off.of_below (F := fun _ => False) hb) (fun _ _ _ h => h), h.typ.stay (U8.of_below hb), h.byt, h.fit, h.le⟩
end
theorem share {A B C D E : Type} {Cond P : A → B → C → D → E → Prop} {X : Prop} (h1 : (∀ a b c d e, Cond a b c d e → P a b c d e) → X) (h2 : ∀ a b c d e, Cond a b c d e → P a b c d e) : X := h1 h2
theorem rlseal_at (G : Nat → Prop) (b : Nat) (st : LSt) (key : BitVec 64 × BitVec 64) (nn : Nn) {k1 k2 n1 n2 n3 : Int} (hk1 : nv key.1 = k1) (hk2 : nv key.2 = k2) (hn1 : nv32 nn.1 = n1) (hn2 : nv32 nn.2.1 = n2) (hn3 : nv nn.2.2 = n3) (xs ys : List Int) (x y : Option Addr) (nx ny c d : Nat) {t : BitVec 64 × BitVec 64} (ht : st.sealT key nn xs ys = t) {bs : List Int} (hbs : st.sealB key nn ys = bs) {st' : LSt} (hst : st.sealS ⟨key, nn, xs, ys⟩ = st') (hnx : nx ≤ 4000) (hny : ny ≤ 4000) (hL : st.iss.length ≤ 10000) (bx : Bytes xs) (by_ : Bytes ys) (fx : Fit x nx c) (fy : Fit y ny d) (w : World) (hI : RLInv G w b st) (sx : SIn (fun k => ¬ G k) w x nx xs) (sy : SIn (fun k => ¬ G k) w y ny ys) :
    Calls Try.prog 11 #[.pointer (some ⟨b, 0, none⟩), .agg #[.int .u64 k1, .int .u64 k2], .agg #[.int .u32 n1, .int .u32 n2, .int .u64 n3], .slice x nx c, .slice y ny d] w fun e w' => ∃ z cz G', e = .returned (.tuple #[.agg #[.slice z ny cz, .int .u64 (nv t.1), .int .u64 (nv t.2)], .bool true]) ∧ RLInv G' w' b st' ∧ (∀ k, G' k → G k ∨ w.heap.size ≤ k) ∧ Off G w w' ∧ SAt w' z ny bs ∧ Fit z ny cz ∧ U8 w w' ∧ Typ8 w.heap.size w' z ny := by
  subst hk1 hk2 hn1 hn2 hn3 ht hbs hst
  exact rlseal G b st key nn xs ys x y nx ny c d hnx hny hL bx by_ fx fy w hI sx sy
theorem lseal_as (hO : LockIs Inv) (F : Nat → Prop) (v : Value) (st : LSt) (key : BitVec 64 × BitVec 64) (nn : Nn) {k1 k2 n1 n2 n3 : Int} (hk1 : nv key.1 = k1) (hk2 : nv key.2 = k2) (hn1 : nv32 nn.1 = n1) (hn2 : nv32 nn.2.1 = n2) (hn3 : nv nn.2.2 = n3) (xs ys : List Int) (x y : Option Addr) (nx ny c d : Nat) {t : BitVec 64 × BitVec 64} (ht : st.sealT key nn xs ys = t) {bs : List Int} (hbs : st.sealB key nn ys = bs) {st' : LSt} (hst : st.sealS ⟨key, nn, xs, ys⟩ = st') (hnx : nx ≤ 4000) (hny : ny ≤ 4000) (hL : st.iss.length ≤ 10000) (bx : Bytes xs) (by_ : Bytes ys) (fx : Fit x nx c) (fy : Fit y ny d) (w : World) (hI : Inv F w v st) (sx : SIn (fun k => ¬ F k) w x nx xs) (sy : SIn (fun k => ¬ F k) w y ny ys) :
    Calls Try.prog 10 #[v, .agg #[.int .u64 k1, .int .u64 k2], .agg #[.int .u32 n1, .int .u32 n2, .int .u64 n3], .slice x nx c, .slice y ny d] w fun e w' => ∃ z cz F', e = .returned (.tuple #[.agg #[.slice z ny cz, .int .u64 (nv t.1), .int .u64 (nv t.2)], .bool true]) ∧ KeptL Inv F w v F' w' st' ∧ SIn (fun k => ¬ F' k ∧ (st.ideal = true → w.heap.size ≤ k)) w' z ny bs ∧ Fit z ny cz := by
  subst hk1 hk2 hn1 hn2 hn3 ht hbs hst
  exact hO.seal_ F v st key nn xs ys x y nx ny c d hnx hny hL bx by_ fx fy w hI sx sy
theorem rlopen_at (G : Nat → Prop) (b : Nat) (st : LSt) (q : Ask) {k1 k2 n1 n2 n3 t1 t2 : Int} (hk1 : nv q.key.1 = k1) (hk2 : nv q.key.2 = k2) (hn1 : nv32 q.non.1 = n1) (hn2 : nv32 q.non.2.1 = n2) (hn3 : nv q.non.2.2 = n3) (ht1 : nv q.tag.1 = t1) (ht2 : nv q.tag.2 = t2) {hs bs : List Int} (hhs : q.head = hs) (hbs : q.bytes = bs) {r : Option (List Int)} (hr : st.opens q = r) {l : Nat} (hl : (r.getD []).length = l) {s : Bool} (hs_ : r.isSome = s) (x y : Option Addr) (n m c d : Nat) (hnx : n ≤ 4000) (hny : m ≤ 4000) (hL : st.iss.length ≤ 10000) (bx : Bytes hs) (by_ : Bytes bs) (fx : Fit x n c) (fy : Fit y m d) (w : World) (hI : RLInv G w b st) (sx : SAt w x n hs) (sy : SAt w y m bs) :
    Calls Try.prog 14 #[.pointer (some ⟨b, 0, none⟩), .agg #[.int .u64 k1, .int .u64 k2], .agg #[.int .u32 n1, .int .u32 n2, .int .u64 n3], .slice x n c, .agg #[.slice y m d, .int .u64 t1, .int .u64 t2]] w fun e w' => ∃ z cz, e = .returned (.tuple #[.slice z l cz, .bool s]) ∧ SAt w' z l (r.getD []) ∧ Below w.heap.size w w' := by
  subst hk1 hk2 hn1 hn2 hn3 ht1 ht2 hhs hbs hr hl hs_
  exact rlopen G b st q x y n m c d hnx hny hL bx by_ fx fy w hI sx sy
theorem sealS_len (st : LSt) (e : Iss) : (st.sealS e).iss.length ≤ st.iss.length + 1 ∧ (st.sealS e).sums = st.sums := by
  unfold LSt.sealS
  split
  · simp
  · exact ⟨Nat.le_succ _, rfl⟩
theorem sumS_len (st : LSt) (zs : List Int) : (st.sumS zs).sums.length ≤ st.sums.length + 1 ∧ (st.sumS zs).iss = st.iss := by
  unfold LSt.sumS
  split
  · refine ⟨?_, rfl⟩
    dsimp only
    unfold sumSt
    split
    · exact Nat.le_succ _
    · simp
  · exact ⟨Nat.le_succ _, rfl⟩
theorem rlsum_at (G : Nat → Prop) (b : Nat) (st : LSt) (xs : List Int) {v1 v2 : Int} (hv : st.sumV xs = (v1, v2)) {st' : LSt} (hs : st.sumS xs = st') (x : Option Addr) (n c : Nat) (hn : n ≤ 50000) (hS : st.sums.length ≤ 50000) (bx : Bytes xs) (fx : Fit x n c) (w : World) (hI : RLInv G w b st) (sx : SIn (fun k => ¬ G k) w x n xs) :
    Calls Try.prog 16 #[.pointer (some ⟨b, 0, none⟩), .slice x n c] w fun e w' => e = .returned (.agg #[.int .u64 v1, .int .u64 v2]) ∧ ∃ G', RLInv G' w' b st' ∧ (∀ k, G' k → G k ∨ w.heap.size ≤ k) ∧ Off G w w' ∧ U8 w w' := by
  subst hs
  have h := rlsum G b st xs x n c hn hS bx fx w hI sx
  rw [hv] at h
  exact h
/-- What the program sealed lies in neither's memory. -/
theorem QSt.sz {w : World} {a1 : Addr} {bx : Nat} {F G : Nat → Prop} {st : LSt} {wr wr' : World} (h : QSt Inv w a1 bx F G st st wr) {F' : Nat → Prop} {st' : LSt} (hK : KeptL Inv F wr (.pointer (some a1)) F' wr' st') {z : Option Addr} {n : Nat} {bs : List Int} (hs : SIn (fun k => ¬ F' k ∧ (st.ideal = true → wr.heap.size ≤ k)) wr' z n bs) : SIn (fun k => ¬ F' k ∧ ¬ G k) wr' z n bs := by
  have hr := h.rin
  have hr' := (h.o hK).rin
  refine ⟨hs.1, fun hn => ?_⟩
  obtain ⟨g, o, e, hlt, hg, hat⟩ := hs.2 hn
  refine ⟨g, o, e, hlt, ⟨hg.1, fun hG => ?_⟩, hat⟩
  rcases hr' with ⟨h1, h2, h3⟩ | ⟨h1, _⟩
  · obtain rfl := (h3 g).1 hG
    have h4 := hat 0 (by have := hs.1; omega)
    unfold LBox at h2
    cases o with
    | zero => simp [World.cell?, h2] at h4
    | succ o => simp [World.cell?, h2] at h4
  · have := hg.2 h1
    have := hr.lt g hG
    omega
theorem typ8_new {B : Nat} {F : Nat → Prop} {w : World} {z : Option Addr} {n : Nat} {bs : List Int} (h : Typ8 B w z n) (hs : SAt w z n bs) (hF : ∀ k, F k → k < B) : SIn (fun k => ¬ F k) w z n bs :=
  ⟨hs.1, fun hn => by
    obtain ⟨g, o, cur, fr, e, hB, hg⟩ := h hn
    obtain ⟨b, o', e', hlt, hat⟩ := hs.2 hn
    rw [e] at e'
    obtain ⟨rfl, rfl⟩ : g = b ∧ o = o' := by simpa using e'
    exact ⟨g, o, e, hlt, fun hf => by have := hF g hf; omega, hat⟩⟩
end Go.Proofs.Ytkkehbebaokdmaa
