/- OImM Cat OImS OImT: texts laid together. -/
import Derived.Test.YtkkehbebaokdmaaM12
import Derived.Maps.OwnSet
import Derived.Test.YtkkehbebaokdmaaM09
import Derived.Lib.AppendZeros
import Derived.WalkSpells

/- The program's ideal sealer in memory: its records, its sums. -/
namespace Go.Proofs.Ytkkehbebaokdmaa
open Go.RowKit Go.Maps
set_option maxRecDepth 20000

/-- These blocks are as they were. -/
structure Eqs (G : Nat → Prop) (w w' : World) : Prop where
  size : w.heap.size ≤ w'.heap.size
  block : ∀ k, k < w.heap.size → G k → w'.heap[k]? = w.heap[k]?
theorem Eqs.of_off {F G : Nat → Prop} {w w' : World} (h : Off F w w') (hd : ∀ k, k < w.heap.size → G k → ¬ F k) : Eqs G w w' := ⟨h.size, fun k hk hg => h.block k hk (hd k hk hg)⟩
theorem Eqs.mono {G G' : Nat → Prop} {w w' : World} (h : Eqs G w w') (hd : ∀ k, G' k → G k) : Eqs G' w w' := ⟨h.size, fun k hk hg => h.block k hk (hd k hg)⟩
theorem SIn.eqs {G : Nat → Prop} {w w' : World} {x : Option Addr} {l : Nat} {ys : List Int} (h : SIn G w x l ys) (hb : Eqs G w w') : SIn G w' x l ys :=
  ⟨h.1, fun hl => by
    obtain ⟨b, o, e, hlt, hg, ha⟩ := h.2 hl
    exact ⟨b, o, e, Nat.lt_of_lt_of_le hlt hb.size, hg, fun i hi => (World.cell?_of_block (w := w) (hb.block b hlt hg)).trans (ha i hi)⟩⟩
theorem own_eqs {G : Nat → Prop} {w w' : World} {base e size n : Nat} {v : Value} {xs : List Value} (h : w.ownsRow base e size v n xs) (hb : Eqs G w w') (hn : ∀ k, v.ownBlock = some k → G k) : w'.ownsRow base e size v n xs := by
  obtain ⟨h1, h2 | ⟨g, cap, cur, rfl, hg, hh, rest⟩⟩ := h
  · exact ⟨h1, Or.inl h2⟩
  · have hlt := (Array.getElem?_eq_some_iff.1 hh).1
    exact ⟨h1, Or.inr ⟨g, cap, cur, rfl, hg, (hb.block g hlt (hn g rfl)).trans hh, rest⟩⟩

/-- A record, cell by cell. -/
def recC (x : Iss) (c : SlC) : List Value := [.int .u64 (nv x.key.1), .int .u64 (nv x.key.2), .int .u32 (nv32 x.non.1), .int .u32 (nv32 x.non.2.1), .int .u64 (nv x.non.2.2), .slice c.h x.head.length c.hc, .slice c.d x.data.length c.dc]
theorem recC_length (x : Iss) (c : SlC) : (recC x c).length = 7 := rfl
structure RecIn (G : Nat → Prop) (w : World) (x : Iss) (c : SlC) : Prop where
  hs : SIn G w c.h x.head.length x.head
  hl : x.head.length ≤ c.hc ∧ c.hc ≤ maxLen ∧ (c.h = none → x.head.length = 0 ∧ c.hc = 0)
  hb : Bytes x.head
  hm : x.head.length ≤ 4000
  ds : SIn G w c.d x.data.length x.data
  dl : x.data.length ≤ c.dc ∧ c.dc ≤ maxLen ∧ (c.d = none → x.data.length = 0 ∧ c.dc = 0)
  db : Bytes x.data
  dm : x.data.length ≤ 4000
theorem RecIn.eqs {G : Nat → Prop} {w w' : World} {x : Iss} {c : SlC} (h : RecIn G w x c) (hb : Eqs G w w') : RecIn G w' x c :=
  ⟨h.hs.eqs hb, h.hl, h.hb, h.hm, h.ds.eqs hb, h.dl, h.db, h.dm⟩
theorem RecIn.mono {G G' : Nat → Prop} {w : World} {x : Iss} {c : SlC} (h : RecIn G w x c) (hd : ∀ b, b < w.heap.size → G b → G' b) : RecIn G' w x c :=
  ⟨h.hs.mono hd, h.hl, h.hb, h.hm, h.ds.mono hd, h.dl, h.db, h.dm⟩
/-- A row of records: its block, and others, in which its slices stand. -/
def RcRow (G : Nat → Prop) (w : World) (v : Value) (L : List Iss) : Prop := ∃ C : Nat → SlC, w.ownsRow 0 84 7 v L.length (flatG (fun i => recC (L.getD i default) (C i)) L.length) ∧ (∀ k, v.ownBlock = some k → G k) ∧ ∀ i, i < L.length → RecIn (fun k => G k ∧ v.ownBlock ≠ some k) w (L.getD i default) (C i)
theorem RcRow.eqs {G : Nat → Prop} {w w' : World} {v : Value} {L : List Iss} (h : RcRow G w v L) (hb : Eqs G w w') : RcRow G w' v L := by
  obtain ⟨C, h1, h2, h3⟩ := h
  exact ⟨C, own_eqs h1 hb h2, h2, fun i hi => (h3 i hi).eqs (hb.mono (fun k hk => hk.1))⟩
theorem rec_cells {G : Nat → Prop} {w : World} {v : Value} {L : List Iss} (h : RcRow G w v L) (i : Nat) (hi : i < L.length) : ∃ g cap c, v = .slice (some ⟨g, 0, none⟩) L.length cap ∧ L.length ≤ cap ∧ g < w.heap.size ∧ G g ∧ RecIn (fun k => G k ∧ v.ownBlock ≠ some k) w (L.getD i default) c ∧ ∀ j u, (recC (L.getD i default) c)[j]? = some u → w.cell? ⟨g, i * 7 + j, none⟩ = some u := by
  obtain ⟨C, h1, h2, h3⟩ := h
  have hget : ∀ j, j < 7 → (flatG (fun i => recC (L.getD i default) (C i)) L.length)[i * 7 + j]? = (recC (L.getD i default) (C i))[j]? := fun j hj => flatG_get (s := 7) (fun i => recC_length _ _) L.length i j hi hj
  obtain ⟨g, cap, rfl, hnc, hgl, _⟩ := own_cell h1 ((hget 0 (by decide)).trans rfl)
  refine ⟨g, cap, C i, rfl, hnc, hgl, h2 g rfl, h3 i hi, fun j u hj => ?_⟩
  have hj7 : j < 7 := by
    rcases Nat.lt_or_ge j 7 with h | h
    · exact h
    · rw [List.getElem?_eq_none (by rw [recC_length]; exact h)] at hj
      cases hj
  obtain ⟨g', cap', e, _, _, hc⟩ := own_cell h1 ((hget j hj7).trans hj)
  simp only [Value.slice.injEq, Option.some.injEq, Addr.mk.injEq] at e
  rw [e.1.1]
  exact hc

/-- What bytes are as a key. -/
def keyS (p : List Int) : Lit := .string (strOfNums p).data.toList
theorem keyS_inj {p q : List Int} (hp : Bytes p) (hq : Bytes q) (h : keyS p = keyS q) : p = q := by
  unfold keyS at h
  injection h with h
  exact map_byt_inj p q hp hq h
theorem Try.underlyingStr : Try.prog.underlying 9 = some .string := by kernel_rfl
theorem Try.underlyingU64 : Try.prog.underlying 28 = some (.int .u64) := by kernel_rfl
theorem Try.underlyingSums : Try.prog.underlying 77 = some (.map 9 28) := by kernel_rfl
theorem lawS : Keyed Try.prog 9 := string_keyed Try.underlyingStr
theorem zeroU (w : World) : (zeroValue 28).run Try.prog w = .ok (.int .u64 0) w := by kernel_rfl
theorem keyS_mk {p : List Int} (h : p.length ≤ 50000) : keyOf Try.prog 9 (.string (strOfNums p)) = some (keyS p) :=
  WideMaps.keyOf_string_mk Try.underlyingStr (by rw [strOfNums_size]; unfold maxLen; omega)
/-- The map of sums, plain. -/
structure SumD (S : List (List Int)) (D : DataW Unit) : Prop where
  has : ∀ p, Bytes p → Maps.has D (keyS p) = decide (p ∈ S)
  val : ∀ p, p ∈ S → D.atKey (keyS p) (.lit (.int .u64 0)) = .lit (.int .u64 (sumIx S p : Nat))
  len : Maps.size D = S.length
  byt : ∀ p, p ∈ S → Bytes p
theorem SumD.nil : SumD [] (.map []) := ⟨fun p _ => by simp [Maps.has_eq], fun p hp => by simp at hp, rfl, fun p hp => by simp at hp⟩
theorem SumD.put {S : List (List Int)} {D : DataW Unit} (h : SumD S D) (hT : Tidy D) {p : List Int} (hp : p ∉ S) (bp : Bytes p) : SumD (S ++ [p]) (D.put (keyS p) (.lit (.int .u64 ((S.length : Int) + 1)))) := by
  have hnew : sumIx (S ++ [p]) p = S.length + 1 := by
    unfold sumIx
    rw [List.idxOf_append, if_neg hp]
    simp
  have hold : ∀ q, q ∈ S → sumIx (S ++ [p]) q = sumIx S q := fun q hq => by
    unfold sumIx
    rw [List.idxOf_append, if_pos hq]
  refine ⟨fun q bq => ?_, fun q hq => ?_, ?_, fun q hq => ?_⟩
  · by_cases e : q = p
    · subst e
      rw [has_put_same hT.isMap (show WideAt.IsKeyLit (keyS q) from trivial)]
      simp
    · rw [has_put_other (fun h' => e (keyS_inj bq bp h')), h.has q bq]
      simp [e]
  · by_cases e : q = p
    · subst e
      rw [atKey_put_same hT.isMap (show WideAt.IsKeyLit (keyS q) from trivial), hnew]
      rfl
    · have hq' : q ∈ S := by simpa [e] using hq
      rw [atKey_put_other (fun h' => e (keyS_inj (h.byt q hq') bp h')), h.val q hq', hold q hq']
  · rw [size_put hT, h.has p bp]
    simp [hp, h.len]
  · by_cases e : q = p
    · exact e ▸ bp
    · exact h.byt q (by simpa [e] using hq)
/-- The field sums. -/
def MRow (G : Nat → Prop) (w : World) (v : Value) (S : List (List Int)) : Prop := (v = .map none ∧ S = []) ∨ ∃ mb D, v = .map (some mb) ∧ G mb ∧ w.ownsMap Try.prog 9 (plainElem (H := Unit) Try.prog 28) mb S.length D ∧ SumD S D
theorem map_eqs {G : Nat → Prop} {w w' : World} {k b n : Nat} {R : Value → Option (DataW Unit × List MemPlace)} {D : DataW Unit} (h : w.ownsMap Try.prog k R b n D) (hb : Eqs G w w') (hG : G b) : w'.ownsMap Try.prog k R b n D := by
  have hlt := h.lt
  obtain ⟨es, clock, hh, rest⟩ := h
  exact ⟨es, clock, (hb.block b hlt hG).trans hh, rest⟩
theorem MRow.eqs {G : Nat → Prop} {w w' : World} {v : Value} {S : List (List Int)} (h : MRow G w v S) (hb : Eqs G w w') : MRow G w' v S := by
  rcases h with h | ⟨mb, D, h1, h2, h3, h4⟩
  · exact Or.inl h
  · exact Or.inr ⟨mb, D, h1, h2, map_eqs h3 hb h2, h4⟩

def PBox (w : World) (b : Nat) (u v : Value) : Prop := w.heap[b]? = some (.cells #[u, v] 79 (0, 0))
theorem PBox.c0 {w : World} {b : Nat} {u v : Value} (h : PBox w b u v) : w.cell? ⟨b, 0, none⟩ = some u := by unfold PBox at h; simp [World.cell?, h]
theorem PBox.c1 {w : World} {b : Nat} {u v : Value} (h : PBox w b u v) : w.cell? ⟨b, 1, none⟩ = some v := by unfold PBox at h; simp [World.cell?, h]
theorem PBox.frozen {w : World} {b : Nat} {u v : Value} (h : PBox w b u v) (i : Nat) : w.frozen? ⟨b, i, none⟩ = false := by unfold PBox at h; simp [World.frozen?, h]
theorem PBox.lt {w : World} {b : Nat} {u v : Value} (h : PBox w b u v) : b < w.heap.size := (Array.getElem?_eq_some_iff.1 h).1
theorem PBox.grown {w w' : World} {b : Nat} {u v : Value} (h : PBox w b u v) (hb : Below w.heap.size w w') : PBox w' b u v := (hb.block b h.lt).trans h
theorem PBox.put0 {w : World} {b : Nat} {u v : Value} (h : PBox w b u v) (u' : Value) : PBox (w.setCell ⟨b, 0, none⟩ u') b u' v := by
  unfold PBox at h ⊢
  simp [World.setCell, Array.getElem?_modify, h]
theorem PBox.put1 {w : World} {b : Nat} {u v : Value} (h : PBox w b u v) (v' : Value) : PBox (w.setCell ⟨b, 1, none⟩ v') b u v' := by
  unfold PBox at h ⊢
  simp [World.setCell, Array.getElem?_modify, h]
structure PAt (FL FS : Nat → Prop) (w : World) (b : Nat) (vL vS : Value) (st : OSt) : Prop where
  box : PBox w b vL vS
  iss : RcRow FL w vL st.1
  sum : MRow FS w vS st.2
  nl : ¬ FL b
  ns : ¬ FS b
  ls : ∀ k, FL k → ¬ FS k
theorem PAt.eqs {FL FS : Nat → Prop} {w w' : World} {b : Nat} {vL vS : Value} {st : OSt} (h : PAt FL FS w b vL vS st) (hb : Eqs (fun k => k = b ∨ FL k ∨ FS k) w w') : PAt FL FS w' b vL vS st :=
  ⟨(hb.block b h.box.lt (Or.inl rfl)).trans h.box, h.iss.eqs (hb.mono (fun _ h => Or.inr (Or.inl h))), h.sum.eqs (hb.mono (fun _ h => Or.inr (Or.inr h))), h.nl, h.ns, h.ls⟩
theorem PAt.below {FL FS : Nat → Prop} {w w' : World} {b : Nat} {vL vS : Value} {st : OSt} (h : PAt FL FS w b vL vS st) (hb : Below w.heap.size w w') : PAt FL FS w' b vL vS st := h.eqs ⟨hb.size, fun k hk _ => hb.block k hk⟩
/-- The program's ideal sealer. -/
def PInv (F : Nat → Prop) (w : World) (v : Value) (st : OSt) : Prop := ∃ b FL FS vL vS, v = .pointer (some ⟨b, 0, none⟩) ∧ PAt FL FS w b vL vS st ∧ (∀ k, F k ↔ k = b ∨ FL k ∨ FS k) ∧ ∀ k, F k → k < w.heap.size
theorem PInv.stay {F : Nat → Prop} {w w' : World} {v : Value} {st : OSt} (h : PInv F w v st) (hs : w.heap.size ≤ w'.heap.size) (hb : ∀ k, F k → w'.heap[k]? = w.heap[k]?) : PInv F w' v st := by
  obtain ⟨b, FL, FS, vL, vS, e, hA, hF, hlt⟩ := h
  exact ⟨b, FL, FS, vL, vS, e, hA.eqs ⟨hs, fun k _ hk => hb k ((hF k).2 hk)⟩, hF, fun k hk => Nat.lt_of_lt_of_le (hlt k hk) hs⟩
theorem PInv.below {F : Nat → Prop} {w w' : World} {v : Value} {st : OSt} (h : PInv F w v st) (hb : Below w.heap.size w w') : PInv F w' v st := by
  have hlt : ∀ k, F k → k < w.heap.size := by
    obtain ⟨_, _, _, _, _, _, _, _, h⟩ := h
    exact h
  exact h.stay hb.size (fun k hk => hb.block k (hlt k hk))
theorem PInv.lt {F : Nat → Prop} {w : World} {v : Value} {st : OSt} (h : PInv F w v st) : ∀ k, F k → k < w.heap.size := by
  obtain ⟨_, _, _, _, _, _, _, _, h⟩ := h
  exact h
theorem PInv.kept {F : Nat → Prop} {w w' : World} {v : Value} {st : OSt} (h : PInv F w v st) (hb : Below w.heap.size w w') : Kept PInv F w v F w' st := ⟨h.below hb, fun _ h => Or.inl h, Off.of_below hb⟩

theorem inew (w : World) : Calls Try.prog 30 #[] w fun e w' => ∃ v F, e = .returned v ∧ PInv F w' v ([], []) ∧ (∀ k, F k → w.heap.size ≤ k) ∧ Below w.heap.size w w' := by
  go_enter Try.func30, Try.ntmps30
  go_wp2
  go_ret
  refine ⟨_, fun k => k = w.heap.size, rfl, ⟨w.heap.size, fun _ => False, fun _ => False, .slice none 0 0, .map none, rfl, ⟨?_, ⟨fun _ => ⟨none, 0, none, 0, none, 0⟩, World.ownsRow_nil _ _ _ _, fun k hk => by simp [Value.ownBlock] at hk, fun i hi => absurd hi (by simp)⟩, Or.inl ⟨rfl, rfl⟩, fun h => h, fun h => h, fun _ h => h.elim⟩, fun k => by simp, fun k hk => ?_⟩, fun k hk => by omega, (Below.refl _ _).alloc (Nat.le_refl _) _⟩
  · exact heap_alloc_new _ _
  · subst hk
    simp
set_option maxHeartbeats 400000 in
theorem isealNil (key : BitVec 64 × BitVec 64) (nn : Nn) (x y : Option Addr) (nx ny c d : Nat) (w : World) : Calls Try.prog 31 #[.pointer none, kv key, nvv nn, .slice x nx c, .slice y ny d] w fun e w' => (∃ z cz t1 t2, e = .returned (.tuple #[.agg #[.slice z 0 cz, .int .u64 t1, .int .u64 t2], .bool false])) ∧ Below w.heap.size w w' := by
  unfold kv nvv
  go_enter Try.func31, Try.ntmps31
  go_wp2
  refine bodyPost_ret (v := .tuple #[.agg #[.slice none 0 0, .int .u64 0, .int .u64 0], .bool false]) (by simp [results, Try.results31, go_sem]) rfl ⟨⟨_, _, _, _, rfl⟩, by go_grown⟩
set_option maxHeartbeats 400000 in
theorem iopenNil (key : BitVec 64 × BitVec 64) (nn : Nn) (x y : Option Addr) (nx ny c d : Nat) (t1 t2 : Int) (w : World) : Calls Try.prog 32 #[.pointer none, kv key, nvv nn, .slice x nx c, .agg #[.slice y ny d, .int .u64 t1, .int .u64 t2]] w fun e w' => (∃ z cz, e = .returned (.tuple #[.slice z 0 cz, .bool false])) ∧ Below w.heap.size w w' := by
  unfold kv nvv
  go_enter Try.func32, Try.ntmps32
  go_wp2
  go_ret2
  exact ⟨⟨_, _, rfl⟩, by go_grown⟩
theorem isumNil (x : Option Addr) (m c : Nat) (w : World) : Calls Try.prog 33 #[.pointer none, .slice x m c] w fun e w' => e = .returned (.agg #[.int .u64 0, .int .u64 0]) ∧ Below w.heap.size w w' := by
  go_enter Try.func33, Try.ntmps33
  go_wp2
  refine bodyPost_ret (v := .agg #[.int .u64 0, .int .u64 0]) (by simp [results, Try.results33, go_sem]) rfl ⟨rfl, by go_grown⟩
theorem iissuedNil (w : World) : Calls Try.prog 34 #[.pointer none] w fun e w' => (∃ z cz, e = .returned (.slice z 0 cz)) ∧ Below w.heap.size w w' := by
  go_enter Try.func34, Try.ntmps34
  go_wp2
  go_ret
  exact ⟨⟨_, _, rfl⟩, Below.refl _ _⟩
theorem itwiceNil (w : World) : Calls Try.prog 35 #[.pointer none] w fun e w' => e = .returned (.bool false) ∧ Below w.heap.size w w' := by
  go_enter Try.func35, Try.ntmps35
  go_wp2
  go_ret
  exact ⟨rfl, Below.refl _ _⟩
end Go.Proofs.Ytkkehbebaokdmaa


/- slices.Grow of nil and slices.Concat, as the library has them: rows of bytes. -/
namespace Go.Proofs.Ytkkehbebaokdmaa
open Go.RowKit
set_option maxRecDepth 20000

set_option maxHeartbeats 1000000 in
theorem igrow (n : Nat) (hn : n ≤ 50000) (w : World) : Calls Try.prog 66 #[.slice none 0 0, .int .i64 n] w fun e w' => ∃ v, e = .returned v ∧ w'.ownsRow w.heap.size 5 1 v 0 [] ∧ Below w.heap.size w w' := by
  obtain ⟨i0, hi, hz0, hz1, hz2⟩ := info_parts Try.info5
  by_cases h0 : n = 0
  · subst h0
    go_enter Try.func66, Try.ntmps66
    go_wp2
    go_ret
    exact ⟨_, rfl, World.ownsRow_nil _ _ _ _, Below.refl _ _⟩
  · have happ := Lib.run_append_nil_zeros (P := Try.prog) w 27 3 27 5 i0 (.int .u8 0) .i64 .i64 Try.underlying27 (by kernel_rfl) hi hz0 n (by omega) (by rw [hz1]; decide) (by omega) (by rw [hz2]; omega)
    generalize hcap : grownCap w n 0 5 = cap2 at happ
    have hcapge : n ≤ cap2 := by rw [← hcap]; exact grownCap_ge w _ 0 _
    have hcaple : cap2 ≤ maxLen := by rw [← hcap]; exact grownCap_le_maxLen w _ 0 _ (by unfold maxLen; omega)
    generalize hZ : (Builtin.zeroCells (Value.int .u8 0).cells n ++ Builtin.zeroCells (Value.int .u8 0).cells (cap2 - n)) = Z at happ
    have hZs : Z.size = cap2 := by rw [← hZ]; simp [size_zeroCells, Value.cells]; omega
    clear hcap hZ
    have hs0 := sl_head none 0 0 0 (Nat.le_refl _)
    have hs1 := sl_head (some ⟨w.heap.size, 0, none⟩) n cap2 0 (Nat.zero_le _)
    go_enter Try.func66, Try.ntmps66
    go_wp2_with (at_builtin; refine Lib.wpList_append_run _ rfl _ _ _ _ rfl _ _ rfl rfl _ _ happ ?_)
    go_ret
    refine ⟨_, rfl, ⟨rfl, .inr ⟨w.heap.size, cap2, Z, rfl, Nat.le_refl _, ?_, Nat.zero_le _, hcaple, by rw [hZs, Nat.mul_one], by simp⟩⟩, ?_⟩
    · exact heap_alloc_new _ _
    · exact (Below.refl _ _).drew.alloc (Nat.le_refl _) _

set_option maxRecDepth 10000 in
set_option maxHeartbeats 2000000 in
theorem iconcat (P : List (List Int)) (x : Option Addr) (m c : Nat) (hm : m ≤ 1000) (hP : P.flatten.length ≤ 50000) (hc : m ≤ c) (hnil : x = none → m = 0 ∧ c = 0) (w : World) (hl : LAt w x m P) :
    Calls Try.prog 50 #[.slice x m c] w fun e w' => ∃ v, e = .returned v ∧ w'.ownsRow w.heap.size 5 1 v P.flatten.length (P.flatten.map (Value.int .u8)) ∧ Below w.heap.size w w' := by
  have hPl := hl.1
  have HF := hide' (flat_take P)
  have HX : Hid (∀ k, (P.take k).flatten.length ≤ P.flatten.length) := hide' (fun k => by
    conv => rhs; rw [← List.take_append_drop k P, List.flatten_append, List.length_append]
    omega)
  obtain ⟨Z, HZ⟩ : ∃ Z, Hid (P.flatten = Z) := ⟨_, rfl⟩
  rw [HZ.out] at hP ⊢
  rw [HZ.out] at HX
  obtain ⟨z, HN⟩ : ∃ z, Hid (Z.length = z) := ⟨_, rfl⟩
  rw [HN.out] at hP ⊢
  rw [HN.out] at HX
  go_enter Try.func50, Try.ntmps50
  go_wp2_with fail
  go_loop [3, 11] (fun sz i => ∃ k L : Nat, k ≤ m ∧ i = .int .i64 (k : Int) ∧ sz = .int .i64 (L : Int) ∧ L ≤ 50000 ∧ Hid ((P.take k).flatten.length = L)) (fun _ i => m - (intOf i).toNat)
  case atStart => exact ⟨0, 0, Nat.zero_le _, rfl, rfl, by decide, rfl⟩
  case round =>
    obtain ⟨k, L, hk, rfl, rfl, hL, HL⟩ := hrel
    by_cases hlt : k < m
    · obtain ⟨b, o, rfl, hbl, hrow⟩ := hl.2 (by omega)
      have hr := hrow k hlt
      have HK := hide' (HF.out k (by omega))
      have HB := hide' (HX.out (k + 1))
      generalize P.getD k [] = ys at *
      obtain ⟨y, cy, hcell, sy, hcy, hcmy, nily, by_⟩ := hr
      obtain ⟨n, HY⟩ : ∃ n, Hid (ys.length = n) := ⟨_, rfl⟩
      rw [HY.out] at hcell sy hcy nily
      have hLn : L + n ≤ 50000 := by
        have := HB.out
        rw [HK.out, List.length_append, HL.out, HY.out] at this
        omega
      go_wp2
      go_round
      case rel =>
        refine ⟨k + 1, L + n, by omega, by go_num, by go_num, hLn, ?_⟩
        rw [HK.out, List.length_append, HL.out, HY.out]
        exact rfl
      case measure => simp [intOf]; omega
    · obtain rfl : k = m := by omega
      have hall : P.take k = P := List.take_of_length_le (by omega)
      have hLz : L = z := by
        have := HL.out
        rw [hall, HZ.out, HN.out] at this
        exact this.symm
      subst hLz
      clear HL
      go_wp2_with fail
      refine (igrow L hL _).mono ?_
      rintro e w1 ⟨v1, rfl, own1, hb⟩
      have hz1 := hb.size
      clear hlt hall
      go_wp2_with fail
      go_loopw [6, 27] (fun v i wr => ∃ j L' : Nat, j ≤ k ∧ i = .int .i64 (j : Int) ∧ L' ≤ 50000 ∧ Hid ((P.take j).flatten.length = L') ∧ wr.ownsRow w.heap.size 5 1 v L' ((P.take j).flatten.map (Value.int .u8)) ∧ Below w.heap.size w wr) (fun _ i _ => k - (intOf i).toNat)
      case atStart => exact ⟨0, 0, Nat.zero_le _, rfl, by decide, rfl, by simpa using own1, hb⟩
      case round =>
        clear own1 hb
        obtain ⟨j, L', hj, rfl, hL', HL', own, hB⟩ := hrel
        obtain ⟨xa, ca, rfl, sa, hca, hcma, nila⟩ := own_slice HL'.out own
        by_cases hlt : j < k
        · obtain ⟨b, o, rfl, hbl, hrow⟩ := hl.2 (by omega)
          have hr := (hrow j hlt).below hB
          have HK := hide' (HF.out j (by omega))
          have HB := hide' (HX.out (j + 1))
          generalize P.getD j [] = ys at *
          obtain ⟨y, cy, hcell, sy, hcy, hcmy, nily, by_⟩ := hr
          obtain ⟨n, HY⟩ : ∃ n, Hid (ys.length = n) := ⟨_, rfl⟩
          rw [HY.out] at hcell sy hcy nily
          have hLn : L' + n ≤ 50000 := by
            have := HB.out
            rw [HK.out, List.length_append, HL'.out, HY.out] at this
            omega
          have hz := hB.size
          obtain ⟨A, HA⟩ : ∃ A, Hid ((P.take j).flatten = A) := ⟨_, rfl⟩
          rw [HA.out] at own sa HL'
          go_wp2_with (at_builtin; refine wpList_app rfl _ _ rfl w.heap.size _ L' _ rfl own y n cy ys rfl sy nily (by omega) hz ?_)
          intro v2 w2 own2 hb2 hv2
          replace hB := hB.trans hb2
          clear hb2 own sa
          go_wp2
          go_roundw
          case rel =>
            refine ⟨j + 1, L' + n, by omega, by go_num, by omega, ?_, ?_, hB⟩
            · have := HL'.out
              have := HY.out
              rw [HK.out, HA.out, List.length_append]
              exact hide' (by omega)
            · rw [HK.out, HA.out, List.map_append]
              simpa using own2
          case measure => simp [intOf]; omega
        · obtain rfl : j = k := by omega
          have hall : P.take j = P := List.take_of_length_le (by omega)
          rw [hall, HZ.out] at own HL'
          have hLL : L' = L := HL'.out.symm.trans HN.out
          rw [hLL] at own
          go_wp2
          go_ret
          rw [hLL]
          exact ⟨_, rfl, own, hB⟩
end Go.Proofs.Ytkkehbebaokdmaa


/- What the program's remember and Sum come to. -/
namespace Go.Proofs.Ytkkehbebaokdmaa
open Go.RowKit Go.Maps
set_option maxRecDepth 20000

theorem RowInG.row {G : Nat → Prop} {w : World} {b o : Nat} {ys : List Int} (h : RowInG G w b o ys) : RowIn w b o ys := by
  obtain ⟨y, c, h1, h2, h3⟩ := h
  exact ⟨y, c, h1, h2.sat, h3⟩
theorem LIn.lat {G : Nat → Prop} {w : World} {x : Option Addr} {m : Nat} {P : List (List Int)} (h : LIn G w x m P) : LAt w x m P :=
  ⟨h.1, fun hm => by
    obtain ⟨b, o, e, hlt, _, hr⟩ := h.2 hm
    exact ⟨b, o, e, hlt, fun i hi => (hr i hi).row⟩⟩
theorem wfU (n : Nat) (h : n ≤ 10000) : (Lit.int .u64 ((n : Int) + 1)).wf = true := WalkArith.wf_u64 (by omega)

set_option maxHeartbeats 1000000 in
theorem iremember (FL FS : Nat → Prop) (b : Nat) (vL vS : Value) (L : List Iss) (S : List (List Int)) (p : List Int) (hp : p ∉ S) (bp : Bytes p) (hl : p.length ≤ 50000) (hS : S.length ≤ 10000) (w : World) (hA : PAt FL FS w b vL vS (L, S)) (hF : ∀ k, k = b ∨ FL k ∨ FS k → k < w.heap.size) :
    Calls Try.prog 51 #[.pointer (some ⟨b, 0, none⟩), .string (strOfNums p), .int .u64 ((S.length : Int) + 1)] w fun e w' => ∃ FS' vS', e = .returned (.tuple #[]) ∧ PAt FL FS' w' b vL vS' (L, S ++ [p]) ∧ (∀ k, FS' k → FS k ∨ w.heap.size ≤ k) ∧ Off (fun k => k = b ∨ FS k) w w' ∧ ∀ k, FS' k → k < w'.heap.size := by
  have hwf := wfU S.length hS
  have hbl := hA.box.lt
  rcases hA.sum with ⟨rfl, e⟩ | ⟨mb, D, rfl, hG, hown, hD⟩
  · dsimp only at e
    subst e
    have hmm := @run_makeMap Try.prog
    have hnm := fun w => run_eql_map_nil (P := Try.prog) w 77 9 28 none Try.underlyingSums
    have k0 := hA.box.c1
    have k2 := hA.box.frozen 1
    have bx2 := hA.box.put1 (.map (some w.heap.size))
    have hof : Off (fun k => k = b) w (w.setCell ⟨b, 1, none⟩ (.map (some w.heap.size))) := Off.one w b 1 _
    have hb : Below (w.setCell ⟨b, 1, none⟩ (.map (some w.heap.size))).heap.size (w.setCell ⟨b, 1, none⟩ (.map (some w.heap.size))) ((w.setCell ⟨b, 1, none⟩ (.map (some w.heap.size))).alloc (.map #[] 0)) := (Below.refl _ _).alloc (Nat.le_refl _) _
    have bx3 := bx2.grown hb
    have k3 := bx3.c1
    have hown := World.ownsMap_made (w.setCell ⟨b, 1, none⟩ (.map (some w.heap.size))) Try.prog 9 (plainElem (H := Unit) Try.prog 28)
    rw [World.size_setCell] at hown
    go_enter Try.func51, Try.ntmps51
    go_wp2_with (at_mapUpdate; refine wpList_mapUpdate_own _ rfl _ _ _ 77 rfl 9 28 lawS Try.underlyingSums _ w.heap.size 0 _ rfl hown (by unfold maxLen; omega) _ _ _ rfl rfl (keyS_mk hl) _ [] (plainElem_int Try.underlyingU64 hwf) ?_)
    intro w1 hown1 hgrow1
    clear k0 k2 k3 hmm hnm
    go_wp2
    have hofA : Off (fun k => k = b) w w1 := (hof.more hb).grown hgrow1 (fun k hk => Or.inr (by cases hk; exact Nat.le_refl _))
    refine bodyPost_end (v := .tuple #[]) (by simp [results, Try.results51, go_sem]) rfl ⟨fun k => k = w.heap.size, .map (some w.heap.size), rfl, ⟨?_, hA.iss.eqs (Eqs.of_off hofA (fun k _ hk e => hA.nl (e ▸ hk))), Or.inr ⟨w.heap.size, _, rfl, rfl, hown1, SumD.nil.put tidy_empty (by simp) bp⟩, hA.nl, fun e => by omega, fun k hk e => ?_⟩, fun k hk => Or.inr (by omega), hofA.mono (fun k hk => Or.inl (Or.inl hk)), fun k hk => ?_⟩
    · exact (hgrow1.block b bx3.lt (fun e => by cases e; omega)).trans bx3
    · have := hF k (Or.inr (Or.inl hk))
      omega
    · subst hk
      exact hown1.lt
  · have hnm := fun w => run_eql_map_nil (P := Try.prog) w 77 9 28 (some mb) Try.underlyingSums
    have k0 := hA.box.c1
    have hT := hown.tidy lawS
    dsimp only at hown hD
    go_enter Try.func51, Try.ntmps51
    go_wp2_with (at_mapUpdate; refine wpList_mapUpdate_own _ rfl _ _ _ 77 rfl 9 28 lawS Try.underlyingSums _ mb S.length D rfl hown (by unfold maxLen; omega) _ _ _ rfl rfl (keyS_mk hl) _ [] (plainElem_int Try.underlyingU64 hwf) ?_)
    intro w1 hown1 hgrow1
    clear k0 hnm
    go_wp2
    have hofA : Off (fun k => FS k) w w1 := (Off.refl _ _).grown hgrow1 (fun k hk => Or.inl (by cases hk; exact hG))
    refine bodyPost_end (v := .tuple #[]) (by simp [results, Try.results51, go_sem]) rfl ⟨FS, .map (some mb), rfl, ⟨off_block hA.box hofA hA.ns, hA.iss.eqs (Eqs.of_off hofA (fun k _ hk e => hA.ls k hk e)), Or.inr ⟨mb, _, rfl, hG, by rw [List.length_append]; exact hown1, hD.put hT hp bp⟩, hA.nl, hA.ns, hA.ls⟩, fun k hk => Or.inl hk, hofA.mono (fun k hk => Or.inl (Or.inr hk)), fun k hk => Nat.lt_of_lt_of_le (hF k (Or.inr (Or.inr hk))) hofA.size⟩
end Go.Proofs.Ytkkehbebaokdmaa


/- What the program's Sum comes to. -/
namespace Go.Proofs.Ytkkehbebaokdmaa
open Go.RowKit Go.Maps
set_option maxRecDepth 20000

theorem iremember_at (FL FS : Nat → Prop) (b : Nat) (vL vS : Value) (L : List Iss) (S : List (List Int)) (p : List Int) (i : Int) (hi : i = (S.length : Int) + 1) (hp : p ∉ S) (bp : Bytes p) (hl : p.length ≤ 50000) (hS : S.length ≤ 10000) (w : World) (hA : PAt FL FS w b vL vS (L, S)) (hF : ∀ k, k = b ∨ FL k ∨ FS k → k < w.heap.size) :
    Calls Try.prog 51 #[.pointer (some ⟨b, 0, none⟩), .string (strOfNums p), .int .u64 i] w fun e w' => ∃ FS' vS', e = .returned (.tuple #[]) ∧ PAt FL FS' w' b vL vS' (L, S ++ [p]) ∧ (∀ k, FS' k → FS k ∨ w.heap.size ≤ k) ∧ Off (fun k => k = b ∨ FS k) w w' ∧ ∀ k, FS' k → k < w'.heap.size := by
  subst hi
  exact iremember FL FS b vL vS L S p hp bp hl hS w hA hF
/-- The end of Sum, behind remember. -/
theorem sum_kept {F FL FS FS' : Nat → Prop} {w w1 w2 : World} {b : Nat} {vL vS : Value} {st : OSt} (hF : ∀ k, F k ↔ k = b ∨ FL k ∨ FS k) (hlt : ∀ k, F k → k < w.heap.size) (hB : Below w.heap.size w w1) (hA : PAt FL FS' w2 b vL vS st)
    (hsub : ∀ k, FS' k → FS k ∨ w1.heap.size ≤ k) (hoff : Off (fun k => k = b ∨ FS k) w1 w2) (hl2 : ∀ k, FS' k → k < w2.heap.size) (u v : Value) (hR : ∀ k, k = b ∨ FL k ∨ FS' k → k ≠ w.heap.size) :
    Kept PInv F w (.pointer (some ⟨b, 0, none⟩)) (fun k => k = b ∨ FL k ∨ FS' k) ((w2.setCell ⟨w.heap.size, 0, none⟩ u).setCell ⟨w.heap.size, 1, none⟩ v) st := by
  have hof : Off (fun k => k = w.heap.size) w2 ((w2.setCell ⟨w.heap.size, 0, none⟩ u).setCell ⟨w.heap.size, 1, none⟩ v) := ((Off.refl (fun k => k = w.heap.size) w2).setCell (p := ⟨w.heap.size, 0, none⟩) (Or.inl rfl) u).setCell (p := ⟨w.heap.size, 1, none⟩) (Or.inl rfl) v
  have hz := hof.size
  have hz1 := hoff.size
  have hz0 := hB.size
  refine ⟨⟨b, FL, FS', vL, vS, rfl, hA.eqs (Eqs.of_off hof (fun k _ hk e => hR k hk e)), fun k => Iff.rfl, ?_⟩, ?_, ?_⟩
  · rintro k (h | h | h)
    · have := hlt k ((hF k).2 (Or.inl h))
      omega
    · have := hlt k ((hF k).2 (Or.inr (Or.inl h)))
      omega
    · have := hl2 k h
      omega
  · rintro k (h | h | h)
    · exact Or.inl ((hF k).2 (Or.inl h))
    · exact Or.inl ((hF k).2 (Or.inr (Or.inl h)))
    · rcases hsub k h with h | h
      · exact Or.inl ((hF k).2 (Or.inr (Or.inr h)))
      · exact Or.inr (by omega)
  · exact ((Off.of_below (F := F) hB).trans hoff (fun k hk => Or.inl ((hF k).2 (hk.imp id Or.inr)))).trans hof (fun k hk => Or.inr (by omega))

set_option maxRecDepth 10000 in
set_option maxHeartbeats 2000000 in
theorem isumm (F : Nat → Prop) (v : Value) (L : List Iss) (S : List (List Int)) (P : List (List Int)) (x : Option Addr) (m c : Nat) (hm : m ≤ 1000) (hP : P.flatten.length ≤ 50000) (hS : S.length ≤ 10000) (hfit : Fit x m c) (w : World) (hI : PInv F w v (L, S)) (hl : LIn (fun k => ¬ F k) w x m P) :
    Calls Try.prog 33 #[v, .slice x m c] w fun e w' => ∃ F', e = .returned (.agg #[.int .u64 17216961135462248174, .int .u64 (sumIx S P.flatten : Nat)]) ∧ Kept PInv F w v F' w' (L, sumSt S P.flatten) := by
  obtain ⟨b, FL, FS, vL, vS, rfl, hA, hF0, hlt0⟩ := hI
  have HF := hide' hF0
  have HLT := hide' hlt0
  have hbw : b < w.heap.size := hA.box.lt
  clear hF0 hlt0
  have hB : Below w.heap.size w (w.alloc (.cells #[.int .u64 0, .int .u64 0] 30)) := (Below.refl _ _).alloc (Nat.le_refl _) _
  have bR := Box.new w 0 0
  have hla := hl.lat.below hB
  have bP := hla.bytes
  have hcat := iconcat P x m c hm hP hfit.1 hfit.2.2 _ hla
  obtain ⟨xs, HX⟩ : ∃ xs, Hid (P.flatten = xs) := ⟨_, rfl⟩
  rw [HX.out] at hP bP hcat ⊢
  obtain ⟨j, HJ⟩ : ∃ j, Hid (sumIx S xs = j) := ⟨_, rfl⟩
  obtain ⟨S', HS⟩ : ∃ S', Hid (sumSt S xs = S') := ⟨_, rfl⟩
  rw [HJ.out, HS.out]
  clear hl hla
  go_enter Try.func33, Try.ntmps33
  go_wp2_with fail
  refine hcat.mono ?_
  rintro e w1 ⟨v1, rfl, own1, hb⟩
  obtain ⟨x1, c1, rfl, s1⟩ := own_sat rfl own1
  have e0 := fun c => s1.conv (c := c)
  replace bR := bR.grown hb
  replace hB := hB.trans (hb.mono hB.size)
  replace hA := hA.below hB
  clear hb own1 hcat
  have hz1 := hB.size
  have hRw := bR.lt
  have k1 := hA.box.c1
  have hkey := keyS_mk hP
  have hFw : ∀ k, k = b ∨ FL k ∨ FS k → k < w1.heap.size := fun k hk => by
    have := HLT.out k ((HF.out k).2 hk)
    omega
  have hFn : ∀ k, k = b ∨ FL k ∨ FS k → k ≠ w.heap.size := fun k hk => by
    have := HLT.out k ((HF.out k).2 hk)
    omega
  rcases hA.sum with ⟨rfl, e⟩ | ⟨mb, D, rfl, hG, hown, hD⟩
  · dsimp only at e
    subst e
    have hlook := fun w => Maps.look_nil (P := Try.prog) (w := w) (t := 77) true lawS Try.underlyingSums (zeroU w) hkey
    have hlen := fun w ty => Maps.len_nil (P := Try.prog) (w := w) (t := 77) Try.underlyingSums ty
    simp only [if_true] at hlook
    obtain rfl : j = 1 := by rw [← HJ.out]; simp [sumIx]
    obtain rfl : S' = [] ++ [xs] := by rw [← HS.out]; simp [sumSt]
    go_wp2_with fail
    clear hlook hlen e0
    refine (iremember_at FL FS b vL (.map none) L [] xs 1 (by simp) (by simp) bP hP (by simp) _ hA hFw).mono ?_
    rintro e w2 ⟨FS', vS', rfl, hA2, hsub, hoff, hl2⟩
    have bR2 : Box w2 w.heap.size 0 0 := off_block bR hoff (fun e => e.elim (fun e => by omega) (fun e => hFn _ (Or.inr (Or.inr e)) rfl))
    have k2 := bR2.c0
    have k3 := bR2.c1
    have k4 := bR2.frozen 0
    have k5 := bR2.frozen 1
    go_wp2
    have q := bR2.put2 17216961135462248174 1
    have q0 := q.c0
    have q1 := q.c1
    refine bodyPost_ret (v := .agg #[.int .u64 17216961135462248174, .int .u64 1]) (by simp [results, Try.results33, go_sem, q0, q1]) rfl ⟨_, rfl, sum_kept HF.out HLT.out hB hA2 hsub hoff hl2 _ _ ?_⟩
    rintro k (h | h | h) e
    · exact hFn k (Or.inl h) e
    · exact hFn k (Or.inr (Or.inl h)) e
    · rcases hsub k h with h | h
      · exact hFn k (Or.inr (Or.inr h)) e
      · omega
  · dsimp only at hown hD
    by_cases hm' : xs ∈ S
    · have hhas : Maps.has D (keyS xs) = true := by rw [hD.has xs bP]; exact decide_eq_true hm'
      have HV := hide' (hD.val xs hm')
      obtain rfl : S' = S := by rw [← HS.out]; exact if_pos hm'
      have k2 := bR.c0
      have k3 := bR.c1
      have k4 := bR.frozen 0
      have k5 := bR.frozen 1
      go_wp2_with (at_lookup; refine wpList_lookup_own_ok_int _ rfl _ _ 77 rfl 9 28 .u64 lawS Try.underlyingSums Try.underlyingU64 (zeroU _) mb S'.length D rfl hown _ _ rfl hkey ?_; intro cc hat hwc; (obtain rfl : cc = (j : Int) := by rw [HV.out, HJ.out] at hat; injection hat with hat; injection hat with _ hat; exact hat.symm))
      have q := bR.put2 17216961135462248174 (j : Int)
      have q0 := q.c0
      have q1 := q.c1
      refine bodyPost_ret (v := .agg #[.int .u64 17216961135462248174, .int .u64 (j : Int)]) (by simp [results, Try.results33, go_sem, q0, q1]) rfl ⟨_, rfl, sum_kept HF.out HLT.out hB hA (fun k h => Or.inl h) (Off.refl _ _) (fun k h => hFw k (Or.inr (Or.inr h))) _ _ hFn⟩
    · have hhas : Maps.has D (keyS xs) = false := by rw [hD.has xs bP]; exact decide_eq_false hm'
      obtain rfl : S' = S ++ [xs] := by rw [← HS.out]; exact if_neg hm'
      have hj : (j : Int) = (S.length : Int) + 1 := by rw [← HJ.out, sumIx_new hm']; rfl
      have hlen := fun ty => hown.len Try.underlyingSums ty
      rw [hD.len] at hlen
      go_wp2_with (at_lookup; refine wpList_lookup_own_ok_int _ rfl _ _ 77 rfl 9 28 .u64 lawS Try.underlyingSums Try.underlyingU64 (zeroU _) mb S.length D rfl hown _ _ rfl hkey ?_; intro cc hat hwc)
      clear e0 hlen
      refine (iremember_at FL FS b vL (.map (some mb)) L S xs ((S.length : Int) + 1) rfl hm' bP hP hS _ hA hFw).mono ?_
      rintro e w2 ⟨FS', vS', rfl, hA2, hsub, hoff, hl2⟩
      have bR2 : Box w2 w.heap.size 0 0 := off_block bR hoff (fun e => e.elim (fun e => by omega) (fun e => hFn _ (Or.inr (Or.inr e)) rfl))
      have k2 := bR2.c0
      have k3 := bR2.c1
      have k4 := bR2.frozen 0
      have k5 := bR2.frozen 1
      go_wp2
      have q := bR2.put2 17216961135462248174 ((S.length : Int) + 1)
      have q0 := q.c0
      have q1 := q.c1
      refine bodyPost_ret (v := .agg #[.int .u64 17216961135462248174, .int .u64 ((S.length : Int) + 1)]) (by simp [results, Try.results33, go_sem, q0, q1]) rfl ⟨_, by rw [hj], sum_kept HF.out HLT.out hB hA2 hsub hoff hl2 _ _ ?_⟩
      rintro k (h | h | h) e
      · exact hFn k (Or.inl h) e
      · exact hFn k (Or.inr (Or.inl h)) e
      · rcases hsub k h with h | h
        · exact hFn k (Or.inr (Or.inr h)) e
        · omega
end Go.Proofs.Ytkkehbebaokdmaa
