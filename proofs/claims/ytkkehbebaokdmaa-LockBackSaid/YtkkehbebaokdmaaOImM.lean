/- The program's ideal sealer in memory: its records, its sums. -/
import Derived.Test.YtkkehbebaokdmaaOImA
import Derived.Maps.OwnSet
namespace Go.Proofs.Ytkkehbebaokdmaa
open Go.RowKit Go.Maps
set_option maxRecDepth 20000

/-- These blocks are as they were. -/
structure Eqs (G : Nat → Prop) (w w' : World) : Prop where
  size : w.heap.size ≤ w'.heap.size
  block : ∀ k, k < w.heap.size → G k → w'.heap[k]? = w.heap[k]?
theorem Eqs.of_off {F G : Nat → Prop} {w w' : World} (h : Off F w w') (hd : ∀ k, k < w.heap.size → G k → ¬ F k) : Eqs G w w' := ⟨h.size, fun k hk hg => h.block k hk (hd k hk hg)⟩
theorem Eqs.mono {G G' : Nat → Prop} {w w' : World} (h : Eqs G w w') (hd : ∀ k, G' k → G k) : Eqs G' w w' := ⟨h.size, fun k hk hg => h.block k hk (hd k hg)⟩
theorem SIn.eqs {G : Nat → Prop} {w w' : World} {x : Option Addr} {l : Nat} {ys : List Int} (h : SIn G w x l ys) (hb : Eqs G w w') : SIn G w' x l ys :=
  ⟨h.1, fun hl => by
    obtain ⟨b, o, e, hlt, hg, ha⟩ := h.2 hl
    exact ⟨b, o, e, Nat.lt_of_lt_of_le hlt hb.size, hg, fun i hi => (World.cell?_of_block (w := w) (hb.block b hlt hg)).trans (ha i hi)⟩⟩
theorem own_eqs {G : Nat → Prop} {w w' : World} {base e size n : Nat} {v : Value} {xs : List Value} (h : w.ownsRow base e size v n xs) (hb : Eqs G w w') (hn : ∀ k, v.ownBlock = some k → G k) : w'.ownsRow base e size v n xs := by
  obtain ⟨h1, h2 | ⟨g, cap, cur, rfl, hg, hh, rest⟩⟩ := h
  · exact ⟨h1, Or.inl h2⟩
  · have hlt := (Array.getElem?_eq_some_iff.1 hh).1
    exact ⟨h1, Or.inr ⟨g, cap, cur, rfl, hg, (hb.block g hlt (hn g rfl)).trans hh, rest⟩⟩

/-- A record, cell by cell. -/
def recC (x : Iss) (c : SlC) : List Value := [.int .u64 (nv x.key.1), .int .u64 (nv x.key.2), .int .u32 (nv32 x.non.1), .int .u32 (nv32 x.non.2.1), .int .u64 (nv x.non.2.2), .slice c.h x.head.length c.hc, .slice c.d x.data.length c.dc]
theorem recC_length (x : Iss) (c : SlC) : (recC x c).length = 7 := rfl
structure RecIn (G : Nat → Prop) (w : World) (x : Iss) (c : SlC) : Prop where
  hs : SIn G w c.h x.head.length x.head
  hl : x.head.length ≤ c.hc ∧ c.hc ≤ maxLen ∧ (c.h = none → x.head.length = 0 ∧ c.hc = 0)
  hb : Bytes x.head
  hm : x.head.length ≤ 4000
  ds : SIn G w c.d x.data.length x.data
  dl : x.data.length ≤ c.dc ∧ c.dc ≤ maxLen ∧ (c.d = none → x.data.length = 0 ∧ c.dc = 0)
  db : Bytes x.data
  dm : x.data.length ≤ 4000
theorem RecIn.eqs {G : Nat → Prop} {w w' : World} {x : Iss} {c : SlC} (h : RecIn G w x c) (hb : Eqs G w w') : RecIn G w' x c :=
  ⟨h.hs.eqs hb, h.hl, h.hb, h.hm, h.ds.eqs hb, h.dl, h.db, h.dm⟩
theorem RecIn.mono {G G' : Nat → Prop} {w : World} {x : Iss} {c : SlC} (h : RecIn G w x c) (hd : ∀ b, b < w.heap.size → G b → G' b) : RecIn G' w x c :=
  ⟨h.hs.mono hd, h.hl, h.hb, h.hm, h.ds.mono hd, h.dl, h.db, h.dm⟩
/-- A row of records: its block, and others, in which its slices stand. -/
def RcRow (G : Nat → Prop) (w : World) (v : Value) (L : List Iss) : Prop := ∃ C : Nat → SlC, w.ownsRow 0 84 7 v L.length (flatG (fun i => recC (L.getD i default) (C i)) L.length) ∧ (∀ k, v.ownBlock = some k → G k) ∧ ∀ i, i < L.length → RecIn (fun k => G k ∧ v.ownBlock ≠ some k) w (L.getD i default) (C i)
theorem RcRow.eqs {G : Nat → Prop} {w w' : World} {v : Value} {L : List Iss} (h : RcRow G w v L) (hb : Eqs G w w') : RcRow G w' v L := by
  obtain ⟨C, h1, h2, h3⟩ := h
  exact ⟨C, own_eqs h1 hb h2, h2, fun i hi => (h3 i hi).eqs (hb.mono (fun k hk => hk.1))⟩
theorem rec_cells {G : Nat → Prop} {w : World} {v : Value} {L : List Iss} (h : RcRow G w v L) (i : Nat) (hi : i < L.length) : ∃ g cap c, v = .slice (some ⟨g, 0, none⟩) L.length cap ∧ L.length ≤ cap ∧ g < w.heap.size ∧ G g ∧ RecIn (fun k => G k ∧ v.ownBlock ≠ some k) w (L.getD i default) c ∧ ∀ j u, (recC (L.getD i default) c)[j]? = some u → w.cell? ⟨g, i * 7 + j, none⟩ = some u := by
  obtain ⟨C, h1, h2, h3⟩ := h
  have hget : ∀ j, j < 7 → (flatG (fun i => recC (L.getD i default) (C i)) L.length)[i * 7 + j]? = (recC (L.getD i default) (C i))[j]? := fun j hj => flatG_get (s := 7) (fun i => recC_length _ _) L.length i j hi hj
  obtain ⟨g, cap, rfl, hnc, hgl, _⟩ := own_cell h1 ((hget 0 (by decide)).trans rfl)
  refine ⟨g, cap, C i, rfl, hnc, hgl, h2 g rfl, h3 i hi, fun j u hj => ?_⟩
  have hj7 : j < 7 := by
    rcases Nat.lt_or_ge j 7 with h | h
    · exact h
    · rw [List.getElem?_eq_none (by rw [recC_length]; exact h)] at hj
      cases hj
  obtain ⟨g', cap', e, _, _, hc⟩ := own_cell h1 ((hget j hj7).trans hj)
  simp only [Value.slice.injEq, Option.some.injEq, Addr.mk.injEq] at e
  rw [e.1.1]
  exact hc

/-- What bytes are as a key. -/
def keyS (p : List Int) : Lit := .string (strOfNums p).data.toList
theorem keyS_inj {p q : List Int} (hp : Bytes p) (hq : Bytes q) (h : keyS p = keyS q) : p = q := by
  unfold keyS at h
  injection h with h
  exact map_byt_inj p q hp hq h
theorem Try.underlyingStr : Try.prog.underlying 9 = some .string := by kernel_rfl
theorem Try.underlyingU64 : Try.prog.underlying 28 = some (.int .u64) := by kernel_rfl
theorem Try.underlyingSums : Try.prog.underlying 77 = some (.map 9 28) := by kernel_rfl
theorem lawS : Keyed Try.prog 9 := string_keyed Try.underlyingStr
theorem zeroU (w : World) : (zeroValue 28).run Try.prog w = .ok (.int .u64 0) w := by kernel_rfl
theorem keyS_mk {p : List Int} (h : p.length ≤ 50000) : keyOf Try.prog 9 (.string (strOfNums p)) = some (keyS p) :=
  WideMaps.keyOf_string_mk Try.underlyingStr (by rw [strOfNums_size]; unfold maxLen; omega)
/-- The map of sums, plain. -/
structure SumD (S : List (List Int)) (D : DataW Unit) : Prop where
  has : ∀ p, Bytes p → Maps.has D (keyS p) = decide (p ∈ S)
  val : ∀ p, p ∈ S → D.atKey (keyS p) (.lit (.int .u64 0)) = .lit (.int .u64 (sumIx S p : Nat))
  len : Maps.size D = S.length
  byt : ∀ p, p ∈ S → Bytes p
theorem SumD.nil : SumD [] (.map []) := ⟨fun p _ => by simp [Maps.has_eq], fun p hp => by simp at hp, rfl, fun p hp => by simp at hp⟩
theorem SumD.put {S : List (List Int)} {D : DataW Unit} (h : SumD S D) (hT : Tidy D) {p : List Int} (hp : p ∉ S) (bp : Bytes p) : SumD (S ++ [p]) (D.put (keyS p) (.lit (.int .u64 ((S.length : Int) + 1)))) := by
  have hnew : sumIx (S ++ [p]) p = S.length + 1 := by
    unfold sumIx
    rw [List.idxOf_append, if_neg hp]
    simp
  have hold : ∀ q, q ∈ S → sumIx (S ++ [p]) q = sumIx S q := fun q hq => by
    unfold sumIx
    rw [List.idxOf_append, if_pos hq]
  refine ⟨fun q bq => ?_, fun q hq => ?_, ?_, fun q hq => ?_⟩
  · by_cases e : q = p
    · subst e
      rw [has_put_same hT.isMap (show WideAt.IsKeyLit (keyS q) from trivial)]
      simp
    · rw [has_put_other (fun h' => e (keyS_inj bq bp h')), h.has q bq]
      simp [e]
  · by_cases e : q = p
    · subst e
      rw [atKey_put_same hT.isMap (show WideAt.IsKeyLit (keyS q) from trivial), hnew]
      rfl
    · have hq' : q ∈ S := by simpa [e] using hq
      rw [atKey_put_other (fun h' => e (keyS_inj (h.byt q hq') bp h')), h.val q hq', hold q hq']
  · rw [size_put hT, h.has p bp]
    simp [hp, h.len]
  · by_cases e : q = p
    · exact e ▸ bp
    · exact h.byt q (by simpa [e] using hq)
/-- The field sums. -/
def MRow (G : Nat → Prop) (w : World) (v : Value) (S : List (List Int)) : Prop := (v = .map none ∧ S = []) ∨ ∃ mb D, v = .map (some mb) ∧ G mb ∧ w.ownsMap Try.prog 9 (plainElem (H := Unit) Try.prog 28) mb S.length D ∧ SumD S D
theorem map_eqs {G : Nat → Prop} {w w' : World} {k b n : Nat} {R : Value → Option (DataW Unit × List MemPlace)} {D : DataW Unit} (h : w.ownsMap Try.prog k R b n D) (hb : Eqs G w w') (hG : G b) : w'.ownsMap Try.prog k R b n D := by
  have hlt := h.lt
  obtain ⟨es, clock, hh, rest⟩ := h
  exact ⟨es, clock, (hb.block b hlt hG).trans hh, rest⟩
theorem MRow.eqs {G : Nat → Prop} {w w' : World} {v : Value} {S : List (List Int)} (h : MRow G w v S) (hb : Eqs G w w') : MRow G w' v S := by
  rcases h with h | ⟨mb, D, h1, h2, h3, h4⟩
  · exact Or.inl h
  · exact Or.inr ⟨mb, D, h1, h2, map_eqs h3 hb h2, h4⟩

def PBox (w : World) (b : Nat) (u v : Value) : Prop := w.heap[b]? = some (.cells #[u, v] 79 (0, 0))
theorem PBox.c0 {w : World} {b : Nat} {u v : Value} (h : PBox w b u v) : w.cell? ⟨b, 0, none⟩ = some u := by unfold PBox at h; simp [World.cell?, h]
theorem PBox.c1 {w : World} {b : Nat} {u v : Value} (h : PBox w b u v) : w.cell? ⟨b, 1, none⟩ = some v := by unfold PBox at h; simp [World.cell?, h]
theorem PBox.frozen {w : World} {b : Nat} {u v : Value} (h : PBox w b u v) (i : Nat) : w.frozen? ⟨b, i, none⟩ = false := by unfold PBox at h; simp [World.frozen?, h]
theorem PBox.lt {w : World} {b : Nat} {u v : Value} (h : PBox w b u v) : b < w.heap.size := (Array.getElem?_eq_some_iff.1 h).1
theorem PBox.grown {w w' : World} {b : Nat} {u v : Value} (h : PBox w b u v) (hb : Below w.heap.size w w') : PBox w' b u v := (hb.block b h.lt).trans h
theorem PBox.put0 {w : World} {b : Nat} {u v : Value} (h : PBox w b u v) (u' : Value) : PBox (w.setCell ⟨b, 0, none⟩ u') b u' v := by
  unfold PBox at h ⊢
  simp [World.setCell, Array.getElem?_modify, h]
theorem PBox.put1 {w : World} {b : Nat} {u v : Value} (h : PBox w b u v) (v' : Value) : PBox (w.setCell ⟨b, 1, none⟩ v') b u v' := by
  unfold PBox at h ⊢
  simp [World.setCell, Array.getElem?_modify, h]
structure PAt (FL FS : Nat → Prop) (w : World) (b : Nat) (vL vS : Value) (st : OSt) : Prop where
  box : PBox w b vL vS
  iss : RcRow FL w vL st.1
  sum : MRow FS w vS st.2
  nl : ¬ FL b
  ns : ¬ FS b
  ls : ∀ k, FL k → ¬ FS k
theorem PAt.eqs {FL FS : Nat → Prop} {w w' : World} {b : Nat} {vL vS : Value} {st : OSt} (h : PAt FL FS w b vL vS st) (hb : Eqs (fun k => k = b ∨ FL k ∨ FS k) w w') : PAt FL FS w' b vL vS st :=
  ⟨(hb.block b h.box.lt (Or.inl rfl)).trans h.box, h.iss.eqs (hb.mono (fun _ h => Or.inr (Or.inl h))), h.sum.eqs (hb.mono (fun _ h => Or.inr (Or.inr h))), h.nl, h.ns, h.ls⟩
theorem PAt.below {FL FS : Nat → Prop} {w w' : World} {b : Nat} {vL vS : Value} {st : OSt} (h : PAt FL FS w b vL vS st) (hb : Below w.heap.size w w') : PAt FL FS w' b vL vS st := h.eqs ⟨hb.size, fun k hk _ => hb.block k hk⟩
/-- The program's ideal sealer. -/
def PInv (F : Nat → Prop) (w : World) (v : Value) (st : OSt) : Prop := ∃ b FL FS vL vS, v = .pointer (some ⟨b, 0, none⟩) ∧ PAt FL FS w b vL vS st ∧ (∀ k, F k ↔ k = b ∨ FL k ∨ FS k) ∧ ∀ k, F k → k < w.heap.size
theorem PInv.stay {F : Nat → Prop} {w w' : World} {v : Value} {st : OSt} (h : PInv F w v st) (hs : w.heap.size ≤ w'.heap.size) (hb : ∀ k, F k → w'.heap[k]? = w.heap[k]?) : PInv F w' v st := by
  obtain ⟨b, FL, FS, vL, vS, e, hA, hF, hlt⟩ := h
  exact ⟨b, FL, FS, vL, vS, e, hA.eqs ⟨hs, fun k _ hk => hb k ((hF k).2 hk)⟩, hF, fun k hk => Nat.lt_of_lt_of_le (hlt k hk) hs⟩
theorem PInv.below {F : Nat → Prop} {w w' : World} {v : Value} {st : OSt} (h : PInv F w v st) (hb : Below w.heap.size w w') : PInv F w' v st := by
  have hlt : ∀ k, F k → k < w.heap.size := by
    obtain ⟨_, _, _, _, _, _, _, _, h⟩ := h
    exact h
  exact h.stay hb.size (fun k hk => hb.block k (hlt k hk))
theorem PInv.lt {F : Nat → Prop} {w : World} {v : Value} {st : OSt} (h : PInv F w v st) : ∀ k, F k → k < w.heap.size := by
  obtain ⟨_, _, _, _, _, _, _, _, h⟩ := h
  exact h
theorem PInv.kept {F : Nat → Prop} {w w' : World} {v : Value} {st : OSt} (h : PInv F w v st) (hb : Below w.heap.size w w') : Kept PInv F w v F w' st := ⟨h.below hb, fun _ h => Or.inl h, Off.of_below hb⟩

theorem inew (w : World) : Calls Try.prog 30 #[] w fun e w' => ∃ v F, e = .returned v ∧ PInv F w' v ([], []) ∧ (∀ k, F k → w.heap.size ≤ k) ∧ Below w.heap.size w w' := by
  go_enter Try.func30, Try.ntmps30
  go_wp2
  go_ret
  refine ⟨_, fun k => k = w.heap.size, rfl, ⟨w.heap.size, fun _ => False, fun _ => False, .slice none 0 0, .map none, rfl, ⟨?_, ⟨fun _ => ⟨none, 0, none, 0, none, 0⟩, World.ownsRow_nil _ _ _ _, fun k hk => by simp [Value.ownBlock] at hk, fun i hi => absurd hi (by simp)⟩, Or.inl ⟨rfl, rfl⟩, fun h => h, fun h => h, fun _ h => h.elim⟩, fun k => by simp, fun k hk => ?_⟩, fun k hk => by omega, (Below.refl _ _).alloc (Nat.le_refl _) _⟩
  · exact heap_alloc_new _ _
  · subst hk
    simp
set_option maxHeartbeats 400000 in
theorem isealNil (key : BitVec 64 × BitVec 64) (nn : Nn) (x y : Option Addr) (nx ny c d : Nat) (w : World) : Calls Try.prog 31 #[.pointer none, kv key, nvv nn, .slice x nx c, .slice y ny d] w fun e w' => (∃ z cz t1 t2, e = .returned (.tuple #[.agg #[.slice z 0 cz, .int .u64 t1, .int .u64 t2], .bool false])) ∧ Below w.heap.size w w' := by
  unfold kv nvv
  go_enter Try.func31, Try.ntmps31
  go_wp2
  refine bodyPost_ret (v := .tuple #[.agg #[.slice none 0 0, .int .u64 0, .int .u64 0], .bool false]) (by simp [results, Try.results31, go_sem]) rfl ⟨⟨_, _, _, _, rfl⟩, by go_grown⟩
set_option maxHeartbeats 400000 in
theorem iopenNil (key : BitVec 64 × BitVec 64) (nn : Nn) (x y : Option Addr) (nx ny c d : Nat) (t1 t2 : Int) (w : World) : Calls Try.prog 32 #[.pointer none, kv key, nvv nn, .slice x nx c, .agg #[.slice y ny d, .int .u64 t1, .int .u64 t2]] w fun e w' => (∃ z cz, e = .returned (.tuple #[.slice z 0 cz, .bool false])) ∧ Below w.heap.size w w' := by
  unfold kv nvv
  go_enter Try.func32, Try.ntmps32
  go_wp2
  go_ret2
  exact ⟨⟨_, _, rfl⟩, by go_grown⟩
theorem isumNil (x : Option Addr) (m c : Nat) (w : World) : Calls Try.prog 33 #[.pointer none, .slice x m c] w fun e w' => e = .returned (.agg #[.int .u64 0, .int .u64 0]) ∧ Below w.heap.size w w' := by
  go_enter Try.func33, Try.ntmps33
  go_wp2
  refine bodyPost_ret (v := .agg #[.int .u64 0, .int .u64 0]) (by simp [results, Try.results33, go_sem]) rfl ⟨rfl, by go_grown⟩
theorem iissuedNil (w : World) : Calls Try.prog 34 #[.pointer none] w fun e w' => (∃ z cz, e = .returned (.slice z 0 cz)) ∧ Below w.heap.size w w' := by
  go_enter Try.func34, Try.ntmps34
  go_wp2
  go_ret
  exact ⟨⟨_, _, rfl⟩, Below.refl _ _⟩
theorem itwiceNil (w : World) : Calls Try.prog 35 #[.pointer none] w fun e w' => e = .returned (.bool false) ∧ Below w.heap.size w w' := by
  go_enter Try.func35, Try.ntmps35
  go_wp2
  go_ret
  exact ⟨rfl, Below.refl _ _⟩
end Go.Proofs.Ytkkehbebaokdmaa
