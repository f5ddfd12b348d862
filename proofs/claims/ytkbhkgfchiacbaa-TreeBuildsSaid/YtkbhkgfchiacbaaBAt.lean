/- Bytes in memory: what the walks of later stages ask of slices of bytes, whatever function they come from. -/
import Derived.Test.YtkbhkgfchiacbaaRows
import Derived.Test.YtkbhkgfchiacbaaM01
import Derived.WalkKit
import Derived.WalkSpells
import Derived.WalkLawsBesides
import Derived.Deep.OwnRows
import Derived.Handy
import Derived.Laws.CopyOwn
import Derived.Laws.AppendOwnNone
namespace Go.Proofs.Ytkbhkgfchiacbaa
open Go.ChangeShapes Go.WideShapes Go.ChangeAt Go.RowKit
set_option maxRecDepth 20000

theorem Try.info5 : (Try.prog.info? 5).map (fun i => (i.zero, i.size, i.bytes)) = some (some (.int .u8 0), 1, 1) := by kernel_rfl
/-- The bytes xs lie in block b from off on. -/
def At (w : World) (b off : Nat) (xs : List Int) : Prop := ∀ i, i < xs.length → w.cell? ⟨b, off + i, none⟩ = some (.int .u8 (xs.getD i 0))
/-- The lowest n bytes of V, the highest first. -/
def putL (V n : Nat) : List Int := (List.range n).map fun j => (byteAt V (n - 1 - j) : Int)
theorem putL_length (V n : Nat) : (putL V n).length = n := by simp [putL]
theorem putL_bytes (V n : Nat) : Bytes (putL V n) := by
  intro x hx
  obtain ⟨j, _, rfl⟩ := List.mem_map.1 hx
  have := byteAt_lt V (n - 1 - j)
  omega
theorem At.put {w : World} {b V n : Nat} (h : w.rowIs b 5 n (fun j => .int .u8 (byteAt V (n - 1 - j)))) : At w b 0 (putL V n) := by
  intro i hi
  rw [putL_length] at hi
  rw [Nat.zero_add, h.cell hi]
  simp [putL, hi]
theorem ret_int {k : IntKind} {a b : Int} (h : a = b) : Ending.returned (.int k a) = .returned (.int k b) := by rw [h]
/-- A reading of bytes stays where nothing old has turned. -/
theorem At.below {w w' : World} {B b off : Nat} {xs : List Int} (h : At w b off xs) (hb : Below B w w') (hB : b < B) : At w' b off xs :=
  fun i hi => (hb.cell (p := ⟨b, off + i, none⟩) hB).trans (h i hi)
theorem At.conv {w : World} {b off n cap : Nat} {xs : List Int} (h : At w b off xs) (hn : xs.length = n) :
    (convert 40 9 (.slice (some ⟨b, off, none⟩) n cap)).run Try.prog w = .ok (.string (strOfNums xs)) w :=
  run_convert_bytes_arg w 40 5 Try.underlying40 Try.underlying5 b off n cap xs hn (fun i hi => h i (by omega)) 9 Try.underlying9
theorem At.alloc {w : World} {b off : Nat} {xs : List Int} (h : At w b off xs) (hb : b < w.heap.size) (o : Obj) : At (w.alloc o) b off xs :=
  h.below ((Below.refl w.heap.size w).alloc (Nat.le_refl _) o) hb
theorem At.cut1 {w : World} {b off : Nat} {xs : List Int} (h : At w b off xs) (k : Nat) (hk : k ≤ xs.length) : At w b off (xs.take k) := by
  intro i hi
  rw [List.length_take] at hi
  rw [h i (by omega)]
  simp [show i < k by omega]
theorem At.cut2 {w : World} {b off : Nat} {xs : List Int} (h : At w b off xs) (k : Nat) : At w b (off + k) (xs.drop k) := by
  intro i hi
  rw [List.length_drop] at hi
  rw [Nat.add_assoc, h (k + i) (by omega)]
  simp
theorem At.drawn {w : World} {b off : Nat} {xs : List Int} (h : At w b off xs) : At w.drew b off xs := h
theorem num_acc (xs : List Int) : ∀ a : Int, xs.foldl (fun v x => v * 256 + x) a = a * 256 ^ xs.length + num xs := by
  induction xs with
  | nil => intro a; simp [num]
  | cons x xs ih =>
    intro a
    unfold num
    rw [List.foldl_cons, List.foldl_cons, ih, ih, List.length_cons, Int.pow_succ]
    have e : (a * 256 + x) * 256 ^ xs.length = a * (256 ^ xs.length * 256) + x * 256 ^ xs.length := by
      rw [Int.add_mul, Int.mul_assoc, Int.mul_comm 256]
    have e' : (0 * 256 + x) * (256 : Int) ^ xs.length = x * 256 ^ xs.length := by simp
    rw [e, e']
    omega
theorem num_cons (x : Int) (xs : List Int) : num (x :: xs) = x * 256 ^ xs.length + num xs := by
  rw [num, List.foldl_cons, num_acc]; simp
theorem num_range (xs : List Int) (h : Bytes xs) : 0 ≤ num xs ∧ num xs < 256 ^ xs.length := by
  have := num_bound xs h xs.length (Nat.le_refl _)
  rwa [List.take_length] at this
theorem Bytes.tail {x : Int} {xs : List Int} (h : Bytes (x :: xs)) : Bytes xs := fun y hy => h y (List.mem_cons_of_mem _ hy)
theorem Bytes.head {x : Int} {xs : List Int} (h : Bytes (x :: xs)) : 0 ≤ x ∧ x < 256 := h x List.mem_cons_self
/-- A byte as Go's text has it. -/
def byt (n : Int) : UInt8 := UInt8.ofNat n.toNat
theorem byt_toNat {n : Int} (h : 0 ≤ n ∧ n < 256) : (byt n).toNat = n.toNat := by
  simp [byt]; omega
theorem byt_inj {a b : Int} (ha : 0 ≤ a ∧ a < 256) (hb : 0 ≤ b ∧ b < 256) : byt a = byt b ↔ a = b := by
  constructor
  · intro h
    have := congrArg UInt8.toNat h
    rw [byt_toNat ha, byt_toNat hb] at this
    omega
  · rintro rfl; rfl
theorem map_byt_inj : ∀ (xs ys : List Int), Bytes xs → Bytes ys → xs.map byt = ys.map byt → xs = ys := by
  intro xs
  induction xs with
  | nil => intro ys _ _ h; cases ys <;> simp_all
  | cons x xs ih =>
    intro ys hx hy h
    cases ys with
    | nil => simp at h
    | cons y ys =>
      rw [List.map_cons, List.map_cons, List.cons.injEq] at h
      rw [(byt_inj hx.head hy.head).1 h.1, ih ys hx.tail hy.tail h.2]
theorem str_toList (xs : List Int) : (strOfNums xs).toList = xs.map byt := by rw [ByteArray.toList_eq]; rfl
theorem str_eq (xs ys : List Int) (hx : Bytes xs) (hy : Bytes ys) : ((strOfNums xs).toList == (strOfNums ys).toList) = decide (xs = ys) := by
  rw [str_toList, str_toList, Bool.eq_iff_iff, beq_iff_eq, decide_eq_true_eq]
  exact ⟨map_byt_inj xs ys hx hy, fun h => by rw [h]⟩
theorem str_self (xs : List Int) : ((strOfNums xs).toList == (strOfNums xs).toList) = true := by simp
theorem mul_gap (P x y a b : Int) (h : x < y) (hP : 0 ≤ P) (ha : a < P) (hb : 0 ≤ b) : x * P + a < y * P + b := by
  have : (x + 1) * P ≤ y * P := Int.mul_le_mul_of_nonneg_right (by omega) hP
  rw [Int.add_mul] at this
  omega
/-- One byte more ahead. -/
theorem putL_succ (V n : Nat) : putL V (n + 1) = (byteAt V n : Int) :: putL V n := by
  unfold putL
  rw [List.range_succ_eq_map, List.map_cons, List.map_map]
  congr 1
  apply List.map_congr_left
  intro j _
  show ((byteAt V (n + 1 - 1 - (j + 1)) : Nat) : Int) = (byteAt V (n - 1 - j) : Nat)
  rw [show n + 1 - 1 - (j + 1) = n - 1 - j from by omega]
/-- The number of the lowest n bytes. -/
theorem num_putL (V : Nat) : ∀ n, num (putL V n) = ((V % 256 ^ n : Nat) : Int) := by
  intro n
  induction n with
  | zero => simp [putL, num, Nat.mod_one]
  | succ n ih =>
    rw [putL_succ, num_cons, ih, putL_length, byteAt, Nat.pow_succ, Nat.mod_mul]
    rw [Int.natCast_add, Int.natCast_mul, Int.natCast_pow, Int.mul_comm, Int.add_comm]
    rfl
theorem num_put8 (V : Nat) (h : V < 18446744073709551616) : num (putL V 8) = V := by
  rw [num_putL]; omega
theorem Try.cells5 : Try.prog.cellsOf 5 = 1 := by kernel_rfl
theorem u8_range {a : Int} (h : (Lit.int .u8 a).wf = true) : 0 ≤ a ∧ a < 256 := by
  have hx : 0 ≤ a ∧ a ≤ 255 := by simpa [Lit.wf, IntKind.min, IntKind.max, IntKind.signed, IntKind.bits] using h
  omega
set_option maxRecDepth 100000 in
theorem view_bytes {H : Type} {enc : TypeId × Value → H} {W : World} {base : Nat} {v : Value} {d : DataW H} {p : List MemPlace}
    (hok : Value.okWide Try.prog W .any base 40 v) (h : DataW.Trod enc Try.prog W 0 (fun _ => true) true 40 v d p) (hlt : ∀ x ∈ p, x.block < W.heap.size) :
    ∃ (a : Option Addr) (n cap : Nat) (xs : List Int), v = .slice a n cap ∧ xs.length = n ∧ n ≤ cap ∧ cap ≤ maxLen ∧ Bytes xs ∧ (n = 0 ∨ ∃ b off, a = some ⟨b, off, none⟩ ∧ b < W.heap.size ∧ At W b off xs) := by
  obtain ⟨a0, len, cap, rfl⟩ := okWide_slice Try.underlying40 hok
  obtain ⟨fuel, hf⟩ := h
  rcases open_ints Try.underlying40 Try.underlying5 Try.cells5 hf with ⟨hcs, hx⟩ | ⟨a, len', cap', zs, hcs, _, hl, hm, hz, hx, hcell, hwz⟩
  · simp [Value.cells] at hcs
    obtain ⟨rfl, rfl, rfl⟩ := hcs
    exact ⟨none, 0, 0, [], rfl, rfl, Nat.le_refl _, Nat.zero_le _, (fun x hx => by cases hx), Or.inl rfl⟩
  · simp [Value.cells] at hcs
    obtain ⟨rfl, rfl, rfl⟩ := hcs
    simp only [Prod.mk.injEq] at hx
    obtain ⟨rfl, rfl⟩ := hx
    simp only [if_true] at hz
    have hlen : (zs.take len).length = len := by rw [List.length_take]; omega
    refine ⟨some a, len, cap, zs.take len, rfl, hlen, hl, hm, fun x hx => u8_range (hwz x (List.mem_of_mem_take hx)), ?_⟩
    by_cases hl0 : len = 0
    · exact Or.inl hl0
    · right
      obtain ⟨b, off, spot⟩ := a
      have hspot : spot = none := by simpa [Addr.add] using World.cell?_spot (hcell 0 (by omega))
      subst hspot
      refine ⟨b, off, rfl, hlt (.cell b off) (MemPlace.mem_row.2 ⟨0, by omega, by simp⟩), fun i hi => ?_⟩
      rw [hlen] at hi
      rw [← add_plain', hcell i (by omega)]
      simp [hi]
theorem conv_empty (a : Option Addr) (cap : Nat) (w : World) : (convert 40 9 (.slice a 0 cap)).run Try.prog w = .ok (.string (strOfNums [])) w := by
  cases a with
  | none => exact run_convert_bytes_nil w 40 5 Try.underlying40 Try.underlying5 0 cap 9 Try.underlying9
  | some ad =>
    rw [run_convert_bytes_string w 40 9 5 _ 0 cap Try.underlying40 Try.underlying5 Try.underlying9, run_bytesToString w ad 0 cap [] (run_loadCells_list (P := Try.prog) w ad [] (fun j v hj => by simp at hj))]
    rfl
/-- Bytes that say one number are one. -/
theorem map_byt_num : ∀ (xs ys : List Int), xs.length = ys.length → Bytes xs → Bytes ys → num xs = num ys → xs = ys := by
  intro xs
  induction xs with
  | nil => intro ys hl _ _ _; cases ys with
    | nil => rfl
    | cons y ys => simp at hl
  | cons x xs ih =>
    intro ys hl hx hy h
    cases ys with
    | nil => simp at hl
    | cons y ys =>
      have hl' : xs.length = ys.length := by simpa using hl
      have b1 := num_range xs hx.tail
      have b2 := num_range ys hy.tail
      rw [num_cons, num_cons, hl'] at h
      rw [hl'] at b1
      have hxy : x = y := by
        by_cases e : x < y
        · have := mul_gap _ x y (num xs) (num ys) e (by omega) b1.2 b2.1; omega
        · by_cases e' : y < x
          · have := mul_gap _ y x (num ys) (num xs) e' (by omega) b2.2 b1.1; omega
          · omega
      subst hxy
      rw [ih ys hl' hx.tail hy.tail (by omega)]
/-- The bytes of the number of bytes are the bytes. -/
theorem putL_num : ∀ (xs : List Int), Bytes xs → putL (num xs).toNat xs.length = xs := by
  intro xs hx
  have hr := num_range xs hx
  apply map_byt_num
  · exact putL_length _ _
  · exact putL_bytes _ _
  · exact hx
  · rw [num_putL]
    have e : (256 : Int) ^ xs.length = ((256 ^ xs.length : Nat) : Int) := by simp
    rw [e] at hr
    rw [Nat.mod_eq_of_lt (by omega)]
    omega
/-- Block g is a row of these bytes, none frozen. -/
def Row (w : World) (g : Nat) (cur : List Int) : Prop := w.heap[g]? = some (.cells (cur.map (Value.int .u8)).toArray 5 (0, 0))
theorem Row.at {w : World} {g : Nat} {cur : List Int} (h : Row w g cur) : At w g 0 cur := by
  intro i hi
  unfold Row at h
  simp [World.cell?, h, hi]
theorem Row.lt {w : World} {g : Nat} {cur : List Int} (h : Row w g cur) : g < w.heap.size := by
  obtain ⟨hlt, _⟩ := Array.getElem?_eq_some_iff.1 h
  exact hlt
theorem Row.below {w w' : World} {B g : Nat} {cur : List Int} (h : Row w g cur) (hb : Below B w w') (hB : g < B) : Row w' g cur := (hb.block g hB).trans h
theorem Row.made (w : World) (n : Nat) : Row (w.alloc (.cells (madeCells #[.int .u8 0] n) 5)) w.heap.size (List.replicate n 0) := by
  unfold Row
  have e : (w.alloc (.cells (madeCells #[.int .u8 0] n) 5)).heap[w.heap.size]? = some (.cells (madeCells #[.int .u8 0] n) 5) := by
    show (w.heap.push _)[w.heap.size]? = _
    simp
  rw [e, List.map_replicate, ← toList_madeCells_one]
theorem splice_map (L cs : List Int) (off : Nat) (f : Int → Value) : splice (L.map f) off (cs.map f) = (splice L off cs).map f := by
  simp [splice]
/-- copy of n bytes into a row of the call's own. -/
theorem wp_copy {o : Oper} {a : Act} {w : World} {K : Act → World → Prop} {Q : Exit → Act → World → Prop} (hgd : o.guard = none) (d s : Operand)
    (ho : o.op = .call { callee := .builtin .copy, args := #[d, s], argTypes := #[40, 40] }) (g off dCap n b so sCap : Nat)
    (hd : a.eval d = .slice (some ⟨g, off, none⟩) n dCap) (hs : a.eval s = .slice (some ⟨b, so, none⟩) n sCap) (cur xs : List Int)
    (hg : Row w g cur) (hn : xs.length = n) (hat : At w b so xs) (hfit : off + n ≤ cur.length) (B : Nat) (w0 : World) (hb : Below B w0 w) (hBg : B ≤ g)
    (h : ∀ w', Row w' g (splice cur off xs) → Below B w0 w' → K (a.put o.dst (goInt n)) w') : Oper.wp Try.prog o a w K Q := by
  have hw : Region.wanted o (yielded #[] a.tmps) = true := by simp [Region.wanted, hgd]
  have e : (xs.map (Value.int .u8)).length = n := by simp [hn]
  have := step_copy_splice (P := Try.prog) (ops := #[]) (o := o) (a := a) (w := w) (K := K) (Q := Q) (E := False) hgd d s 40 40 ho 5 Try.underlying40 (by kernel_rfl) (some ⟨g, off, none⟩) (some ⟨b, so, none⟩) n dCap n sCap hd hs g off
    (cur.map (Value.int .u8)) 5 hg (xs.map (Value.int .u8)) (by rw [e]; simp) (fun _ => ⟨rfl, _, rfl, fun j v hj => by
      have hj' : j < xs.length := by
        rcases Nat.lt_or_ge j xs.length with h | h
        · exact h
        · simp [List.getElem?_eq_none (show (xs.map (Value.int .u8)).length ≤ j by simpa using h)] at hj
      have hplain : (⟨b, so, none⟩ : Addr).add j = ⟨b, so + j, none⟩ := by unfold Addr.add; split <;> simp_all
      rw [hplain, hat j hj']
      simp [List.getElem?_eq_getElem hj'] at hj
      simp [← hj, List.getElem?_eq_getElem hj']⟩) (by rw [e]; simpa using hfit) (fun v hv => by
      obtain ⟨x, _, rfl⟩ := List.mem_map.1 hv
      rfl) B w0 hb hBg (fun w' hr hb' => by
      rw [e]
      refine h w' ?_ hb'
      have := hr.out
      rw [splice_map] at this
      exact this)
  rw [if_pos hw] at this
  exact this
theorem own_bytes {w : World} {base n : Nat} {v : Value} {xs : List Int} (hn : xs.length = n) (h : w.ownsRow base 5 1 v n (xs.map (Value.int .u8))) (hv : v ≠ .slice none 0 0) :
    ∃ g cap, v = .slice (some ⟨g, 0, none⟩) n cap ∧ base ≤ g ∧ g < w.heap.size ∧ n ≤ cap ∧ cap ≤ maxLen ∧ At w g 0 xs := by
  have h' := h
  obtain ⟨_, ⟨h0, _⟩ | ⟨g, cap, cur, rfl, hg, hh, hnc, hcm, _⟩⟩ := h
  · exact absurd h0 hv
  · obtain ⟨hlt, _⟩ := Array.getElem?_eq_some_iff.1 hh
    refine ⟨g, cap, rfl, hg, hlt, hnc, hcm, fun i hi => ?_⟩
    rw [Nat.zero_add, h'.cellAt i (by omega)]
    simp [hi]
theorem At.news {w : World} {b off : Nat} {xs : List Int} (h : At w b off xs) : ∀ (j : Nat) (u : Value), (xs.map (Value.int .u8))[j]? = some u → w.cell? ((⟨b, off, none⟩ : Addr).add j) = some u := by
  intro j u hj
  have hj' : j < xs.length := by
    rcases Nat.lt_or_ge j xs.length with h | h
    · exact h
    · simp [List.getElem?_eq_none (show (xs.map (Value.int .u8)).length ≤ j by simpa using h)] at hj
  rw [add_plain', h j hj']
  simp [List.getElem?_eq_getElem hj'] at hj
  simp [← hj, List.getElem?_eq_getElem hj']
theorem one_cells (xs : List Int) : ∀ (u : Value), u ∈ xs.map (Value.int .u8) → u.oneCell' = true := by
  intro u hu
  obtain ⟨x, _, rfl⟩ := List.mem_map.1 hu
  rfl
theorem Row.frozen {w : World} {g : Nat} {cur : List Int} (h : Row w g cur) (i : Nat) : w.frozen? ⟨g, i, none⟩ = false := by
  unfold Row at h
  simp [World.frozen?, h]
theorem At.setOther {w : World} {b off : Nat} {xs : List Int} (h : At w b off xs) {a : Addr} (ha : b ≠ a.block) (v : Value) : At (w.setCell a v) b off xs :=
  fun i hi => (World.cell?_of_block (w := w) (Below.heap_setCell w a v b ha)).trans (h i hi)
/-- Where a slice begins behind its first s elements. -/
def nextA (a : Option Addr) (cap s : Nat) : Option Addr := if cap = s then a else a.map (·.add s)
theorem Try.size5 : (Try.prog.info? 5).map (·.size) = some 1 := by kernel_rfl
theorem size5 (w : World) : (sizeOf 5).run Try.prog w = .ok 1 w := by
  have := Try.size5
  cases h : Try.prog.info? 5 with
  | none => rw [h] at this; simp at this
  | some i => rw [h] at this; simp at this; simp [sizeOf, typeInfo, h, this]
theorem sl_head (a : Option Addr) (len cap s : Nat) (h : s ≤ cap) (w : World) : (Instr.slice 40 (.slice a len cap) none (some (.int .i64 s)) none).run Try.prog w = .ok (.slice a s cap) w := by
  have e : (if cap = 0 then a else a.map (·.add 0)) = a := by
    split
    · rfl
    · cases a <;> simp [Addr.add]
  have hi : (asIntOf (.int .i64 s)).run Try.prog w = .ok (.i64, (s : Int)) w := rfl
  simp only [Instr.slice, Sem.run_bind, run_underlying Try.underlying40, Result.andThen_ok, size5]
  simp [Instr.sliceBounds, Instr.sliceBound, Sem.run_bind, Sem.run_pure, hi, h, e]
theorem sl_tail (a : Option Addr) (len cap s : Nat) (h : s ≤ len) (w : World) : (Instr.slice 40 (.slice a len cap) (some (.int .i64 s)) none none).run Try.prog w = .ok (.slice (nextA a cap s) (len - s) (cap - s)) w := by
  have hi : (asIntOf (.int .i64 s)).run Try.prog w = .ok (.i64, (s : Int)) w := rfl
  simp only [Instr.slice, Sem.run_bind, run_underlying Try.underlying40, Result.andThen_ok, size5]
  simp [Instr.sliceBounds, Instr.sliceBound, Sem.run_bind, Sem.run_pure, hi, h, nextA]
/-- A slice of l bytes, ys, at x; of none nothing is asked. -/
def SAt (w : World) (x : Option Addr) (l : Nat) (ys : List Int) : Prop := ys.length = l ∧ (0 < l → ∃ b o, x = some ⟨b, o, none⟩ ∧ b < w.heap.size ∧ At w b o ys)
theorem SAt.below {w w' : World} {x : Option Addr} {l : Nat} {ys : List Int} (h : SAt w x l ys) (hb : Below w.heap.size w w') : SAt w' x l ys :=
  ⟨h.1, fun hl => by
    obtain ⟨b, o, e, hlt, ha⟩ := h.2 hl
    exact ⟨b, o, e, Nat.lt_of_lt_of_le hlt hb.size, ha.below hb hlt⟩⟩
theorem SAt.conv {w : World} {x : Option Addr} {l c : Nat} {ys : List Int} (h : SAt w x l ys) : (convert 40 9 (.slice x l c)).run Try.prog w = .ok (.string (strOfNums ys)) w := by
  by_cases hl : l = 0
  · subst hl
    rw [List.eq_nil_of_length_eq_zero h.1]
    exact conv_empty x c w
  · obtain ⟨b, o, rfl, _, ha⟩ := h.2 (by omega)
    exact ha.conv h.1
theorem SAt.head {w : World} {x : Option Addr} {l s : Nat} {ys : List Int} (h : SAt w x l ys) (hs : s ≤ l) : SAt w x s (ys.take s) :=
  ⟨by rw [List.length_take, h.1]; omega, fun hl => by
    obtain ⟨b, o, e, hlt, ha⟩ := h.2 (by omega)
    exact ⟨b, o, e, hlt, ha.cut1 s (by rw [h.1]; exact hs)⟩⟩
theorem SAt.tail {w : World} {x : Option Addr} {l cap s : Nat} {ys : List Int} (h : SAt w x l ys) (hc : l ≤ cap) : SAt w (nextA x cap s) (l - s) (ys.drop s) :=
  ⟨by rw [List.length_drop, h.1], fun hl => by
    obtain ⟨b, o, rfl, hlt, ha⟩ := h.2 (by omega)
    refine ⟨b, o + s, ?_, hlt, ha.cut2 s⟩
    rw [nextA, if_neg (by omega), Option.map_some, add_plain']⟩
theorem SAt.drew {w : World} {x : Option Addr} {l : Nat} {ys : List Int} (h : SAt w x l ys) : SAt w.drew x l ys := h
/-- append of bytes to a slice of the call's own, whatever slice they come from. -/
theorem wpList_app {w : World} {ops : Array Oper} {rest : List Oper} {o : Oper} {a : Act} {Q : Exit → Act → World → Prop} (hgd : o.guard = none) (s x : Operand)
    (ho : o.op = .call { callee := .builtin .append, args := #[s, x], argTypes := #[40, 40] }) (base : Nat) (v : Value) (n : Nat) (ys : List Int) (hs : a.eval s = v) (hown : w.ownsRow base 5 1 v n (ys.map (Value.int .u8)))
    (sx : Option Addr) (l c : Nat) (zs : List Int) (hx : a.eval x = .slice sx l c) (hz : SAt w sx l zs) (hnil : sx = none → l = 0 ∧ c = 0) (hbound : n + l ≤ 100000) (hbase : base ≤ w.heap.size)
    (h : ∀ v' w', w'.ownsRow base 5 1 v' (n + l) ((ys ++ zs).map (Value.int .u8)) → Below base w w' → (v ≠ .slice none 0 0 → v' ≠ .slice none 0 0) → wpList Try.prog ops Q rest (a.put o.dst v') w') : wpList Try.prog ops Q (o :: rest) a w := by
  obtain ⟨i0, hi, hz0, hz1, hz2⟩ := info_parts Try.info5
  cases sx with
  | none =>
    obtain ⟨rfl, rfl⟩ := hnil rfl
    obtain rfl : zs = [] := List.eq_nil_of_length_eq_zero hz.1
    refine wpList_append_own_none hgd s x 40 ho base 5 i0 1 Try.underlying40 hi v n _ hs hown hx (h v w ?_ (Below.refl _ _) id)
    simpa using hown
  | some ad =>
    have hat : At w ad.block ad.off zs ∧ (0 < l → ad.spot = none) := by
      by_cases hl : 0 < l
      · obtain ⟨b, o, e, _, ha⟩ := hz.2 hl
        obtain rfl : ad = ⟨b, o, none⟩ := by simpa using e
        exact ⟨ha, fun _ => rfl⟩
      · obtain rfl : zs = [] := List.eq_nil_of_length_eq_zero (by rw [hz.1]; omega)
        exact ⟨fun i hi => by simp at hi, fun hl' => absurd hl' hl⟩
    refine wpList_append_own w hgd s x 40 ho base 5 i0 (.int .u8 0) 1 1 Try.underlying40 hi hz0 hz1 hz2 rfl (by decide) v n _ hs hown ad l c (zs.map (Value.int .u8)) hx (by simp [hz.1]) ?_ (one_cells zs) (by unfold maxLen; omega) (by omega) hbase ?_
    · by_cases hl : 0 < l
      · obtain ⟨b, o, spot⟩ := ad
        obtain rfl : spot = none := hat.2 hl
        exact hat.1.news
      · obtain rfl : zs = [] := List.eq_nil_of_length_eq_zero (by rw [hz.1]; omega)
        intro j u hj
        simp at hj
    · intro v' w' h1 h2 h3
      refine h v' w' (by rw [List.map_append]; exact h1) ((Below.refl _ _).grown h2 hbase (own_block hown)) (fun hv e => hv (h3.1 e).1)
theorem own_not_nil {w : World} {base n : Nat} {v : Value} {xs : List Value} {e : TypeId} {size : Nat} (h : w.ownsRow base e size v n xs) (hn : n ≠ 0) : v ≠ .slice none 0 0 := by
  obtain ⟨_, ⟨_, h0⟩ | ⟨g, cap, cur, rfl, _⟩⟩ := h
  · exact absurd h0 hn
  · exact fun e => by cases e
theorem own_frozen {w : World} {base e size n g cap : Nat} {xs : List Value} (h : w.ownsRow base e size (.slice (some ⟨g, 0, none⟩) n cap) n xs) (i : Nat) : w.frozen? ⟨g, i, none⟩ = false := by
  obtain ⟨_, ⟨h0, _⟩ | ⟨g', cap', cur, e', hg, hh, _⟩⟩ := h
  · cases h0
  · obtain rfl : g = g' := by simp at e'; exact e'.1
    simp [World.frozen?, hh]
theorem own_sat {w : World} {base n : Nat} {v : Value} {xs : List Int} (hn : xs.length = n) (h : w.ownsRow base 5 1 v n (xs.map (Value.int .u8))) : ∃ x c, v = .slice x n c ∧ SAt w x n xs := by
  have h' := h
  obtain ⟨_, ⟨rfl, rfl⟩ | ⟨g, cap, cur, rfl, hg, hh, hnc, hcm, _⟩⟩ := h
  · exact ⟨none, 0, rfl, hn, fun h => absurd h (by omega)⟩
  · obtain ⟨hlt, _⟩ := Array.getElem?_eq_some_iff.1 hh
    refine ⟨_, cap, rfl, hn, fun _ => ⟨g, 0, rfl, hlt, fun i hi => ?_⟩⟩
    rw [Nat.zero_add, h'.cellAt i (by omega)]
    simp [hi]
/-- append of bytes to a slice of the call's own, whatever slice they come from, at one operation. -/
theorem wp_app {w : World} {o : Oper} {a : Act} {K : Act → World → Prop} {Q : Exit → Act → World → Prop} (s x : Operand)
    (ho : o.op = .call { callee := .builtin .append, args := #[s, x], argTypes := #[40, 40] }) (base : Nat) (v : Value) (n : Nat) (ys : List Int) (hs : a.eval s = v) (hown : w.ownsRow base 5 1 v n (ys.map (Value.int .u8)))
    (sx : Option Addr) (l c : Nat) (zs : List Int) (hx : a.eval x = .slice sx l c) (hz : SAt w sx l zs) (hnil : sx = none → l = 0 ∧ c = 0) (hbound : n + l ≤ 100000) (hbase : base ≤ w.heap.size)
    (h : ∀ v' w', w'.ownsRow base 5 1 v' (n + l) ((ys ++ zs).map (Value.int .u8)) → w.grownBy w' v.ownBlock → (v ≠ .slice none 0 0 → v' ≠ .slice none 0 0) → K (a.put o.dst v') w') : o.wp Try.prog a w K Q := by
  obtain ⟨i0, hi, hz0, hz1, hz2⟩ := info_parts Try.info5
  cases sx with
  | none =>
    obtain ⟨rfl, rfl⟩ := hnil rfl
    obtain rfl : zs = [] := List.eq_nil_of_length_eq_zero hz.1
    have hr := run_append_owned_none (P := Try.prog) w base 40 o.type 5 i0 1 Try.underlying40 hi v n _ hown
    unfold Oper.wp execOp
    simp only [ho, resolve, invoke, builtin, Sem.run_bind, Sem.run_pure, Result.andThen_ok, List.map_toArray, List.map_cons, List.map_nil, hs, hx, hr]
    refine h v w ?_ ⟨rfl, rfl, rfl, Nat.le_refl _, fun _ _ _ => rfl⟩ id
    simpa using hown
  | some ad =>
    have hat : At w ad.block ad.off zs ∧ (0 < l → ad.spot = none) := by
      by_cases hl : 0 < l
      · obtain ⟨b, o, e, _, ha⟩ := hz.2 hl
        obtain rfl : ad = ⟨b, o, none⟩ := by simpa using e
        exact ⟨ha, fun _ => rfl⟩
      · obtain rfl : zs = [] := List.eq_nil_of_length_eq_zero (by rw [hz.1]; omega)
        exact ⟨fun i hi => by simp at hi, fun hl' => absurd hl' hl⟩
    refine wp_append_own w s x 40 ho base 5 i0 (.int .u8 0) 1 1 Try.underlying40 hi hz0 hz1 hz2 rfl (by decide) v n _ hs hown ad l c (zs.map (Value.int .u8)) hx (by simp [hz.1]) ?_ (one_cells zs) (by unfold maxLen; omega) (by omega) hbase ?_
    · by_cases hl : 0 < l
      · obtain ⟨b, o, spot⟩ := ad
        obtain rfl : spot = none := hat.2 hl
        exact hat.1.news
      · obtain rfl : zs = [] := List.eq_nil_of_length_eq_zero (by rw [hz.1]; omega)
        intro j u hj
        simp at hj
    · intro v' w' h1 h2 h3
      exact h v' w' (by rw [List.map_append]; exact h1) h2 (fun hv e => hv (h3.1 e).1)
theorem own_grown {w w' : World} {base n : Nat} {e : TypeId} {size : Nat} {v : Value} {xs : List Value} (h : w.ownsRow base e size v n xs) (hb : Below w.heap.size w w') : w'.ownsRow base e size v n xs :=
  h.kept (row := none) ⟨hb.os, hb.tape, hb.output, hb.size, fun k hk _ => hb.block k hk⟩ (by cases hv : v.ownBlock <;> simp)
theorem Row.sat {w : World} {g n : Nat} {cur : List Int} (h : Row w g cur) (hn : cur.length = n) : SAt w (some ⟨g, 0, none⟩) n cur := ⟨hn, fun _ => ⟨g, 0, rfl, h.lt, h.at⟩⟩
theorem At.sat {w : World} {g o n : Nat} {cur : List Int} (h : At w g o cur) (hg : g < w.heap.size) (hn : cur.length = n) : SAt w (some ⟨g, o, none⟩) n cur := ⟨hn, fun _ => ⟨g, o, rfl, hg, h⟩⟩
theorem SAt.none (w : World) (x : Option Addr) : SAt w x 0 [] := ⟨rfl, fun h => absurd h (by omega)⟩
theorem At.one (w : World) (z : Int) : At (w.alloc (.cells #[.int .u8 z] 5)) w.heap.size 0 [z] := by
  intro i hi
  simp at hi
  subst hi
  simp
/-- What is answered is a slice of these bytes. -/
def Gives (e : Ending) (w : World) (ys : List Int) : Prop := ∃ x l c, e = .returned (.slice x l c) ∧ SAt w x l ys ∧ l ≤ c ∧ c ≤ maxLen ∧ (x = none → l = 0 ∧ c = 0)
theorem own_gives {w : World} {base n : Nat} {v : Value} {xs : List Int} (hn : xs.length = n) (h : w.ownsRow base 5 1 v n (xs.map (Value.int .u8))) : Gives (.returned v) w xs := by
  have h' := h
  obtain ⟨_, ⟨rfl, h0⟩ | ⟨g, cap, cur, rfl, hg, hh, hnc, hcm, _⟩⟩ := h
  · subst h0
    exact ⟨none, 0, 0, rfl, ⟨hn, fun h => absurd h (by omega)⟩, Nat.le_refl _, Nat.zero_le _, fun _ => ⟨rfl, rfl⟩⟩
  · obtain ⟨hlt, _⟩ := Array.getElem?_eq_some_iff.1 hh
    refine ⟨_, n, cap, rfl, ⟨hn, fun _ => ⟨g, 0, rfl, hlt, fun i hi => ?_⟩⟩, hnc, hcm, fun h => by cases h⟩
    rw [Nat.zero_add, h'.cellAt i (by omega)]
    simp [hi]
/-- A row of the call's own, as a slice of bytes. -/
theorem own_slice {w : World} {base n : Nat} {v : Value} {xs : List Int} (hn : xs.length = n) (h : w.ownsRow base 5 1 v n (xs.map (Value.int .u8))) : ∃ x c, v = .slice x n c ∧ SAt w x n xs ∧ n ≤ c ∧ c ≤ maxLen ∧ (x = none → n = 0 ∧ c = 0) := by
  obtain ⟨x, l, c, e, hs, h1, h2, h3⟩ := own_gives hn h
  obtain rfl : v = .slice x l c := by simpa using e
  obtain rfl : n = l := by rw [← hn, hs.1]
  exact ⟨x, c, rfl, hs, h1, h2, h3⟩
/-- Sixteen bytes, number i. -/
def six (ys : List Int) (i : Nat) : List Int := (ys.drop (16 * i)).take 16
theorem six_bytes {ys : List Int} (h : Bytes ys) (i : Nat) : Bytes (six ys i) := (h.drop _).take _
/-- b[s:t]. -/
theorem sl_mid (a : Option Addr) (len cap s t : Nat) (h1 : s ≤ t) (h2 : t ≤ cap) (w : World) : (Instr.slice 40 (.slice a len cap) (some (.int .i64 s)) (some (.int .i64 t)) none).run Try.prog w = .ok (.slice (nextA a cap s) (t - s) (cap - s)) w := by
  have hi : (asIntOf (.int .i64 s)).run Try.prog w = .ok (.i64, (s : Int)) w := rfl
  have hj : (asIntOf (.int .i64 t)).run Try.prog w = .ok (.i64, (t : Int)) w := rfl
  simp only [Instr.slice, Sem.run_bind, run_underlying Try.underlying40, Result.andThen_ok, size5]
  simp [Instr.sliceBounds, Instr.sliceBound, Sem.run_bind, Sem.run_pure, hi, hj, h1, h2, nextA]
theorem six_at {w : World} {g : Nat} {ys : List Int} (h : At w g 0 ys) (k : Nat) (hk : 16 * k + 16 ≤ ys.length) : At w g (16 * k) (six ys k) := by
  have := (h.cut2 (16 * k)).cut1 16 (by rw [List.length_drop]; omega)
  rw [Nat.zero_add] at this
  exact this
theorem six_length (ys : List Int) (k : Nat) (hk : 16 * k + 16 ≤ ys.length) : (six ys k).length = 16 := by
  rw [six, List.length_take, List.length_drop]
  omega
def slLen : Value → Nat
  | .slice _ m _ => m
  | _ => 0
theorem At.cut1' {w : World} {b off : Nat} {xs : List Int} (h : At w b off xs) (k : Nat) : At w b off (xs.take k) := by
  by_cases hk : k ≤ xs.length
  · exact h.cut1 k hk
  · rw [List.take_of_length_le (by omega)]
    exact h
/-- copy of bytes into a row of the call's own: as many as fit. -/
theorem wp_copy2 {o : Oper} {a : Act} {w : World} {K : Act → World → Prop} {Q : Exit → Act → World → Prop} (hgd : o.guard = none) (d s : Operand)
    (ho : o.op = .call { callee := .builtin .copy, args := #[d, s], argTypes := #[40, 40] }) (g off dl dCap n b so sCap : Nat)
    (hd : a.eval d = .slice (some ⟨g, off, none⟩) dl dCap) (hs : a.eval s = .slice (some ⟨b, so, none⟩) n sCap) (cur xs : List Int)
    (hg : Row w g cur) (hn : xs.length = n) (hat : At w b so xs) (hfit : off + min n dl ≤ cur.length) (B : Nat) (w0 : World) (hb : Below B w0 w) (hBg : B ≤ g)
    (h : ∀ w', Row w' g (splice cur off (xs.take dl)) → Below B w0 w' → K (a.put o.dst (goInt (min n dl : Nat))) w') : Oper.wp Try.prog o a w K Q := by
  have hw : Region.wanted o (yielded #[] a.tmps) = true := by simp [Region.wanted, hgd]
  have e : ((xs.take dl).map (Value.int .u8)).length = min n dl := by simp [hn, Nat.min_comm]
  have := step_copy_splice (P := Try.prog) (ops := #[]) (o := o) (a := a) (w := w) (K := K) (Q := Q) (E := False) hgd d s 40 40 ho 5 Try.underlying40 (by kernel_rfl) (some ⟨g, off, none⟩) (some ⟨b, so, none⟩) dl dCap n sCap hd hs g off
    (cur.map (Value.int .u8)) 5 hg ((xs.take dl).map (Value.int .u8)) (by rw [e]) (fun _ => ⟨rfl, _, rfl, (hat.cut1' dl).news⟩) (by rw [e]; simpa using hfit) (one_cells _) B w0 hb hBg (fun w' hr hb' => by
      rw [e]
      refine h w' ?_ hb'
      have := hr.out
      rw [splice_map] at this
      exact this)
  rw [if_pos hw] at this
  exact this
/-- copy of whatever slice of bytes into a row of the call's own: as many as fit. -/
theorem wpList_copyS {ops : Array Oper} {rest : List Oper} {o : Oper} {a : Act} {w : World} {Q : Exit → Act → World → Prop} (hgd : o.guard = none) (d s : Operand)
    (ho : o.op = .call { callee := .builtin .copy, args := #[d, s], argTypes := #[40, 40] }) (g off dl dCap n sCap : Nat) (sx : Option Addr)
    (hd : a.eval d = .slice (some ⟨g, off, none⟩) dl dCap) (hs : a.eval s = .slice sx n sCap) (cur xs : List Int)
    (hg : Row w g cur) (hx : SAt w sx n xs) (hfit : off + min n dl ≤ cur.length) (B : Nat) (w0 : World) (hb : Below B w0 w) (hBg : B ≤ g)
    (h : ∀ w', Row w' g (splice cur off (xs.take dl)) → Below B w0 w' → wpList Try.prog ops Q rest (a.put o.dst (goInt (min n dl : Nat))) w') : wpList Try.prog ops Q (o :: rest) a w := by
  have hw : Region.wanted o (yielded ops a.tmps) = true := by simp [Region.wanted, hgd]
  have e : ((xs.take dl).map (Value.int .u8)).length = min n dl := by simp [hx.1, Nat.min_comm]
  have := step_copy_splice (P := Try.prog) (ops := ops) (o := o) (a := a) (w := w) (K := wpList Try.prog ops Q rest) (Q := Q) (E := False) hgd d s 40 40 ho 5 Try.underlying40 (by kernel_rfl) (some ⟨g, off, none⟩) sx dl dCap n sCap hd hs g off
    (cur.map (Value.int .u8)) 5 hg ((xs.take dl).map (Value.int .u8)) (by rw [e]) (fun hp => by
      obtain ⟨b, so, rfl, _, hat⟩ := hx.2 (by rw [e] at hp; omega)
      exact ⟨rfl, _, rfl, (hat.cut1' dl).news⟩) (by rw [e]; simpa using hfit) (one_cells _) B w0 hb hBg (fun w' hr hb' => by
      rw [e]
      refine h w' ?_ hb'
      have := hr.out
      rw [splice_map] at this
      exact this)
  rw [if_pos hw] at this
  unfold wpList
  rw [if_pos hw]
  exact Or.inl this
theorem At.put1 {w : World} {b o : Nat} {xs : List Int} (h : At w b o xs) (j : Nat) (hj : j < xs.length) (v : Int) : At (w.setCell ⟨b, o + j, none⟩ (.int .u8 v)) b o (xs.set j v) := by
  intro i hi
  rw [List.length_set] at hi
  by_cases e : i = j
  · subst e
    rw [World.cell?_setCell_same _ _ _ (h i hi)]
    simp [hj]
  · rw [World.cell?_setCell_other _ _ _ _ (by simp), h i hi]
    simp [Ne.symm e]
end Go.Proofs.Ytkbhkgfchiacbaa
