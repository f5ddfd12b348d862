/- OwnB Num Hid Law: texts laid together. -/
import Derived.WalkKit
import Derived.WalkSpells
import Derived.WalkLawsBesides
import Derived.Deep.OwnRows
import Derived.Test.YtkbhkgfchiacbaaRows
import Derived.ProofKit
import Derived.OpenShut
import Derived.SizedLaws

/- Where a row of one's own stands. -/
namespace Go.Proofs.Ytkbhkgfchiacbaa
open Go.RowKit
set_option maxRecDepth 20000

theorem own_block {w : World} {base e size n : Nat} {v : Value} {xs : List Value} (h : w.ownsRow base e size v n xs) : ∀ k, v.ownBlock = some k → base ≤ k := by
  intro k hk
  obtain ⟨_, ⟨rfl, _⟩ | ⟨g, cap, cur, rfl, hg, _⟩⟩ := h
  · simp [Value.ownBlock] at hk
  · simp [Value.ownBlock] at hk; omega
theorem add_plain' (b off i : Nat) : (⟨b, off, none⟩ : Addr).add i = ⟨b, off + i, none⟩ := by unfold Addr.add; split <;> simp_all
end Go.Proofs.Ytkbhkgfchiacbaa


/- Plain facts on bytes and numbers: the number that bytes say, the highest first, and its bytes. -/
namespace Go.Proofs.Ytkbhkgfchiacbaa
open Go.RowKit
set_option maxRecDepth 20000

/-- Byte number j of V, counted from the lowest. -/
def byteAt (V j : Nat) : Nat := V / 256 ^ j % 256
theorem byteAt_lt (V j : Nat) : byteAt V j < 256 := Nat.mod_lt _ (by decide)

theorem pow_step {n k : Nat} (h1 : 1 ≤ k) (h2 : k ≤ n) : n - (k - 1) = n - k + 1 := by omega
theorem shr_step (V n k : Nat) (h1 : 1 ≤ k) (h2 : k ≤ n) : (V : Int) / 256 ^ (n - k) / 256 = ((V / 256 ^ (n - (k - 1)) : Nat) : Int) := by
  rw [pow_step h1 h2, Nat.pow_succ, ← Nat.div_div_eq_div_mul]; simp
theorem byte_step (V n k : Nat) (h1 : 1 ≤ k) (h2 : k ≤ n) : (V : Int) / 256 ^ (n - k) % 256 = (byteAt V (n - 1 - (k - 1)) : Nat) := by
  rw [show n - 1 - (k - 1) = n - k from by omega, byteAt]; simp

/-- Cells that are bytes. -/
def Bytes (xs : List Int) : Prop := ∀ x ∈ xs, 0 ≤ x ∧ x < 256
theorem Bytes.take {xs : List Int} (h : Bytes xs) (k : Nat) : Bytes (xs.take k) := fun x hx => h x (List.mem_of_mem_take hx)
theorem Bytes.drop {xs : List Int} (h : Bytes xs) (k : Nat) : Bytes (xs.drop k) := fun x hx => h x (List.mem_of_mem_drop hx)
theorem Bytes.at {xs : List Int} (h : Bytes xs) (k : Nat) (hk : k < xs.length) : 0 ≤ xs[k] ∧ xs[k] < 256 := h _ (List.getElem_mem hk)
theorem Bytes.append {xs ys : List Int} (h : Bytes xs) (h' : Bytes ys) : Bytes (xs ++ ys) := fun x hx => (List.mem_append.1 hx).elim (h x) (h' x)

/-- The number of bytes, the highest first. -/
def num (xs : List Int) : Int := xs.foldl (fun v x => v * 256 + x) 0
theorem num_snoc (xs : List Int) (x : Int) : num (xs ++ [x]) = num xs * 256 + x := by simp [num]
theorem num_take (xs : List Int) (k : Nat) (hk : k < xs.length) : num (xs.take (k + 1)) = num (xs.take k) * 256 + xs[k] := by
  rw [List.take_succ_eq_append_getElem hk, num_snoc]
theorem num_bound (xs : List Int) (h : Bytes xs) : ∀ k, k ≤ xs.length → 0 ≤ num (xs.take k) ∧ num (xs.take k) < 256 ^ k := by
  intro k
  induction k with
  | zero => intro _; simp [num]
  | succ k ih =>
    intro hk
    have := ih (by omega)
    have hb := h.at k (by omega)
    rw [num_take xs k (by omega), Int.pow_succ]
    omega
theorem pow_le8 (k : Nat) (h : k ≤ 8) : (256 : Int) ^ k ≤ 18446744073709551616 := by
  have : k = 0 ∨ k = 1 ∨ k = 2 ∨ k = 3 ∨ k = 4 ∨ k = 5 ∨ k = 6 ∨ k = 7 ∨ k = 8 := by omega
  rcases this with rfl | rfl | rfl | rfl | rfl | rfl | rfl | rfl | rfl <;> decide
theorem num_lt (xs : List Int) (h : Bytes xs) (hl : xs.length ≤ 8) : 0 ≤ num xs ∧ num xs < 18446744073709551616 := by
  have := num_bound xs h xs.length (Nat.le_refl _)
  rw [List.take_length] at this
  have := pow_le8 _ hl
  omega

theorem or_step (a x : Int) (h0 : 0 ≤ a) (h1 : a * 256 + x < 18446744073709551616) (h2 : 0 ≤ x) (h3 : x < 256) :
    bits .or .u64 (IntKind.u64.wrap (a * 256)) (IntKind.u64.wrap x) = a * 256 + x := by
  have e1 : IntKind.u64.wrap (a * 256) = a * 256 := by rw [IntKind.wrap_u64]; omega
  have e2 : IntKind.u64.wrap x = x := by rw [IntKind.wrap_u64]; omega
  rw [e1, e2, u64_or _ _ (by omega) (by omega) h2 (by omega), nat_join 8 _ _ (by omega) (by omega)]
  omega

theorem num_step (xs : List Int) (h : Bytes xs) (hl : xs.length ≤ 8) (k : Nat) (hk : k < xs.length) :
    bits .or .u64 (IntKind.u64.wrap (num (xs.take k) * 256)) (IntKind.u64.wrap xs[k]) = num (xs.take (k + 1)) := by
  have b1 := num_bound xs h k (by omega)
  have b2 := num_bound xs h (k + 1) (by omega)
  have b3 := pow_le8 (k + 1) (by omega)
  have b4 := h.at k hk
  rw [num_take xs k hk] at b2 ⊢
  exact or_step _ _ b1.1 (by omega) b4.1 b4.2

end Go.Proofs.Ytkbhkgfchiacbaa


/- A fact that the walks leave alone. -/
namespace Go.Proofs.Ytkbhkgfchiacbaa
open Go.RowKit
set_option maxRecDepth 20000
theorem hide' {p : Prop} (h : p) : Hid p := h
end Go.Proofs.Ytkbhkgfchiacbaa


/- A law's row out of its walk: it returns true, and nothing that was there before the call has turned. -/
namespace Go.Proofs.Ytkbhkgfchiacbaa
open Go.ChangeShapes Go.WideShapes Go.ChangeAt Go.RowKit
set_option maxRecDepth 20000

theorem Try.own : ownKnob Try.prog.godebug = none := by kernel_rfl
theorem Try.laidOut : laidOutB Try.prog = true := by kernel_rfl

section
variable {H : Type} {enc : TypeId × Value → H} {P : Program}
theorem trodAll_below (hl : laidOutB P = true) {W W' : World} (hb : Below W.heap.size W W') :
    ∀ (ts : List TypeId) (vs : List Value) (ds : List (DataW H)) (ps : List MemPlace), (∀ t ∈ ts, P.readableRec t = true ∧ t < P.types.size) →
      DataW.TrodAll enc P W 0 (fun _ => true) true ts vs ds ps → (∀ x ∈ ps, x.block < W.heap.size) → DataW.TrodAll enc P W' 0 (fun b => decide (b < W.heap.size)) true ts vs ds ps
  | [], vs, ds, ps, _, h, _ => by
    obtain ⟨rfl, rfl, rfl⟩ := trodAll_nil h
    exact trodAll_mk0
  | t :: ts, vs, ds, ps, ht, h, hlt => by
    obtain ⟨v, vs1, d, ds1, a, b, rfl, rfl, rfl, h1, h2⟩ := trodAll_cons h
    exact trodAll_cons_mk (Below.trod hl (ht t List.mem_cons_self).1 (ht t List.mem_cons_self).2 h1 hb (fun x hx => hlt x (List.mem_append.2 (Or.inl hx))))
      (trodAll_below hl hb ts vs1 ds1 b (fun t' h' => ht t' (List.mem_cons_of_mem _ h')) h2 (fun x hx => hlt x (List.mem_append.2 (Or.inr hx))))

/-- The row's end: the law returned true, and below the old heap's size nothing has turned. -/
theorem law_post {f : Func} {s : ChangeSpec} {apart fresh handsOn : Bool} {W W' : World} {args : Array Value} {ds gs : List (DataW H)} {before : List MemPlace} {tb : TypeId}
    (hl : laidOutB P = true) (hts : ∀ t ∈ f.params.toList, P.readableRec t = true ∧ t < P.types.size) (hr : f.resultTypes = #[tb]) (h4 : P.underlying tb = some .bool) (hv : s.vars = [])
    (hW : DataW.Whole enc P f.params.toList s.vars apart W args.toList ds gs before)
    (hfn : s.fn H ds = { results := [.lit (.bool true)], args := ds }) (hb : Below W.heap.size W W') :
    s.post enc P f apart fresh handsOn false W args (.bool true) W' := by
  have hW0 := hW
  obtain ⟨p, q, hA, hV, rfl, hfz, hnd⟩ := hW
  rw [hv] at hV
  obtain ⟨rfl, rfl⟩ := trodVars_none hV
  have hlt : ∀ x ∈ p, x.block < W.heap.size := fun x hx => hW0.lt x (by simpa using hx)
  refine ⟨ds, [], p ++ [], [], p, [], hW0, ?_, ?_, ?_, hb.frame _, fun h => by cases h⟩
  · rw [hr, List.append_nil, hfn]
    exact trodAll_mk1 (shut_bool h4 _)
  · rw [List.append_nil, hfn]
    exact trodAll_below hl hb _ _ _ _ hts hA hlt
  · rw [hv, List.append_nil, hfn]
    rfl
end
end Go.Proofs.Ytkbhkgfchiacbaa
