/- OffA Off Region Spk: texts laid together. -/
import Derived.Test.YtkbhkgfchiacbaaM01
import Derived.Test.YtkbhkgfchiacbaaRows
import Derived.WalkKit
import Derived.WalkSpells
import Derived.WalkLawsBesides
import Derived.Deep.OwnRows
import Derived.Handy
import Derived.Test.YtkbhkgfchiacbaaBAt
import Derived.Deep.RegionHeld
import Derived.BigRegion

/- What turns when an object that has memory of its own is called: blocks of F, and new ones; all else stays. Rows of structs, cell by cell. -/
namespace Go.Proofs.Ytkbhkgfchiacbaa
open Go.RowKit
set_option maxRecDepth 20000

/-- Nothing has turned but in blocks of F, and in new ones. -/
structure Off (F : Nat → Prop) (w w' : World) : Prop where
  os : w'.os = w.os
  tape : w'.tape = w.tape
  output : w'.output = w.output
  size : w.heap.size ≤ w'.heap.size
  block : ∀ k, k < w.heap.size → ¬ F k → w'.heap[k]? = w.heap[k]?
theorem Off.refl (F : Nat → Prop) (w : World) : Off F w w := ⟨rfl, rfl, rfl, Nat.le_refl _, fun _ _ _ => rfl⟩
theorem Off.trans {F G : Nat → Prop} {a b c : World} (h : Off F a b) (k : Off G b c) (hG : ∀ i, G i → F i ∨ a.heap.size ≤ i) : Off F a c :=
  ⟨k.os.trans h.os, k.tape.trans h.tape, k.output.trans h.output, Nat.le_trans h.size k.size, fun i hi hF =>
    (k.block i (Nat.lt_of_lt_of_le hi h.size) (fun hg => (hG i hg).elim hF (fun e => absurd e (Nat.not_le.2 hi)))).trans (h.block i hi hF)⟩
theorem Off.mono {F G : Nat → Prop} {a b : World} (h : Off F a b) (hG : ∀ i, F i → G i ∨ a.heap.size ≤ i) : Off G a b :=
  ⟨h.os, h.tape, h.output, h.size, fun i hi hg => h.block i hi (fun hf => (hG i hf).elim hg (fun e => absurd e (Nat.not_le.2 hi)))⟩
theorem Off.of_below {F : Nat → Prop} {w w' : World} (h : Below w.heap.size w w') : Off F w w' := ⟨h.os, h.tape, h.output, h.size, fun k hk _ => h.block k hk⟩
theorem Off.below {F : Nat → Prop} {w w' : World} {B : Nat} (h : Off F w w') (hF : ∀ k, F k → B ≤ k) (hB : B ≤ w.heap.size) : Below B w w' :=
  ⟨h.os, h.tape, h.output, h.size, fun k hk => h.block k (Nat.lt_of_lt_of_le hk hB) (fun hf => absurd (hF k hf) (Nat.not_le.2 hk))⟩
theorem Off.none {F : Nat → Prop} {w w' : World} (h : Off F w w') (hF : ∀ k, F k → w.heap.size ≤ k) : Below w.heap.size w w' := h.below hF (Nat.le_refl _)
theorem Off.drew {F : Nat → Prop} {a w : World} (h : Off F a w) : Off F a w.drew := ⟨h.os, h.tape, h.output, h.size, h.block⟩
theorem Off.alloc {F : Nat → Prop} {a w : World} (h : Off F a w) (o : Obj) : Off F a (w.alloc o) :=
  h.trans (G := fun _ => False) (Off.of_below ((Below.refl _ _).alloc (Nat.le_refl _) o)) (fun _ h => h.elim)
theorem Off.setCell {F : Nat → Prop} {a w : World} (h : Off F a w) {p : Addr} (hp : F p.block ∨ a.heap.size ≤ p.block) (u : Value) : Off F a (w.setCell p u) :=
  h.trans (G := fun k => k = p.block) ⟨rfl, rfl, rfl, by simp, fun k _ hk => Below.heap_setCell w p u k hk⟩ (fun i hi => by subst hi; exact hp)
theorem Off.grown {F : Nat → Prop} {a w w' : World} {row : Option Nat} (h : Off F a w) (hg : w.grownBy w' row) (hr : ∀ k, row = some k → F k ∨ a.heap.size ≤ k) : Off F a w' :=
  h.trans (G := fun k => row = some k) ⟨hg.os, hg.tape, hg.output, hg.size, fun k hk hn => hg.block k hk (fun e => hn e.symm)⟩ hr
theorem Off.more {F : Nat → Prop} {a w w' : World} (h : Off F a w) (hb : Below w.heap.size w w') : Off F a w' := h.trans (G := fun _ => False) (Off.of_below hb) (fun _ h => h.elim)
theorem off_block {F : Nat → Prop} {w w' : World} {b : Nat} {o : Obj} (h : w.heap[b]? = some o) (hb : Off F w w') (hn : ¬ F b) : w'.heap[b]? = some o := by
  obtain ⟨hlt, _⟩ := Array.getElem?_eq_some_iff.1 h
  exact (hb.block b hlt hn).trans h
theorem Off.cell {F : Nat → Prop} {w w' : World} (h : Off F w w') {p : Addr} (hlt : p.block < w.heap.size) (hn : ¬ F p.block) : w'.cell? p = w.cell? p := World.cell?_of_block (w := w) (h.block p.block hlt hn)
theorem Off.frozen {F : Nat → Prop} {w w' : World} (h : Off F w w') {p : Addr} (hlt : p.block < w.heap.size) (hn : ¬ F p.block) : w'.frozen? p = w.frozen? p := World.frozen?_of_block (w := w) (h.block p.block hlt hn)
theorem own_off {F : Nat → Prop} {w w' : World} {base e size n : Nat} {v : Value} {xs : List Value} (h : w.ownsRow base e size v n xs) (hb : Off F w w') (hn : ∀ k, v.ownBlock = some k → ¬ F k) : w'.ownsRow base e size v n xs := by
  obtain ⟨h1, h2 | ⟨g, cap, cur, rfl, hg, hh, rest⟩⟩ := h
  · exact ⟨h1, Or.inl h2⟩
  · exact ⟨h1, Or.inr ⟨g, cap, cur, rfl, hg, off_block hh hb (hn g rfl), rest⟩⟩
/-- The row of the call's own lies in a block of its element's type. -/
theorem own_type {w : World} {base e size n : Nat} {v : Value} {xs : List Value} (h : w.ownsRow base e size v n xs) {k : Nat} (hk : v.ownBlock = some k) : ∃ cur, w.heap[k]? = some (.cells cur e (0, 0)) := by
  obtain ⟨_, ⟨rfl, _⟩ | ⟨g, cap, cur, rfl, hg, hh, _⟩⟩ := h
  · simp [Value.ownBlock] at hk
  · obtain rfl : g = k := by simpa [Value.ownBlock] using hk
    exact ⟨cur, hh⟩
/-- n structs, cell by cell. -/
def flatG (f : Nat → List Value) : Nat → List Value
  | 0 => []
  | n + 1 => flatG f n ++ f n
theorem flatG_len {f : Nat → List Value} {s : Nat} (hs : ∀ i, (f i).length = s) : ∀ n, (flatG f n).length = n * s
  | 0 => by simp [flatG]
  | n + 1 => by rw [flatG, List.length_append, flatG_len hs n, hs, Nat.succ_mul]
theorem flatG_get {f : Nat → List Value} {s : Nat} (hs : ∀ i, (f i).length = s) : ∀ n i j, i < n → j < s → (flatG f n)[i * s + j]? = (f i)[j]?
  | 0, i, _, h, _ => absurd h (by omega)
  | n + 1, i, j, h, hj => by
    have hl := flatG_len hs n
    rw [flatG]
    by_cases e : i = n
    · subst e
      rw [List.getElem?_append_right (by omega), hl, Nat.add_sub_cancel_left]
    · have h1 : i * s + j < n * s := by
        have : (i + 1) * s ≤ n * s := Nat.mul_le_mul_right s (by omega)
        rw [Nat.succ_mul] at this
        omega
      rw [List.getElem?_append_left (by omega)]
      exact flatG_get hs n i j (by omega) hj
theorem flatG_congr {f g : Nat → List Value} : ∀ n, (∀ i, i < n → f i = g i) → flatG f n = flatG g n
  | 0, _ => rfl
  | n + 1, h => by rw [flatG, flatG, flatG_congr n (fun i hi => h i (by omega)), h n (by omega)]
/-- A cell of a row of the call's own. -/
theorem own_cell {w : World} {base e size n : Nat} {v : Value} {xs : List Value} (h : w.ownsRow base e size v n xs) {i : Nat} {u : Value} (hu : xs[i]? = some u) : ∃ g cap, v = .slice (some ⟨g, 0, Option.none⟩) n cap ∧ n ≤ cap ∧ g < w.heap.size ∧ w.cell? ⟨g, i, Option.none⟩ = some u := by
  have hi : i < xs.length := by
    rcases Nat.lt_or_ge i xs.length with h | h
    · exact h
    · rw [List.getElem?_eq_none h] at hu
      cases hu
  obtain ⟨h1, ⟨rfl, h0⟩ | ⟨g, cap, cur, rfl, hg, hh, hnc, hcm, hsz, htk⟩⟩ := h
  · subst h0
    omega
  · obtain ⟨hlt, _⟩ := Array.getElem?_eq_some_iff.1 hh
    refine ⟨g, cap, rfl, hnc, hlt, ?_⟩
    rw [← htk, List.getElem?_take] at hu
    rw [if_pos (by omega)] at hu
    simpa [World.cell?, hh] using hu
theorem own_is {w : World} {base e size n : Nat} {v : Value} {xs : List Value} (h : w.ownsRow base e size v n xs) : ∃ y cy, v = .slice y n cy ∧ n ≤ cy ∧ cy ≤ maxLen ∧ (y = Option.none → n = 0 ∧ cy = 0) := by
  obtain ⟨_, ⟨rfl, h0⟩ | ⟨g, cap, cur, rfl, _, _, hnc, hcm, _⟩⟩ := h
  · exact ⟨Option.none, 0, by rw [h0], by omega, Nat.zero_le _, fun _ => ⟨h0, rfl⟩⟩
  · exact ⟨_, cap, rfl, hnc, hcm, fun e => by cases e⟩
/-- append to a row that somebody owns: it is his block still, or a new one. -/
theorem run_append_at {P : Program} (w : World) (base : Nat) (t ty e : TypeId) (i : TypeInfo) (z : Value) (size bytes : Nat) (ht : P.underlying t = some (.slice e)) (hi : P.info? e = some i) (hz : i.zero = some z)
    (hsize : i.size = size) (hby : i.bytes = bytes) (hzs : z.cells.size = size) (hsz : 0 < size)
    (v : Value) (n : Nat) (xs : List Value) (hown : w.ownsRow base e size v n xs)
    (a : Addr) (m c : Nat) (news : List Value) (hl : news.length = m * size) (hnews : ∀ j u, news[j]? = some u → w.cell? (a.add j) = some u) (h1 : ∀ u ∈ news, u.oneCell' = true)
    (h63 : n + m ≤ maxLen) (hbytes : (n + m) * bytes ≤ 140737488355328) (hbase : base ≤ w.heap.size) :
    ∃ v' w', (Builtin.append_ #[t, t] ty #[v, .slice (some a) m c]).run P w = .ok v' w' ∧ w'.ownsRow base e size v' (n + m) (xs ++ news) ∧ w.grownBy w' v.ownBlock ∧
      (∀ k, v'.ownBlock = some k → v.ownBlock = some k ∨ w.heap.size ≤ k) := by
  obtain ⟨v', w', hr, h2, h3, _⟩ := run_append_own (P := P) w base t ty e i z size bytes ht hi hz hsize hby hzs hsz v n xs hown a m c news hl hnews h1 h63 hbytes hbase
  refine ⟨v', w', hr, h2, h3, fun k hk => ?_⟩
  subst hsize
  subst hby
  have hsmall : n + m ≤ 9223372036854775807 := by simp only [maxLen] at h63; omega
  rcases hown.2 with ⟨rfl, rfl⟩ | ⟨g, cap, cur, rfl, hbg, hg, hnc, hcm, hcs, htake⟩
  · by_cases hm : m = 0
    · subst hm
      have hn : news = [] := List.eq_nil_of_length_eq_zero (by simpa using hl)
      subst hn
      have hr2 : (Builtin.append_ #[t, t] ty #[.slice Option.none 0 0, .slice (some a) 0 c]).run P w = .ok (.slice Option.none 0 0) w := by
        simp [Builtin.append_, run_underlying ht, sizeOf, typeInfo, hi, Builtin.lenOf, Builtin.firstCells, loadCells, loadCellsFrom]
      rw [hr2] at hr
      cases hr
      simp [Value.ownBlock] at hk
    · have hr2 := run_append_nil (P := P) w t ty e i z ht hi hz a m c news hl hnews (by omega) (by omega) (by have hb := hbytes; simp only [Nat.zero_add] at hb; omega)
      rw [hr2] at hr
      cases hr
      simp [Value.ownBlock] at hk
      omega
  · by_cases hroom : n + m ≤ cap
    · have hfit : n * i.size + news.length ≤ cur.size := by rw [hl, hcs, ← Nat.add_mul]; exact Nat.mul_le_mul_right _ hroom
      have hr2 := run_append_room (P := P) w t ty e i ht hi g n cap cur hg a m c news hl hnews h1 hroom hfit
      rw [hr2] at hr
      cases hr
      exact Or.inl (by simpa [Value.ownBlock] using hk)
    · have holds : ∀ j u, xs[j]? = some u → w.cell? ((⟨g, 0, Option.none⟩ : Addr).add j) = some u := hown.cells (g := g) rfl
      have hr2 := run_append_grow (P := P) w t ty e i z ht hi hz ⟨g, 0, Option.none⟩ n cap xs hown.1 holds a m c news hl hnews (by omega) (by omega) (growslice_fits (by omega) hbytes)
      rw [hr2] at hr
      cases hr
      simp [Value.ownBlock] at hk
      omega
theorem wp_append_at {P : Program} {w : World} {o : Oper} {a : Act} {K : Act → World → Prop} {Q : Exit → Act → World → Prop} (s x : Operand) (t : TypeId)
    (ho : o.op = .call { callee := .builtin .append, args := #[s, x], argTypes := #[t, t] })
    (base : Nat) (e : TypeId) (i : TypeInfo) (z : Value) (size bytes : Nat) (ht : P.underlying t = some (.slice e)) (hi : P.info? e = some i) (hz : i.zero = some z)
    (hsize : i.size = size) (hby : i.bytes = bytes) (hzs : z.cells.size = size) (hsz : 0 < size)
    (v : Value) (n : Nat) (xs : List Value) (hs : a.eval s = v) (hown : w.ownsRow base e size v n xs)
    (ad : Addr) (m c : Nat) (news : List Value) (hx : a.eval x = .slice (some ad) m c) (hl : news.length = m * size) (hnews : ∀ j u, news[j]? = some u → w.cell? (ad.add j) = some u) (h1 : ∀ u ∈ news, u.oneCell' = true)
    (h63 : n + m ≤ maxLen) (hbytes : (n + m) * bytes ≤ 140737488355328) (hbase : base ≤ w.heap.size)
    (h : ∀ v' w', w'.ownsRow base e size v' (n + m) (xs ++ news) → w.grownBy w' v.ownBlock → (∀ k, v'.ownBlock = some k → v.ownBlock = some k ∨ w.heap.size ≤ k) → K (a.put o.dst v') w') : o.wp P a w K Q := by
  obtain ⟨v', w', hr, h2, h3, h4⟩ := run_append_at (P := P) w base t o.type e i z size bytes ht hi hz hsize hby hzs hsz v n xs hown ad m c news hl hnews h1 h63 hbytes hbase
  unfold Oper.wp execOp
  simp only [ho, resolve, invoke, builtin, Sem.run_bind, Sem.run_pure, Result.andThen_ok, List.map_toArray, List.map_cons, List.map_nil, hs, hx, hr]
  exact h v' w' h2 h3 h4
theorem wpList_append_at {P : Program} {w : World} {ops : Array Oper} {rest : List Oper} {o : Oper} {a : Act} {Q : Exit → Act → World → Prop} (hgd : o.guard = Option.none) (s x : Operand) (t : TypeId)
    (ho : o.op = .call { callee := .builtin .append, args := #[s, x], argTypes := #[t, t] })
    (base : Nat) (e : TypeId) (i : TypeInfo) (z : Value) (size bytes : Nat) (ht : P.underlying t = some (.slice e)) (hi : P.info? e = some i) (hz : i.zero = some z)
    (hsize : i.size = size) (hby : i.bytes = bytes) (hzs : z.cells.size = size) (hsz : 0 < size)
    (v : Value) (n : Nat) (xs : List Value) (hs : a.eval s = v) (hown : w.ownsRow base e size v n xs)
    (ad : Addr) (m c : Nat) (news : List Value) (hx : a.eval x = .slice (some ad) m c) (hl : news.length = m * size) (hnews : ∀ j u, news[j]? = some u → w.cell? (ad.add j) = some u) (h1 : ∀ u ∈ news, u.oneCell' = true)
    (h63 : n + m ≤ maxLen) (hbytes : (n + m) * bytes ≤ 140737488355328) (hbase : base ≤ w.heap.size)
    (h : ∀ v' w', w'.ownsRow base e size v' (n + m) (xs ++ news) → w.grownBy w' v.ownBlock → (∀ k, v'.ownBlock = some k → v.ownBlock = some k ∨ w.heap.size ≤ k) → wpList P ops Q rest (a.put o.dst v') w') : wpList P ops Q (o :: rest) a w :=
  wpList_plain hgd fun _ hK => wp_append_at s x t ho base e i z size bytes ht hi hz hsize hby hzs hsz v n xs hs hown ad m c news hx hl hnews h1 h63 hbytes hbase fun v' w' h2 h3 h4 => hK _ _ (h v' w' h2 h3 h4)
end Go.Proofs.Ytkbhkgfchiacbaa


/- The same of slices of bytes. -/
namespace Go.Proofs.Ytkbhkgfchiacbaa
open Go.RowKit
set_option maxRecDepth 20000

theorem At.off {F : Nat → Prop} {w w' : World} {b o : Nat} {xs : List Int} (h : At w b o xs) (hb : Off F w w') (hlt : b < w.heap.size) (hn : ¬ F b) : At w' b o xs :=
  fun i hi => (hb.cell (p := ⟨b, o + i, Option.none⟩) hlt hn).trans (h i hi)
/-- A slice of bytes that lies in a block of G. -/
def SIn (G : Nat → Prop) (w : World) (x : Option Addr) (l : Nat) (ys : List Int) : Prop := ys.length = l ∧ (0 < l → ∃ b o, x = some ⟨b, o, Option.none⟩ ∧ b < w.heap.size ∧ G b ∧ At w b o ys)
theorem SIn.sat {G : Nat → Prop} {w : World} {x : Option Addr} {l : Nat} {ys : List Int} (h : SIn G w x l ys) : SAt w x l ys :=
  ⟨h.1, fun hl => by
    obtain ⟨b, o, e, hlt, _, ha⟩ := h.2 hl
    exact ⟨b, o, e, hlt, ha⟩⟩
theorem SIn.off {F G : Nat → Prop} {w w' : World} {x : Option Addr} {l : Nat} {ys : List Int} (h : SIn G w x l ys) (hb : Off F w w') (hd : ∀ b, b < w.heap.size → G b → ¬ F b) : SIn G w' x l ys :=
  ⟨h.1, fun hl => by
    obtain ⟨b, o, e, hlt, hg, ha⟩ := h.2 hl
    exact ⟨b, o, e, Nat.lt_of_lt_of_le hlt hb.size, hg, ha.off hb hlt (hd b hlt hg)⟩⟩
theorem SIn.mono {G G' : Nat → Prop} {w : World} {x : Option Addr} {l : Nat} {ys : List Int} (h : SIn G w x l ys) (hd : ∀ b, b < w.heap.size → G b → G' b) : SIn G' w x l ys :=
  ⟨h.1, fun hl => by
    obtain ⟨b, o, e, hlt, hg, ha⟩ := h.2 hl
    exact ⟨b, o, e, hlt, hd b hlt hg, ha⟩⟩
theorem SIn.none (G : Nat → Prop) (w : World) (x : Option Addr) : SIn G w x 0 [] := ⟨rfl, fun h => absurd h (by omega)⟩
theorem SAt.inn {w : World} {x : Option Addr} {l : Nat} {ys : List Int} (h : SAt w x l ys) : SIn (· < w.heap.size) w x l ys :=
  ⟨h.1, fun hl => by
    obtain ⟨b, o, e, hlt, ha⟩ := h.2 hl
    exact ⟨b, o, e, hlt, hlt, ha⟩⟩
theorem own_sin {w : World} {base n : Nat} {v : Value} {xs : List Int} (hn : xs.length = n) (h : w.ownsRow base 5 1 v n (xs.map (Value.int .u8))) : ∃ x c, v = .slice x n c ∧ SIn (fun b => v.ownBlock = some b) w x n xs ∧ n ≤ c ∧ c ≤ maxLen ∧ (x = Option.none → n = 0 ∧ c = 0) := by
  have hb := own_block h
  obtain ⟨x, c, rfl, hs, h1, h2, h3⟩ := own_slice hn h
  refine ⟨x, c, rfl, ⟨hs.1, fun hl => ?_⟩, h1, h2, h3⟩
  obtain ⟨b, o, rfl, hlt, ha⟩ := hs.2 hl
  exact ⟨b, o, rfl, hlt, rfl, ha⟩

end Go.Proofs.Ytkbhkgfchiacbaa


/- A statement whose order Go leaves open, walked in the text's order: plain laws on such regions. -/
namespace Go.Proofs.Ytkbhkgfchiacbaa
open Go.RowKit
set_option maxRecDepth 20000
section
variable {P : Program} {ops : Array Oper} {Q : Exit → Act → World → Prop} {md : Region.Mode} {S S' : World → Prop}

/-- What is asked of every world may be made more on the way. -/
theorem held_more (hS : ∀ w, S' w → S w) : ∀ (fuel : Nat) (listed : Array Bool) (a : Act) (w : World), wpAnyH P md ops Q S' fuel listed a w → wpAnyH P md ops Q S fuel listed a w
  | 0, _, _, _, h => h
  | fuel + 1, _, _, _, h => ⟨h.1, fun i hi => wpOp_mono (fun a' w' h' => ⟨hS _ h'.1, held_more hS fuel _ a' w' h'.2⟩) (h.2 i hi)⟩

variable {fuel : Nat} {listed : Array Bool} {t : List Value} {d : List Deferred} {w : World}

/-- An operation that yields its value in every world that meets S comes up first. -/
theorem takeL (i k : Nat) {oi : Oper} {v : Value} (hi : ops[i]? = some oi) (hd : oi.dst = some k)
    (hs : Region.noSelect ops = true) (hf : Region.free md ops listed i = true) (hr : (Region.ready md ops listed).contains i = true)
    (hQ : ∀ c a w, Q (.panic c) (a.put oi.dst v) w → Q (.panic c) a w) (hw : Region.wanted oi (yielded ops t.toArray) = true) (hS : S w)
    (hy : ∀ w, S w → (execOp (Act.eval ⟨t.toArray, d⟩) oi).run P w = .ok (.value v) w)
    (h : wpAnyH P md ops Q S fuel (listed.setIfInBounds i true) ⟨(t.set k v).toArray, d⟩ w) : wpAnyH P md ops Q S (fuel + 1) listed ⟨t.toArray, d⟩ w := by
  refine wpAnyH_take hi hs hf hr hQ (Or.inl ⟨hw, hy⟩) hS ?_
  have e : Act.put ⟨t.toArray, d⟩ oi.dst v = ⟨(t.set k v).toArray, d⟩ := by simp [hd, Act.put]
  rw [e]
  exact h

theorem eval_slot {x : Nat} {v : Value} (hv : t[x]? = some v) : Act.eval ⟨t.toArray, d⟩ (.tmp x) = v := by
  simp [Act.eval, hv]
/-- A copy of a slot. -/
theorem takeM (i k x : Nat) {oi : Oper} {v : Value} (hi : ops[i]? = some oi) (hd : oi.dst = some k) (ho : oi.op = .move (.tmp x))
    (hs : Region.noSelect ops = true) (hf : Region.free md ops listed i = true) (hr : (Region.ready md ops listed).contains i = true)
    (hQ : ∀ c a w, Q (.panic c) (a.put oi.dst v) w → Q (.panic c) a w) (hw : Region.wanted oi (yielded ops t.toArray) = true) (hS : S w)
    (hv : t[x]? = some v)
    (h : wpAnyH P md ops Q S fuel (listed.setIfInBounds i true) ⟨(t.set k v).toArray, d⟩ w) : wpAnyH P md ops Q S (fuel + 1) listed ⟨t.toArray, d⟩ w :=
  takeL i k hi hd hs hf hr hQ hw hS (fun w _ => by rw [BigFrame.run_move _ ho w, eval_slot hv]) h
theorem takeA (i k x : Nat) {oi : Oper} {v : Value} (hi : ops[i]? = some oi) (hd : oi.dst = some k) (ho : oi.op = .assign (.tmp x))
    (hs : Region.noSelect ops = true) (hf : Region.free md ops listed i = true) (hr : (Region.ready md ops listed).contains i = true)
    (hQ : ∀ c a w, Q (.panic c) (a.put oi.dst v) w → Q (.panic c) a w) (hw : Region.wanted oi (yielded ops t.toArray) = true) (hS : S w)
    (hv : t[x]? = some v)
    (h : wpAnyH P md ops Q S fuel (listed.setIfInBounds i true) ⟨(t.set k v).toArray, d⟩ w) : wpAnyH P md ops Q S (fuel + 1) listed ⟨t.toArray, d⟩ w :=
  takeL i k hi hd hs hf hr hQ hw hS (fun w _ => by rw [BigFrame.run_assign _ ho w, eval_slot hv]) h

/-- An operation that its guard passes over. -/
theorem takeN (i k : Nat) {oi : Oper} (hi : ops[i]? = some oi) (hd : oi.dst = some k)
    (hs : Region.noSelect ops = true) (hf : Region.free md ops listed i = true) (hr : (Region.ready md ops listed).contains i = true)
    (hQ : ∀ c a w, Q (.panic c) (a.put oi.dst undef) w → Q (.panic c) a w) (hw : Region.wanted oi (yielded ops t.toArray) = false) (hS : S w)
    (h : wpAnyH P md ops Q S fuel (listed.setIfInBounds i true) ⟨(t.set k undef).toArray, d⟩ w) : wpAnyH P md ops Q S (fuel + 1) listed ⟨t.toArray, d⟩ w := by
  refine wpAnyH_take hi hs hf hr hQ (Or.inr ⟨hw, rfl⟩) hS ?_
  have e : Act.put ⟨t.toArray, d⟩ oi.dst undef = ⟨(t.set k undef).toArray, d⟩ := by simp [hd, Act.put]
  rw [e]
  exact h

/-- The one operation that may come up now. -/
theorem onlyL (i : Nat) {oi : Oper} (hi : ops[i]? = some oi) (hr : Region.ready md ops listed = [i]) (hw : Region.wanted oi (yielded ops t.toArray) = true)
    (h : ∀ K : Act → World → Prop, Shut (∀ a w, S w → (S w → wpAnyH P md ops Q S fuel (listed.setIfInBounds i true) a w) → K a w) → Oper.wp P oi ⟨t.toArray, d⟩ w K Q) :
    wpAnyH P md ops Q S (fuel + 1) listed ⟨t.toArray, d⟩ w := by
  refine wpAnyH_ready (rs := [i]) hr (by simp) (AllReadyH.cons hi (fun K hK => ?_) AllReadyH.nil)
  rw [if_pos hw]
  exact h K hK

/-- Two operations may come up now. -/
theorem twoL (i j : Nat) {oi oj : Oper} (hi : ops[i]? = some oi) (hj : ops[j]? = some oj) (hr : Region.ready md ops listed = [i, j]) (hwi : Region.wanted oi (yielded ops t.toArray) = true) (hwj : Region.wanted oj (yielded ops t.toArray) = true)
    (h1 : ∀ K : Act → World → Prop, Shut (∀ a w, S w → (S w → wpAnyH P md ops Q S fuel (listed.setIfInBounds i true) a w) → K a w) → Oper.wp P oi ⟨t.toArray, d⟩ w K Q)
    (h2 : ∀ K : Act → World → Prop, Shut (∀ a w, S w → (S w → wpAnyH P md ops Q S fuel (listed.setIfInBounds j true) a w) → K a w) → Oper.wp P oj ⟨t.toArray, d⟩ w K Q) :
    wpAnyH P md ops Q S (fuel + 1) listed ⟨t.toArray, d⟩ w := by
  refine wpAnyH_ready (rs := [i, j]) hr (by simp) (AllReadyH.cons hi (fun K hK => ?_) (AllReadyH.cons hj (fun K hK => ?_) AllReadyH.nil))
  · rw [if_pos hwi]; exact h1 K hK
  · rw [if_pos hwj]; exact h2 K hK
end
end Go.Proofs.Ytkbhkgfchiacbaa


/- Plain facts on Speck: its rounds, its keys, and that a round taken back is the block again. -/
namespace Go.Proofs.Ytkbhkgfchiacbaa
open Go.RowKit
set_option maxRecDepth 20000

/-- A uint64 as the walks have it: a word of its own, so that they leave it standing. -/
def nv (x : BitVec 64) : Int := (x.toNat : Int)
theorem nv_range (x : BitVec 64) : 0 ≤ nv x ∧ nv x < 18446744073709551616 := by
  have := x.isLt
  unfold nv
  omega
theorem nv_inj {x y : BitVec 64} (h : nv x = nv y) : x = y := BitVec.eq_of_toNat_eq (by unfold nv at h; omega)
theorem nv_eq (x y : BitVec 64) : (nv x == nv y) = decide (x = y) := by
  rw [Bool.eq_iff_iff, beq_iff_eq, decide_eq_true_eq]
  exact ⟨nv_inj, fun h => by rw [h]⟩
theorem nv_of (a : Int) (h0 : 0 ≤ a) (h1 : a < 18446744073709551616) : nv (BitVec.ofInt 64 a) = a := by
  unfold nv
  rw [BitVec.toNat_ofInt]
  omega

theorem w_xor (x y : BitVec 64) : bits .xor .u64 (x.toNat : Int) (y.toNat : Int) = ((x ^^^ y).toNat : Int) := by
  rw [u64_xor_nat _ _ x.isLt y.isLt, BitVec.toNat_xor]
theorem w_add (x y : BitVec 64) : IntKind.u64.wrap ((x.toNat : Int) + (y.toNat : Int)) = ((x + y).toNat : Int) := by
  rw [IntKind.wrap_u64, BitVec.toNat_add]; omega
theorem w_sub (x y : BitVec 64) : IntKind.u64.wrap ((x.toNat : Int) - (y.toNat : Int)) = ((x - y).toNat : Int) := by
  have := x.isLt
  have := y.isLt
  rw [IntKind.wrap_u64, BitVec.toNat_sub]; omega
theorem rr_nat (x : BitVec 64) (n : Nat) (h1 : n < 64) : (x.rotateRight n).toNat = x.toNat / 2 ^ n ||| x.toNat * 2 ^ (64 - n) % 2 ^ 64 := by
  rw [BitVec.toNat_rotateRight]
  rw [Nat.mod_eq_of_lt h1, Nat.shiftRight_eq_div_pow, Nat.shiftLeft_eq]
theorem rl_nat (x : BitVec 64) (n : Nat) (h1 : n < 64) : (x.rotateLeft n).toNat = x.toNat * 2 ^ n % 2 ^ 64 ||| x.toNat / 2 ^ (64 - n) := by
  rw [BitVec.toNat_rotateLeft]
  rw [Nat.mod_eq_of_lt h1, Nat.shiftRight_eq_div_pow, Nat.shiftLeft_eq]
theorem rl_rr (x : BitVec 64) (n : Nat) (h0 : 0 < n) (h1 : n < 64) : (x.rotateRight n).rotateLeft n = x := by
  apply BitVec.eq_of_getLsbD_eq
  intro i hi
  rw [BitVec.getLsbD_rotateLeft, Nat.mod_eq_of_lt h1]
  by_cases h : i < n
  · rw [BitVec.getLsbD_rotateRight, Nat.mod_eq_of_lt h1]
    have e1 : decide (64 - n + i < 64 - n) = false := by simp
    have e2 : 64 - n + i < 64 := by omega
    have e3 : 64 - n + i - (64 - n) = i := by omega
    rw [e1]
    simp [h, e2, e3]
  · rw [BitVec.getLsbD_rotateRight, BitVec.getLsbD_rotateRight, Nat.mod_eq_of_lt h1]
    have e1 : i - n < 64 - n := by omega
    have e2 : n + (i - n) = i := by omega
    simp [h, hi, e1, e2]
theorem rr_rl (x : BitVec 64) (n : Nat) (h0 : 0 < n) (h1 : n < 64) : (x.rotateLeft n).rotateRight n = x := by
  apply BitVec.eq_of_getLsbD_eq
  intro i hi
  rw [BitVec.getLsbD_rotateRight, Nat.mod_eq_of_lt h1]
  by_cases h : i < 64 - n
  · rw [BitVec.getLsbD_rotateLeft, Nat.mod_eq_of_lt h1]
    have e1 : decide (n + i < n) = false := by simp
    have e2 : n + i < 64 := by omega
    have e3 : n + i - n = i := by omega
    rw [e1]
    simp [h, e2, e3]
  · rw [BitVec.getLsbD_rotateLeft, BitVec.getLsbD_rotateLeft, Nat.mod_eq_of_lt h1]
    have e1 : i - (64 - n) < n := by omega
    have e2 : 64 - n + (i - (64 - n)) = i := by omega
    simp [h, hi, e1, e2]

theorem w_rr (x : BitVec 64) (n A B : Nat) (h1 : n < 64) (hA : 2 ^ n = A) (hB : 2 ^ (64 - n) = B) : bits .or .u64 ((x.toNat : Int) / (A : Int)) (IntKind.u64.wrap ((x.toNat : Int) * (B : Int))) = ((x.rotateRight n).toNat : Int) := by
  have hx := x.isLt
  have e1 : (x.toNat : Int) / (A : Int) = ((x.toNat / A : Nat) : Int) := by simp
  have e2 : IntKind.u64.wrap ((x.toNat : Int) * (B : Int)) = ((x.toNat * B % 2 ^ 64 : Nat) : Int) := by rw [IntKind.wrap_u64]; simp
  rw [e1, e2, u64_or_nat _ _ (Nat.lt_of_le_of_lt (Nat.div_le_self _ _) hx) (Nat.mod_lt _ (by decide)), rr_nat x n h1, hA, hB]
theorem w_rl (x : BitVec 64) (n A B : Nat) (h1 : n < 64) (hA : 2 ^ n = A) (hB : 2 ^ (64 - n) = B) : bits .or .u64 (IntKind.u64.wrap ((x.toNat : Int) * (A : Int))) ((x.toNat : Int) / (B : Int)) = ((x.rotateLeft n).toNat : Int) := by
  have hx := x.isLt
  have e1 : (x.toNat : Int) / (B : Int) = ((x.toNat / B : Nat) : Int) := by simp
  have e2 : IntKind.u64.wrap ((x.toNat : Int) * (A : Int)) = ((x.toNat * A % 2 ^ 64 : Nat) : Int) := by rw [IntKind.wrap_u64]; simp
  rw [e1, e2, u64_or_nat _ _ (Nat.mod_lt _ (by decide)) (Nat.lt_of_le_of_lt (Nat.div_le_self _ _) hx), rl_nat x n h1, hA, hB]
theorem rl_as_rr (x : BitVec 64) (n : Nat) (h0 : 0 < n) (h1 : n < 64) : x.rotateLeft (64 - n) = x.rotateRight n := by
  apply BitVec.eq_of_toNat_eq
  rw [rl_nat x (64 - n) (by omega), rr_nat x n h1, Nat.or_comm, show 64 - (64 - n) = n from by omega]

theorem nv_xor (x y : BitVec 64) : bits .xor .u64 (nv x) (nv y) = nv (x ^^^ y) := w_xor x y
theorem nv_add (x y : BitVec 64) : IntKind.u64.wrap (nv x + nv y) = nv (x + y) := w_add x y
theorem nv_sub (x y : BitVec 64) : IntKind.u64.wrap (nv x - nv y) = nv (x - y) := w_sub x y
theorem nv_rr8 (x : BitVec 64) : bits .or .u64 (nv x / 256) (IntKind.u64.wrap (nv x * 72057594037927936)) = nv (x.rotateRight 8) := w_rr x 8 256 72057594037927936 (by decide) (by decide) (by decide)
theorem nv_rr3 (x : BitVec 64) : bits .or .u64 (nv x / 8) (IntKind.u64.wrap (nv x * 2305843009213693952)) = nv (x.rotateRight 3) := w_rr x 3 8 2305843009213693952 (by decide) (by decide) (by decide)
theorem nv_rl8 (x : BitVec 64) : bits .or .u64 (IntKind.u64.wrap (nv x * 256)) (nv x / 72057594037927936) = nv (x.rotateLeft 8) := w_rl x 8 256 72057594037927936 (by decide) (by decide) (by decide)
theorem nv_rl3 (x : BitVec 64) : bits .or .u64 (IntKind.u64.wrap (nv x * 8)) (nv x / 2305843009213693952) = nv (x.rotateLeft 3) := w_rl x 3 8 2305843009213693952 (by decide) (by decide) (by decide)
theorem nv_rl56 (x : BitVec 64) : bits .or .u64 (IntKind.u64.wrap (nv x * 72057594037927936)) (nv x / 256) = nv (x.rotateRight 8) := by
  rw [← rl_as_rr x 8 (by decide) (by decide)]
  exact w_rl x 56 72057594037927936 256 (by decide) (by decide) (by decide)
theorem nv_rl61 (x : BitVec 64) : bits .or .u64 (IntKind.u64.wrap (nv x * 2305843009213693952)) (nv x / 8) = nv (x.rotateRight 3) := by
  rw [← rl_as_rr x 3 (by decide) (by decide)]
  exact w_rl x 61 2305843009213693952 8 (by decide) (by decide) (by decide)
theorem nv_small (k : Nat) (h : k < 1000) : nv (BitVec.ofNat 64 k) = (k : Int) := by
  unfold nv
  rw [BitVec.toNat_ofNat]; omega

/-- One step of the keys: (l, k), number i. -/
def keyStep (i : Nat) (p : BitVec 64 × BitVec 64) : BitVec 64 × BitVec 64 :=
  ((p.1.rotateRight 8 + p.2) ^^^ BitVec.ofNat 64 i, p.2.rotateLeft 3 ^^^ ((p.1.rotateRight 8 + p.2) ^^^ BitVec.ofNat 64 i))
/-- (l, k) behind i steps. -/
def keyAt (p : BitVec 64 × BitVec 64) : Nat → BitVec 64 × BitVec 64
  | 0 => p
  | i + 1 => keyStep i (keyAt p i)
/-- Key number i of a key (l, k). -/
def key (p : BitVec 64 × BitVec 64) (i : Nat) : BitVec 64 := (keyAt p i).2
/-- A round, and back. -/
def encR (k : BitVec 64) (p : BitVec 64 × BitVec 64) : BitVec 64 × BitVec 64 :=
  ((p.1.rotateRight 8 + p.2) ^^^ k, p.2.rotateLeft 3 ^^^ ((p.1.rotateRight 8 + p.2) ^^^ k))
def decR (k : BitVec 64) (p : BitVec 64 × BitVec 64) : BitVec 64 × BitVec 64 :=
  (((p.1 ^^^ k) - (p.2 ^^^ p.1).rotateRight 3).rotateLeft 8, (p.2 ^^^ p.1).rotateRight 3)
theorem xor_back (a b : BitVec 64) : a ^^^ b ^^^ b = a := by rw [BitVec.xor_assoc, BitVec.xor_self, BitVec.xor_zero]
theorem dec_enc (k : BitVec 64) (p : BitVec 64 × BitVec 64) : decR k (encR k p) = p := by
  obtain ⟨x, y⟩ := p
  unfold decR encR
  simp only
  simp only [xor_back]
  rw [rr_rl _ 3 (by decide) (by decide), BitVec.add_sub_cancel, rl_rr _ 8 (by decide) (by decide)]
theorem enc_dec (k : BitVec 64) (p : BitVec 64 × BitVec 64) : encR k (decR k p) = p := by
  obtain ⟨x, y⟩ := p
  unfold decR encR
  simp only
  rw [rr_rl _ 8 (by decide) (by decide), BitVec.sub_add_cancel, xor_back, rl_rr _ 3 (by decide) (by decide), xor_back]

/-- The first n rounds, by keys ks. -/
def encN (ks : Nat → BitVec 64) (p : BitVec 64 × BitVec 64) : Nat → BitVec 64 × BitVec 64
  | 0 => p
  | n + 1 => encR (ks n) (encN ks p n)
/-- Rounds n - 1 down to 0, back. -/
def decN (ks : Nat → BitVec 64) : Nat → BitVec 64 × BitVec 64 → BitVec 64 × BitVec 64
  | 0, p => p
  | n + 1, p => decN ks n (decR (ks n) p)
theorem decN_encN (ks : Nat → BitVec 64) (p : BitVec 64 × BitVec 64) : ∀ n, decN ks n (encN ks p n) = p := by
  intro n
  induction n with
  | zero => rfl
  | succ n ih => rw [encN, decN, dec_enc, ih]
theorem encN_decN (ks : Nat → BitVec 64) : ∀ n p, encN ks (decN ks n p) n = p := by
  intro n
  induction n with
  | zero => intro p; rfl
  | succ n ih => intro p; rw [encN, decN, ih, enc_dec]
def enc (k p : BitVec 64 × BitVec 64) : BitVec 64 × BitVec 64 := encN (key k) p 32
def dec (k p : BitVec 64 × BitVec 64) : BitVec 64 × BitVec 64 := decN (key k) 32 p
theorem decEnc (k p : BitVec 64 × BitVec 64) : dec k (enc k p) = p := decN_encN _ _ _
theorem encDec (k p : BitVec 64 × BitVec 64) : enc k (dec k p) = p := encN_decN _ _ _
theorem enc_inj {k p q : BitVec 64 × BitVec 64} (h : enc k p = enc k q) : p = q := by rw [← decEnc k p, h, decEnc]
theorem dec_inj {k p q : BitVec 64 × BitVec 64} (h : dec k p = dec k q) : p = q := by rw [← encDec k p, h, encDec]
theorem enc_known : enc (0x0f0e0d0c0b0a0908#64, 0x0706050403020100#64) (0x6c61766975716520#64, 0x7469206564616d20#64) = (0xa65d985179783265#64, 0x7860fedf5c570d18#64) := by decide +kernel
end Go.Proofs.Ytkbhkgfchiacbaa
