/- OwnB OffA Hid ObjA PowSaid ObjB Kept Num: texts laid together. -/
import Derived.WalkKit
import Derived.WalkSpells
import Derived.WalkLawsBesides
import Derived.Deep.OwnRows
import Derived.Test.YtcjmmfgnnebgkaaRows
import Derived.Handy

/- Where a row of one's own stands. -/
namespace Go.Proofs.Ytcjmmfgnnebgkaa
open Go.RowKit
set_option maxRecDepth 20000

theorem own_block {w : World} {base e size n : Nat} {v : Value} {xs : List Value} (h : w.ownsRow base e size v n xs) : ∀ k, v.ownBlock = some k → base ≤ k := by
  intro k hk
  obtain ⟨_, ⟨rfl, _⟩ | ⟨g, cap, cur, rfl, hg, _⟩⟩ := h
  · simp [Value.ownBlock] at hk
  · simp [Value.ownBlock] at hk; omega
theorem add_plain' (b off i : Nat) : (⟨b, off, none⟩ : Addr).add i = ⟨b, off + i, none⟩ := by unfold Addr.add; split <;> simp_all
end Go.Proofs.Ytcjmmfgnnebgkaa


/- What turns when an object that has memory of its own is called: blocks of F, and new ones; all else stays. Rows of structs, cell by cell. -/
namespace Go.Proofs.Ytcjmmfgnnebgkaa
open Go.RowKit
set_option maxRecDepth 20000

/-- Nothing has turned but in blocks of F, and in new ones. -/
structure Off (F : Nat → Prop) (w w' : World) : Prop where
  os : w'.os = w.os
  tape : w'.tape = w.tape
  output : w'.output = w.output
  size : w.heap.size ≤ w'.heap.size
  block : ∀ k, k < w.heap.size → ¬ F k → w'.heap[k]? = w.heap[k]?
theorem Off.refl (F : Nat → Prop) (w : World) : Off F w w := ⟨rfl, rfl, rfl, Nat.le_refl _, fun _ _ _ => rfl⟩
theorem Off.trans {F G : Nat → Prop} {a b c : World} (h : Off F a b) (k : Off G b c) (hG : ∀ i, G i → F i ∨ a.heap.size ≤ i) : Off F a c :=
  ⟨k.os.trans h.os, k.tape.trans h.tape, k.output.trans h.output, Nat.le_trans h.size k.size, fun i hi hF =>
    (k.block i (Nat.lt_of_lt_of_le hi h.size) (fun hg => (hG i hg).elim hF (fun e => absurd e (Nat.not_le.2 hi)))).trans (h.block i hi hF)⟩
theorem Off.mono {F G : Nat → Prop} {a b : World} (h : Off F a b) (hG : ∀ i, F i → G i ∨ a.heap.size ≤ i) : Off G a b :=
  ⟨h.os, h.tape, h.output, h.size, fun i hi hg => h.block i hi (fun hf => (hG i hf).elim hg (fun e => absurd e (Nat.not_le.2 hi)))⟩
theorem Off.of_below {F : Nat → Prop} {w w' : World} (h : Below w.heap.size w w') : Off F w w' := ⟨h.os, h.tape, h.output, h.size, fun k hk _ => h.block k hk⟩
theorem Off.below {F : Nat → Prop} {w w' : World} {B : Nat} (h : Off F w w') (hF : ∀ k, F k → B ≤ k) (hB : B ≤ w.heap.size) : Below B w w' :=
  ⟨h.os, h.tape, h.output, h.size, fun k hk => h.block k (Nat.lt_of_lt_of_le hk hB) (fun hf => absurd (hF k hf) (Nat.not_le.2 hk))⟩
theorem Off.none {F : Nat → Prop} {w w' : World} (h : Off F w w') (hF : ∀ k, F k → w.heap.size ≤ k) : Below w.heap.size w w' := h.below hF (Nat.le_refl _)
theorem Off.drew {F : Nat → Prop} {a w : World} (h : Off F a w) : Off F a w.drew := ⟨h.os, h.tape, h.output, h.size, h.block⟩
theorem Off.alloc {F : Nat → Prop} {a w : World} (h : Off F a w) (o : Obj) : Off F a (w.alloc o) :=
  h.trans (G := fun _ => False) (Off.of_below ((Below.refl _ _).alloc (Nat.le_refl _) o)) (fun _ h => h.elim)
theorem Off.setCell {F : Nat → Prop} {a w : World} (h : Off F a w) {p : Addr} (hp : F p.block ∨ a.heap.size ≤ p.block) (u : Value) : Off F a (w.setCell p u) :=
  h.trans (G := fun k => k = p.block) ⟨rfl, rfl, rfl, by simp, fun k _ hk => Below.heap_setCell w p u k hk⟩ (fun i hi => by subst hi; exact hp)
theorem Off.grown {F : Nat → Prop} {a w w' : World} {row : Option Nat} (h : Off F a w) (hg : w.grownBy w' row) (hr : ∀ k, row = some k → F k ∨ a.heap.size ≤ k) : Off F a w' :=
  h.trans (G := fun k => row = some k) ⟨hg.os, hg.tape, hg.output, hg.size, fun k hk hn => hg.block k hk (fun e => hn e.symm)⟩ hr
theorem Off.more {F : Nat → Prop} {a w w' : World} (h : Off F a w) (hb : Below w.heap.size w w') : Off F a w' := h.trans (G := fun _ => False) (Off.of_below hb) (fun _ h => h.elim)
theorem off_block {F : Nat → Prop} {w w' : World} {b : Nat} {o : Obj} (h : w.heap[b]? = some o) (hb : Off F w w') (hn : ¬ F b) : w'.heap[b]? = some o := by
  obtain ⟨hlt, _⟩ := Array.getElem?_eq_some_iff.1 h
  exact (hb.block b hlt hn).trans h
theorem Off.cell {F : Nat → Prop} {w w' : World} (h : Off F w w') {p : Addr} (hlt : p.block < w.heap.size) (hn : ¬ F p.block) : w'.cell? p = w.cell? p := World.cell?_of_block (w := w) (h.block p.block hlt hn)
theorem Off.frozen {F : Nat → Prop} {w w' : World} (h : Off F w w') {p : Addr} (hlt : p.block < w.heap.size) (hn : ¬ F p.block) : w'.frozen? p = w.frozen? p := World.frozen?_of_block (w := w) (h.block p.block hlt hn)
theorem own_off {F : Nat → Prop} {w w' : World} {base e size n : Nat} {v : Value} {xs : List Value} (h : w.ownsRow base e size v n xs) (hb : Off F w w') (hn : ∀ k, v.ownBlock = some k → ¬ F k) : w'.ownsRow base e size v n xs := by
  obtain ⟨h1, h2 | ⟨g, cap, cur, rfl, hg, hh, rest⟩⟩ := h
  · exact ⟨h1, Or.inl h2⟩
  · exact ⟨h1, Or.inr ⟨g, cap, cur, rfl, hg, off_block hh hb (hn g rfl), rest⟩⟩
/-- The row of the call's own lies in a block of its element's type. -/
theorem own_type {w : World} {base e size n : Nat} {v : Value} {xs : List Value} (h : w.ownsRow base e size v n xs) {k : Nat} (hk : v.ownBlock = some k) : ∃ cur, w.heap[k]? = some (.cells cur e (0, 0)) := by
  obtain ⟨_, ⟨rfl, _⟩ | ⟨g, cap, cur, rfl, hg, hh, _⟩⟩ := h
  · simp [Value.ownBlock] at hk
  · obtain rfl : g = k := by simpa [Value.ownBlock] using hk
    exact ⟨cur, hh⟩
/-- n structs, cell by cell. -/
def flatG (f : Nat → List Value) : Nat → List Value
  | 0 => []
  | n + 1 => flatG f n ++ f n
theorem flatG_len {f : Nat → List Value} {s : Nat} (hs : ∀ i, (f i).length = s) : ∀ n, (flatG f n).length = n * s
  | 0 => by simp [flatG]
  | n + 1 => by rw [flatG, List.length_append, flatG_len hs n, hs, Nat.succ_mul]
theorem flatG_get {f : Nat → List Value} {s : Nat} (hs : ∀ i, (f i).length = s) : ∀ n i j, i < n → j < s → (flatG f n)[i * s + j]? = (f i)[j]?
  | 0, i, _, h, _ => absurd h (by omega)
  | n + 1, i, j, h, hj => by
    have hl := flatG_len hs n
    rw [flatG]
    by_cases e : i = n
    · subst e
      rw [List.getElem?_append_right (by omega), hl, Nat.add_sub_cancel_left]
    · have h1 : i * s + j < n * s := by
        have : (i + 1) * s ≤ n * s := Nat.mul_le_mul_right s (by omega)
        rw [Nat.succ_mul] at this
        omega
      rw [List.getElem?_append_left (by omega)]
      exact flatG_get hs n i j (by omega) hj
theorem flatG_congr {f g : Nat → List Value} : ∀ n, (∀ i, i < n → f i = g i) → flatG f n = flatG g n
  | 0, _ => rfl
  | n + 1, h => by rw [flatG, flatG, flatG_congr n (fun i hi => h i (by omega)), h n (by omega)]
/-- A cell of a row of the call's own. -/
theorem own_cell {w : World} {base e size n : Nat} {v : Value} {xs : List Value} (h : w.ownsRow base e size v n xs) {i : Nat} {u : Value} (hu : xs[i]? = some u) : ∃ g cap, v = .slice (some ⟨g, 0, Option.none⟩) n cap ∧ n ≤ cap ∧ g < w.heap.size ∧ w.cell? ⟨g, i, Option.none⟩ = some u := by
  have hi : i < xs.length := by
    rcases Nat.lt_or_ge i xs.length with h | h
    · exact h
    · rw [List.getElem?_eq_none h] at hu
      cases hu
  obtain ⟨h1, ⟨rfl, h0⟩ | ⟨g, cap, cur, rfl, hg, hh, hnc, hcm, hsz, htk⟩⟩ := h
  · subst h0
    omega
  · obtain ⟨hlt, _⟩ := Array.getElem?_eq_some_iff.1 hh
    refine ⟨g, cap, rfl, hnc, hlt, ?_⟩
    rw [← htk, List.getElem?_take] at hu
    rw [if_pos (by omega)] at hu
    simpa [World.cell?, hh] using hu
theorem own_is {w : World} {base e size n : Nat} {v : Value} {xs : List Value} (h : w.ownsRow base e size v n xs) : ∃ y cy, v = .slice y n cy ∧ n ≤ cy ∧ cy ≤ maxLen ∧ (y = Option.none → n = 0 ∧ cy = 0) := by
  obtain ⟨_, ⟨rfl, h0⟩ | ⟨g, cap, cur, rfl, _, _, hnc, hcm, _⟩⟩ := h
  · exact ⟨Option.none, 0, by rw [h0], by omega, Nat.zero_le _, fun _ => ⟨h0, rfl⟩⟩
  · exact ⟨_, cap, rfl, hnc, hcm, fun e => by cases e⟩
/-- append to a row that somebody owns: it is his block still, or a new one. -/
theorem run_append_at {P : Program} (w : World) (base : Nat) (t ty e : TypeId) (i : TypeInfo) (z : Value) (size bytes : Nat) (ht : P.underlying t = some (.slice e)) (hi : P.info? e = some i) (hz : i.zero = some z)
    (hsize : i.size = size) (hby : i.bytes = bytes) (hzs : z.cells.size = size) (hsz : 0 < size)
    (v : Value) (n : Nat) (xs : List Value) (hown : w.ownsRow base e size v n xs)
    (a : Addr) (m c : Nat) (news : List Value) (hl : news.length = m * size) (hnews : ∀ j u, news[j]? = some u → w.cell? (a.add j) = some u) (h1 : ∀ u ∈ news, u.oneCell' = true)
    (h63 : n + m ≤ maxLen) (hbytes : (n + m) * bytes ≤ 140737488355328) (hbase : base ≤ w.heap.size) :
    ∃ v' w', (Builtin.append_ #[t, t] ty #[v, .slice (some a) m c]).run P w = .ok v' w' ∧ w'.ownsRow base e size v' (n + m) (xs ++ news) ∧ w.grownBy w' v.ownBlock ∧
      (∀ k, v'.ownBlock = some k → v.ownBlock = some k ∨ w.heap.size ≤ k) := by
  obtain ⟨v', w', hr, h2, h3, _⟩ := run_append_own (P := P) w base t ty e i z size bytes ht hi hz hsize hby hzs hsz v n xs hown a m c news hl hnews h1 h63 hbytes hbase
  refine ⟨v', w', hr, h2, h3, fun k hk => ?_⟩
  subst hsize
  subst hby
  have hsmall : n + m ≤ 9223372036854775807 := by simp only [maxLen] at h63; omega
  rcases hown.2 with ⟨rfl, rfl⟩ | ⟨g, cap, cur, rfl, hbg, hg, hnc, hcm, hcs, htake⟩
  · by_cases hm : m = 0
    · subst hm
      have hn : news = [] := List.eq_nil_of_length_eq_zero (by simpa using hl)
      subst hn
      have hr2 : (Builtin.append_ #[t, t] ty #[.slice Option.none 0 0, .slice (some a) 0 c]).run P w = .ok (.slice Option.none 0 0) w := by
        simp [Builtin.append_, run_underlying ht, sizeOf, typeInfo, hi, Builtin.lenOf, Builtin.firstCells, loadCells, loadCellsFrom]
      rw [hr2] at hr
      cases hr
      simp [Value.ownBlock] at hk
    · have hr2 := run_append_nil (P := P) w t ty e i z ht hi hz a m c news hl hnews (by omega) (by omega) (by have hb := hbytes; simp only [Nat.zero_add] at hb; omega)
      rw [hr2] at hr
      cases hr
      simp [Value.ownBlock] at hk
      omega
  · by_cases hroom : n + m ≤ cap
    · have hfit : n * i.size + news.length ≤ cur.size := by rw [hl, hcs, ← Nat.add_mul]; exact Nat.mul_le_mul_right _ hroom
      have hr2 := run_append_room (P := P) w t ty e i ht hi g n cap cur hg a m c news hl hnews h1 hroom hfit
      rw [hr2] at hr
      cases hr
      exact Or.inl (by simpa [Value.ownBlock] using hk)
    · have holds : ∀ j u, xs[j]? = some u → w.cell? ((⟨g, 0, Option.none⟩ : Addr).add j) = some u := hown.cells (g := g) rfl
      have hr2 := run_append_grow (P := P) w t ty e i z ht hi hz ⟨g, 0, Option.none⟩ n cap xs hown.1 holds a m c news hl hnews (by omega) (by omega) (growslice_fits (by omega) hbytes)
      rw [hr2] at hr
      cases hr
      simp [Value.ownBlock] at hk
      omega
theorem wp_append_at {P : Program} {w : World} {o : Oper} {a : Act} {K : Act → World → Prop} {Q : Exit → Act → World → Prop} (s x : Operand) (t : TypeId)
    (ho : o.op = .call { callee := .builtin .append, args := #[s, x], argTypes := #[t, t] })
    (base : Nat) (e : TypeId) (i : TypeInfo) (z : Value) (size bytes : Nat) (ht : P.underlying t = some (.slice e)) (hi : P.info? e = some i) (hz : i.zero = some z)
    (hsize : i.size = size) (hby : i.bytes = bytes) (hzs : z.cells.size = size) (hsz : 0 < size)
    (v : Value) (n : Nat) (xs : List Value) (hs : a.eval s = v) (hown : w.ownsRow base e size v n xs)
    (ad : Addr) (m c : Nat) (news : List Value) (hx : a.eval x = .slice (some ad) m c) (hl : news.length = m * size) (hnews : ∀ j u, news[j]? = some u → w.cell? (ad.add j) = some u) (h1 : ∀ u ∈ news, u.oneCell' = true)
    (h63 : n + m ≤ maxLen) (hbytes : (n + m) * bytes ≤ 140737488355328) (hbase : base ≤ w.heap.size)
    (h : ∀ v' w', w'.ownsRow base e size v' (n + m) (xs ++ news) → w.grownBy w' v.ownBlock → (∀ k, v'.ownBlock = some k → v.ownBlock = some k ∨ w.heap.size ≤ k) → K (a.put o.dst v') w') : o.wp P a w K Q := by
  obtain ⟨v', w', hr, h2, h3, h4⟩ := run_append_at (P := P) w base t o.type e i z size bytes ht hi hz hsize hby hzs hsz v n xs hown ad m c news hl hnews h1 h63 hbytes hbase
  unfold Oper.wp execOp
  simp only [ho, resolve, invoke, builtin, Sem.run_bind, Sem.run_pure, Result.andThen_ok, List.map_toArray, List.map_cons, List.map_nil, hs, hx, hr]
  exact h v' w' h2 h3 h4
theorem wpList_append_at {P : Program} {w : World} {ops : Array Oper} {rest : List Oper} {o : Oper} {a : Act} {Q : Exit → Act → World → Prop} (hgd : o.guard = Option.none) (s x : Operand) (t : TypeId)
    (ho : o.op = .call { callee := .builtin .append, args := #[s, x], argTypes := #[t, t] })
    (base : Nat) (e : TypeId) (i : TypeInfo) (z : Value) (size bytes : Nat) (ht : P.underlying t = some (.slice e)) (hi : P.info? e = some i) (hz : i.zero = some z)
    (hsize : i.size = size) (hby : i.bytes = bytes) (hzs : z.cells.size = size) (hsz : 0 < size)
    (v : Value) (n : Nat) (xs : List Value) (hs : a.eval s = v) (hown : w.ownsRow base e size v n xs)
    (ad : Addr) (m c : Nat) (news : List Value) (hx : a.eval x = .slice (some ad) m c) (hl : news.length = m * size) (hnews : ∀ j u, news[j]? = some u → w.cell? (ad.add j) = some u) (h1 : ∀ u ∈ news, u.oneCell' = true)
    (h63 : n + m ≤ maxLen) (hbytes : (n + m) * bytes ≤ 140737488355328) (hbase : base ≤ w.heap.size)
    (h : ∀ v' w', w'.ownsRow base e size v' (n + m) (xs ++ news) → w.grownBy w' v.ownBlock → (∀ k, v'.ownBlock = some k → v.ownBlock = some k ∨ w.heap.size ≤ k) → wpList P ops Q rest (a.put o.dst v') w') : wpList P ops Q (o :: rest) a w :=
  wpList_plain hgd fun _ hK => wp_append_at s x t ho base e i z size bytes ht hi hz hsize hby hzs hsz v n xs hs hown ad m c news hx hl hnews h1 h63 hbytes hbase fun v' w' h2 h3 h4 => hK _ _ (h v' w' h2 h3 h4)
end Go.Proofs.Ytcjmmfgnnebgkaa


/- A fact that the walks leave alone. -/
namespace Go.Proofs.Ytcjmmfgnnebgkaa
open Go.RowKit
set_option maxRecDepth 20000
theorem hide' {p : Prop} (h : p) : Hid p := h
end Go.Proofs.Ytcjmmfgnnebgkaa


/- Objects: what a statement asks of one, whatever memory it has. -/
namespace Go.Proofs.Ytcjmmfgnnebgkaa
open Go.RowKit
set_option maxRecDepth 20000

/-- An invariant of an object: it hangs on the blocks of F alone. -/
structure ObjBase {σ : Type} (Inv : (Nat → Prop) → World → Value → σ → Prop) : Prop where
  stay : ∀ {F : Nat → Prop} {w w' : World} {v : Value} {st : σ}, Inv F w v st → w.heap.size ≤ w'.heap.size → (∀ k, F k → w'.heap[k]? = w.heap[k]?) → Inv F w' v st
  lt : ∀ {F : Nat → Prop} {w : World} {v : Value} {st : σ}, Inv F w v st → ∀ k, F k → k < w.heap.size
  ptr : ∀ {F : Nat → Prop} {w : World} {v : Value} {st : σ}, Inv F w v st → ∃ a, v = .pointer (some a)
/-- Behind a call on an object: what it has now, and what has turned. -/
structure KeptG {σ : Type} (Inv : (Nat → Prop) → World → Value → σ → Prop) (F : Nat → Prop) (w : World) (v : Value) (F' : Nat → Prop) (w' : World) (st' : σ) : Prop where
  inv : Inv F' w' v st'
  sub : ∀ k, F' k → F k ∨ w.heap.size ≤ k
  off : Off F w w'
variable {σ : Type} {Inv : (Nat → Prop) → World → Value → σ → Prop}
theorem ObjBase.keep (h : ObjBase Inv) {F G : Nat → Prop} {w w' : World} {v : Value} {st : σ} (hI : Inv F w v st) (hb : Off G w w') (hd : ∀ k, F k → ¬ G k) : Inv F w' v st :=
  h.stay hI hb.size (fun k hk => hb.block k (h.lt hI k hk) (hd k hk))
theorem ObjBase.below (h : ObjBase Inv) {F : Nat → Prop} {w w' : World} {v : Value} {st : σ} (hI : Inv F w v st) (hb : Below w.heap.size w w') : Inv F w' v st :=
  h.keep hI (Off.of_below (F := fun _ => False) hb) (fun _ _ h => h)
theorem ObjBase.kept (h : ObjBase Inv) {F : Nat → Prop} {w w' : World} {v : Value} {st : σ} (hI : Inv F w v st) (hb : Below w.heap.size w w') : KeptG Inv F w v F w' st := ⟨h.below hI hb, fun _ h => Or.inl h, Off.of_below hb⟩
/-- An object made by the statement, with all that came ahead of it as it was. -/
structure ObjIn (Inv : (Nat → Prop) → World → Value → σ → Prop) (w : World) (F : Nat → Prop) (v : Value) (st : σ) (wr : World) : Prop where
  inv : Inv F wr v st
  hF : ∀ k, F k → w.heap.size ≤ k
  hB : Below w.heap.size w wr
theorem ObjIn.o {w : World} {F F' : Nat → Prop} {v : Value} {st st' : σ} {wr wr' : World} (h : ObjIn Inv w F v st wr) (hK : KeptG Inv F wr v F' wr' st') : ObjIn Inv w F' v st' wr' :=
  ⟨hK.inv, fun k hk => (hK.sub k hk).elim (h.hF k) (fun e => Nat.le_trans h.hB.size e), h.hB.trans (hK.off.below h.hF h.hB.size)⟩
theorem ObjIn.quiet (hO : ObjBase Inv) {w : World} {F : Nat → Prop} {v : Value} {st : σ} {wr wr' : World} (h : ObjIn Inv w F v st wr) (hb : Below wr.heap.size wr wr') : ObjIn Inv w F v st wr' :=
  ⟨hO.below h.inv hb, h.hF, h.hB.trans (hb.mono h.hB.size)⟩
theorem ObjIn.off (hO : ObjBase Inv) {w : World} {F G : Nat → Prop} {v : Value} {st : σ} {wr wr' : World} (h : ObjIn Inv w F v st wr) (hb : Off G wr wr') (hd : ∀ k, F k → ¬ G k) (hG : ∀ k, G k → w.heap.size ≤ k) : ObjIn Inv w F v st wr' :=
  ⟨hO.keep h.inv hb hd, h.hF, h.hB.trans (hb.below hG h.hB.size)⟩
/-- A block of cells that was made. -/
def CBox (T : TypeId) (w : World) (b : Nat) (cs : Array Value) : Prop := w.heap[b]? = some (.cells cs T (0, 0))
theorem CBox.new (T : TypeId) (w : World) (cs : Array Value) : CBox T (w.alloc (.cells cs T)) w.heap.size cs := by
  show (w.heap.push _)[w.heap.size]? = _
  simp
theorem CBox.lt {T : TypeId} {w : World} {b : Nat} {cs : Array Value} (h : CBox T w b cs) : b < w.heap.size := by
  obtain ⟨hlt, _⟩ := Array.getElem?_eq_some_iff.1 h
  exact hlt
theorem CBox.cell {T : TypeId} {w : World} {b : Nat} {cs : Array Value} (h : CBox T w b cs) (i : Nat) : w.cell? ⟨b, i, none⟩ = cs[i]? := by unfold CBox at h; simp [World.cell?, h]
theorem CBox.frozen {T : TypeId} {w : World} {b : Nat} {cs : Array Value} (h : CBox T w b cs) (i : Nat) : w.frozen? ⟨b, i, none⟩ = false := by unfold CBox at h; simp [World.frozen?, h]
theorem CBox.grown {T : TypeId} {w w' : World} {b : Nat} {cs : Array Value} (h : CBox T w b cs) (hb : Below w.heap.size w w') : CBox T w' b cs := (hb.block b h.lt).trans h
theorem CBox.off {T : TypeId} {w w' : World} {b : Nat} {cs : Array Value} {F : Nat → Prop} (h : CBox T w b cs) (hb : Off F w w') (hn : ¬ F b) : CBox T w' b cs := off_block h hb hn
theorem CBox.put {T : TypeId} {w : World} {b : Nat} {cs : Array Value} (h : CBox T w b cs) (i : Nat) (v : Value) : CBox T (w.setCell ⟨b, i, none⟩ v) b (cs.setIfInBounds i v) := by
  unfold CBox at h ⊢
  simp [World.setCell, Array.getElem?_modify, h]
end Go.Proofs.Ytcjmmfgnnebgkaa


/- Steps, till it is gone: plain, and what the statements ask of the program's Power. -/
namespace Go.Proofs.Ytcjmmfgnnebgkaa
open Go.RowKit
set_option maxRecDepth 20000

/-- On or not; how many steps its fuse has left, where it has one; how many steps there were. -/
abbrev PSt : Type := Bool × Option Nat × Nat
def pFuse (st : PSt) (n : Int) : PSt := (st.1, if n < 0 then none else some n.toNat, st.2.2)
def pBack (st : PSt) : PSt := (true, none, st.2.2)
def pSpend (st : PSt) : Bool × PSt :=
  if st.1 = false then (false, st) else
  match st.2.1 with
  | some 0 => (false, (false, some 0, st.2.2))
  | some (k + 1) => (true, (true, some k, st.2.2 + 1))
  | none => (true, (true, none, st.2.2 + 1))
theorem pSpend_gone (f : Option Nat) (n : Nat) : pSpend (false, f, n) = (false, (false, f, n)) := rfl
theorem pSpend_end (n : Nat) : pSpend (true, some 0, n) = (false, (false, some 0, n)) := rfl
theorem pSpend_some (k n : Nat) : pSpend (true, some (k + 1), n) = (true, (true, some k, n + 1)) := rfl
theorem pSpend_free (n : Nat) : pSpend (true, none, n) = (true, (true, none, n + 1)) := rfl
theorem pSpend_le (st : PSt) : (pSpend st).2.2.2 ≤ st.2.2 + 1 := by
  obtain ⟨o, f, n⟩ := st
  cases o
  · exact Nat.le_succ n
  · rcases f with _ | _ | k
    · exact Nat.le_refl _
    · exact Nat.le_succ n
    · exact Nat.le_refl _
/-- What is asked of it, whatever memory it has. -/
structure PowIs (Inv : (Nat → Prop) → World → Value → PSt → Prop) : Prop where
  base : ObjBase Inv
  make : ∀ w : World, Calls Try.prog 8 #[] w fun e w' => ∃ v F, e = .returned v ∧ Inv F w' v (true, none, 0) ∧ (∀ k, F k → w.heap.size ≤ k) ∧ Below w.heap.size w w'
  fuse : ∀ (F : Nat → Prop) (v : Value) (st : PSt) (n : Int), n ≤ 9223372036854775807 → ∀ w : World, Inv F w v st → Calls Try.prog 21 #[v, .int .i64 n] w fun e w' => ∃ F', e = .returned (.tuple #[]) ∧ KeptG Inv F w v F' w' (pFuse st n)
  spend : ∀ (F : Nat → Prop) (v : Value) (st : PSt), st.2.2 ≤ 1000000 → ∀ w : World, Inv F w v st → Calls Try.prog 30 #[v] w fun e w' => ∃ F', e = .returned (.bool (pSpend st).1) ∧ KeptG Inv F w v F' w' (pSpend st).2
  back : ∀ (F : Nat → Prop) (v : Value) (st : PSt), ∀ w : World, Inv F w v st → Calls Try.prog 23 #[v] w fun e w' => ∃ F', e = .returned (.tuple #[]) ∧ KeptG Inv F w v F' w' (pBack st)
  on : ∀ (F : Nat → Prop) (v : Value) (st : PSt), ∀ w : World, Inv F w v st → Calls Try.prog 37 #[v] w fun e w' => e = .returned (.bool st.1) ∧ Below w.heap.size w w'
  steps : ∀ (F : Nat → Prop) (v : Value) (st : PSt), ∀ w : World, Inv F w v st → Calls Try.prog 25 #[v] w fun e w' => e = .returned (.int .i64 (st.2.2 : Int)) ∧ Below w.heap.size w w'
  fuseNil : ∀ (n : Int) (w : World), Calls Try.prog 21 #[.pointer none, .int .i64 n] w fun e w' => e = .returned (.tuple #[]) ∧ Below w.heap.size w w'
  spendNil : ∀ w : World, Calls Try.prog 30 #[.pointer none] w fun e w' => e = .returned (.bool false) ∧ Below w.heap.size w w'
  backNil : ∀ w : World, Calls Try.prog 23 #[.pointer none] w fun e w' => e = .returned (.tuple #[]) ∧ Below w.heap.size w w'
  onNil : ∀ w : World, Calls Try.prog 37 #[.pointer none] w fun e w' => e = .returned (.bool false) ∧ Below w.heap.size w w'
  stepsNil : ∀ w : World, Calls Try.prog 25 #[.pointer none] w fun e w' => e = .returned (.int .i64 0) ∧ Below w.heap.size w w'
variable {Inv : (Nat → Prop) → World → Value → PSt → Prop}
theorem spend_at (hO : PowIs Inv) (F : Nat → Prop) (v : Value) {st st' : PSt} {r : Bool} (h : pSpend st = (r, st')) (hn : st.2.2 ≤ 1000000) (w : World) (hI : Inv F w v st) : Calls Try.prog 30 #[v] w fun e w' => ∃ F', e = .returned (.bool r) ∧ KeptG Inv F w v F' w' st' := by
  have := hO.spend F v st hn w hI
  rw [h] at this
  exact this
theorem fuse_at (hO : PowIs Inv) (F : Nat → Prop) (v : Value) (st : PSt) {st' : PSt} {n : Int} (h : pFuse st n = st') (hn : n ≤ 1000000) (w : World) (hI : Inv F w v st) : Calls Try.prog 21 #[v, .int .i64 n] w fun e w' => ∃ F', e = .returned (.tuple #[]) ∧ KeptG Inv F w v F' w' st' := by
  subst h
  exact hO.fuse F v st n (by omega) w hI
end Go.Proofs.Ytcjmmfgnnebgkaa


/- Two objects apart from each other, in memory of their own. -/
namespace Go.Proofs.Ytcjmmfgnnebgkaa
open Go.RowKit
set_option maxRecDepth 20000

structure Duo {σ τ : Type} (I : (Nat → Prop) → World → Value → σ → Prop) (J : (Nat → Prop) → World → Value → τ → Prop) (w : World) (F : Nat → Prop) (v : Value) (s : σ) (G : Nat → Prop) (u : Value) (t : τ) (wr : World) : Prop where
  one : I F wr v s
  two : J G wr u t
  dis : ∀ k, F k → ¬ G k
  hF : ∀ k, F k → w.heap.size ≤ k
  hG : ∀ k, G k → w.heap.size ≤ k
  hB : Below w.heap.size w wr
section
variable {σ τ : Type} {I : (Nat → Prop) → World → Value → σ → Prop} {J : (Nat → Prop) → World → Value → τ → Prop} {w wr wr' : World} {F G : Nat → Prop} {v u : Value} {s : σ} {t : τ}
theorem Duo.o1 (hJ : ObjBase J) (h : Duo I J w F v s G u t wr) {F' : Nat → Prop} {s' : σ} (hK : KeptG I F wr v F' wr' s') : Duo I J w F' v s' G u t wr' :=
  ⟨hK.inv, hJ.keep h.two hK.off (fun k hg hf => h.dis k hf hg), fun k hf hg => (hK.sub k hf).elim (fun e => h.dis k e hg) (fun e => by have := hJ.lt h.two k hg; omega),
    fun k hk => (hK.sub k hk).elim (h.hF k) (fun e => Nat.le_trans h.hB.size e), h.hG, h.hB.trans (hK.off.below h.hF h.hB.size)⟩
theorem Duo.o2 (hI : ObjBase I) (h : Duo I J w F v s G u t wr) {G' : Nat → Prop} {t' : τ} (hK : KeptG J G wr u G' wr' t') : Duo I J w F v s G' u t' wr' :=
  ⟨hI.keep h.one hK.off h.dis, hK.inv, fun k hf hg => (hK.sub k hg).elim (h.dis k hf) (fun e => by have := hI.lt h.one k hf; omega),
    h.hF, fun k hk => (hK.sub k hk).elim (h.hG k) (fun e => Nat.le_trans h.hB.size e), h.hB.trans (hK.off.below h.hG h.hB.size)⟩
theorem Duo.off (hI : ObjBase I) (hJ : ObjBase J) (h : Duo I J w F v s G u t wr) {H : Nat → Prop} (hoff : Off H wr wr') (h1 : ∀ k, F k → ¬ H k) (h2 : ∀ k, G k → ¬ H k) (h3 : ∀ k, H k → w.heap.size ≤ k) : Duo I J w F v s G u t wr' :=
  ⟨hI.keep h.one hoff h1, hJ.keep h.two hoff h2, h.dis, h.hF, h.hG, h.hB.trans (hoff.below h3 h.hB.size)⟩
theorem Duo.quiet (hI : ObjBase I) (hJ : ObjBase J) (h : Duo I J w F v s G u t wr) (hb : Below wr.heap.size wr wr') : Duo I J w F v s G u t wr' :=
  h.off hI hJ (Off.of_below (F := fun _ => False) hb) (fun _ _ h => h) (fun _ _ h => h) (fun _ h => h.elim)
/-- A block that is made now is neither's. -/
theorem Duo.new (hI : ObjBase I) (hJ : ObjBase J) (h : Duo I J w F v s G u t wr) : ¬ F wr.heap.size ∧ ¬ G wr.heap.size ∧ w.heap.size ≤ wr.heap.size := ⟨fun e => Nat.lt_irrefl _ (hI.lt h.one _ e), fun e => Nat.lt_irrefl _ (hJ.lt h.two _ e), h.hB.size⟩
/-- The second object made behind the first one. -/
theorem ObjIn.duo (hI : ObjBase I) (h : ObjIn I w F v s wr) (hj : J G wr' u t) (hG : ∀ k, G k → wr.heap.size ≤ k) (hb : Below wr.heap.size wr wr') : Duo I J w F v s G u t wr' :=
  ⟨hI.below h.inv hb, hj, fun k hf hg => by have := hI.lt h.inv k hf; have := hG k hg; omega, h.hF, fun k hk => Nat.le_trans h.hB.size (hG k hk), h.hB.trans (hb.mono h.hB.size)⟩
end
end Go.Proofs.Ytcjmmfgnnebgkaa


/- A call on two objects; two objects as one. -/
namespace Go.Proofs.Ytcjmmfgnnebgkaa
open Go.RowKit
set_option maxRecDepth 20000

/-- What is told of a call on two objects: what both have now, and what has turned. -/
structure KeptD {σ τ : Type} (I : (Nat → Prop) → World → Value → σ → Prop) (J : (Nat → Prop) → World → Value → τ → Prop) (F G : Nat → Prop) (w : World) (v u : Value) (F' G' : Nat → Prop) (w' : World) (s' : σ) (t' : τ) : Prop where
  one : I F' w' v s'
  two : J G' w' u t'
  dis : ∀ k, F' k → ¬ G' k
  sub1 : ∀ k, F' k → F k ∨ w.heap.size ≤ k
  sub2 : ∀ k, G' k → G k ∨ w.heap.size ≤ k
  off : Off (fun k => F k ∨ G k) w w'
theorem Duo.both {σ τ : Type} {I : (Nat → Prop) → World → Value → σ → Prop} {J : (Nat → Prop) → World → Value → τ → Prop} {w wr wr' : World} {F G F' G' : Nat → Prop} {v u : Value} {s s' : σ} {t t' : τ} (h : Duo I J w F v s G u t wr) (hK : KeptD I J F G wr v u F' G' wr' s' t') : Duo I J w F' v s' G' u t' wr' :=
  ⟨hK.one, hK.two, hK.dis, fun k hk => (hK.sub1 k hk).elim (h.hF k) (fun e => Nat.le_trans h.hB.size e), fun k hk => (hK.sub2 k hk).elim (h.hG k) (fun e => Nat.le_trans h.hB.size e),
    h.hB.trans (hK.off.below (fun k hk => hk.elim (h.hF k) (h.hG k)) h.hB.size)⟩
/-- A call on the second, behind which the first alone has turned. -/
theorem KeptG.thenOne {σ τ : Type} {I : (Nat → Prop) → World → Value → σ → Prop} {J : (Nat → Prop) → World → Value → τ → Prop} (hJ : ObjBase J) {F G G' : Nat → Prop} {w w1 w' : World} {v u : Value} {s' : σ} {t' : τ} (hK : KeptG J G w u G' w1 t') (hd : ∀ k, F k → ¬ G k) (hlt : ∀ k, F k → k < w.heap.size) (h1 : I F w' v s') (ho : Off F w1 w') : KeptD I J F G w v u F G' w' s' t' where
  one := h1
  two := hJ.keep hK.inv ho (fun k hg hf => (hK.sub k hg).elim (hd k hf) (fun e => absurd (hlt k hf) (Nat.not_lt.2 e)))
  dis := fun k hf hg => (hK.sub k hg).elim (hd k hf) (fun e => absurd (hlt k hf) (Nat.not_lt.2 e))
  sub1 := fun _ h => Or.inl h
  sub2 := hK.sub
  off := (hK.off.mono (G := fun k => F k ∨ G k) (fun _ h => Or.inl (Or.inr h))).trans ho (fun _ h => Or.inl (Or.inl h))
/-- .. and has some more memory. -/
theorem KeptG.thenNew {σ τ : Type} {I : (Nat → Prop) → World → Value → σ → Prop} {J : (Nat → Prop) → World → Value → τ → Prop} (hJ : ObjBase J) {F F' G G' : Nat → Prop} {w w1 w' : World} {v u : Value} {s' : σ} {t' : τ} (hK : KeptG J G w u G' w1 t') (hd : ∀ k, F k → ¬ G k) (hlt : ∀ k, F k → k < w.heap.size) (h1 : I F' w' v s') (ho : Off F w1 w') (hF' : ∀ k, F' k → F k ∨ w1.heap.size ≤ k) : KeptD I J F G w v u F' G' w' s' t' where
  one := h1
  two := hJ.keep hK.inv ho (fun k hg hf => (hK.sub k hg).elim (hd k hf) (fun e => absurd (hlt k hf) (Nat.not_lt.2 e)))
  dis := fun k hf hg => (hF' k hf).elim (fun hf => (hK.sub k hg).elim (hd k hf) (fun e => absurd (hlt k hf) (Nat.not_lt.2 e))) (fun e => absurd (hJ.lt hK.inv k hg) (Nat.not_lt.2 e))
  sub1 := fun k hf => (hF' k hf).imp id (fun e => Nat.le_trans hK.off.size e)
  sub2 := hK.sub
  off := (hK.off.mono (G := fun k => F k ∨ G k) (fun _ h => Or.inl (Or.inr h))).trans ho (fun _ h => Or.inl (Or.inl h))
theorem Duo.swap {σ τ : Type} {I : (Nat → Prop) → World → Value → σ → Prop} {J : (Nat → Prop) → World → Value → τ → Prop} {w wr : World} {F G : Nat → Prop} {v u : Value} {s : σ} {t : τ} (h : Duo I J w F v s G u t wr) : Duo J I w G u t F v s wr :=
  ⟨h.two, h.one, fun k hg hf => h.dis k hf hg, h.hG, h.hF, h.hB⟩
/-- Two objects as one, known by the first. -/
def PairI {σ τ : Type} (I : (Nat → Prop) → World → Value → σ → Prop) (J : (Nat → Prop) → World → Value → τ → Prop) (u : Value) (H : Nat → Prop) (w : World) (v : Value) (s : σ × τ) : Prop := ∃ F G, I F w v s.1 ∧ J G w u s.2 ∧ (∀ k, F k → ¬ G k) ∧ ∀ k, H k ↔ F k ∨ G k
section
variable {σ τ : Type} {I : (Nat → Prop) → World → Value → σ → Prop} {J : (Nat → Prop) → World → Value → τ → Prop} {u v : Value} {H F G F' G' : Nat → Prop} {w w' : World} {s s' : σ} {t t' : τ}
theorem pairbase (hI : ObjBase I) (hJ : ObjBase J) (u : Value) : ObjBase (PairI I J u) := by
  refine ⟨?_, ?_, ?_⟩
  · rintro H w w' v st ⟨F, G, h1, h2, h3, h4⟩ hs hb
    exact ⟨F, G, hI.stay h1 hs (fun k hk => hb k ((h4 k).2 (Or.inl hk))), hJ.stay h2 hs (fun k hk => hb k ((h4 k).2 (Or.inr hk))), h3, h4⟩
  · rintro H w v st ⟨F, G, h1, h2, h3, h4⟩ k hk
    exact ((h4 k).1 hk).elim (hI.lt h1 k) (hJ.lt h2 k)
  · rintro H w v _ ⟨F, G, h1, _, _, _⟩
    exact hI.ptr h1
theorem KeptD.pair (hK : KeptD I J F G w v u F' G' w' s' t') (hH : ∀ k, H k ↔ F k ∨ G k) : KeptG (PairI I J u) H w v (fun k => F' k ∨ G' k) w' (s', t') :=
  ⟨⟨F', G', hK.one, hK.two, hK.dis, fun _ => Iff.rfl⟩, fun k hk => hk.elim (fun h => (hK.sub1 k h).imp (fun h => (hH k).2 (Or.inl h)) id) (fun h => (hK.sub2 k h).imp (fun h => (hH k).2 (Or.inr h)) id), hK.off.mono (fun k hk => Or.inl ((hH k).2 hk))⟩
/-- A call on the second alone. -/
theorem KeptG.pair2 (hI : ObjBase I) (hK : KeptG J G w u G' w' t') (h1 : I F w v s) (hd : ∀ k, F k → ¬ G k) (hH : ∀ k, H k ↔ F k ∨ G k) : KeptG (PairI I J u) H w v (fun k => F k ∨ G' k) w' (s, t') :=
  ⟨⟨F, G', hI.keep h1 hK.off hd, hK.inv, fun k hf hg => (hK.sub k hg).elim (hd k hf) (fun e => absurd (hI.lt h1 k hf) (Nat.not_lt.2 e)), fun _ => Iff.rfl⟩, fun k hk => hk.elim (fun h => Or.inl ((hH k).2 (Or.inl h))) (fun h => (hK.sub k h).imp (fun h => (hH k).2 (Or.inr h)) id), hK.off.mono (fun k hk => Or.inl ((hH k).2 (Or.inr hk)))⟩
/-- The first made behind the second. -/
theorem ObjIn.pair (hJ : ObjBase J) {w0 : World} (M : ObjIn J w0 G u t w) (h1 : I F w' v s) (hF : ∀ k, F k → w.heap.size ≤ k) (hb : Below w.heap.size w w') : ObjIn (PairI I J u) w0 (fun k => F k ∨ G k) v (s, t) w' :=
  ⟨⟨F, G, h1, hJ.below M.inv hb, fun k hf hg => absurd (hJ.lt M.inv k hg) (Nat.not_lt.2 (hF k hf)), fun _ => Iff.rfl⟩, fun k hk => hk.elim (fun h => Nat.le_trans M.hB.size (hF k h)) (M.hF k), M.hB.trans (hb.mono M.hB.size)⟩
/-- The first of two apart has one more made to it. -/
theorem Duo.pairOne {υ : Type} {K : (Nat → Prop) → World → Value → υ → Prop} {G2 : Nat → Prop} {u2 : Value} {t2 : υ} (hJ : ObjBase J) (hK : ObjBase K) {w0 : World} (M : Duo J K w0 G u t G2 u2 t2 w) (h1 : I F w' v s) (hF : ∀ k, F k → w.heap.size ≤ k) (hb : Below w.heap.size w w') : Duo (PairI I J u) K w0 (fun k => F k ∨ G k) v (s, t) G2 u2 t2 w' :=
  have M' := M.quiet hJ hK hb
  ⟨⟨F, G, h1, M'.one, fun k hf hg => absurd (hJ.lt M.one k hg) (Nat.not_lt.2 (hF k hf)), fun _ => Iff.rfl⟩, M'.two, fun k hk hg => hk.elim (fun h => absurd (hK.lt M.two k hg) (Nat.not_lt.2 (hF k h))) (fun h => M.dis k h hg),
    fun k hk => hk.elim (fun h => Nat.le_trans M.hB.size (hF k h)) (M.hF k), M.hG, M'.hB⟩
end
end Go.Proofs.Ytcjmmfgnnebgkaa


/- Plain facts on bytes and numbers: the number that bytes say, the highest first, and its bytes. -/
namespace Go.Proofs.Ytcjmmfgnnebgkaa
open Go.RowKit
set_option maxRecDepth 20000

/-- Byte number j of V, counted from the lowest. -/
def byteAt (V j : Nat) : Nat := V / 256 ^ j % 256
theorem byteAt_lt (V j : Nat) : byteAt V j < 256 := Nat.mod_lt _ (by decide)

theorem pow_step {n k : Nat} (h1 : 1 ≤ k) (h2 : k ≤ n) : n - (k - 1) = n - k + 1 := by omega
theorem shr_step (V n k : Nat) (h1 : 1 ≤ k) (h2 : k ≤ n) : (V : Int) / 256 ^ (n - k) / 256 = ((V / 256 ^ (n - (k - 1)) : Nat) : Int) := by
  rw [pow_step h1 h2, Nat.pow_succ, ← Nat.div_div_eq_div_mul]; simp
theorem byte_step (V n k : Nat) (h1 : 1 ≤ k) (h2 : k ≤ n) : (V : Int) / 256 ^ (n - k) % 256 = (byteAt V (n - 1 - (k - 1)) : Nat) := by
  rw [show n - 1 - (k - 1) = n - k from by omega, byteAt]; simp

/-- Cells that are bytes. -/
def Bytes (xs : List Int) : Prop := ∀ x ∈ xs, 0 ≤ x ∧ x < 256
theorem Bytes.take {xs : List Int} (h : Bytes xs) (k : Nat) : Bytes (xs.take k) := fun x hx => h x (List.mem_of_mem_take hx)
theorem Bytes.drop {xs : List Int} (h : Bytes xs) (k : Nat) : Bytes (xs.drop k) := fun x hx => h x (List.mem_of_mem_drop hx)
theorem Bytes.at {xs : List Int} (h : Bytes xs) (k : Nat) (hk : k < xs.length) : 0 ≤ xs[k] ∧ xs[k] < 256 := h _ (List.getElem_mem hk)
theorem Bytes.append {xs ys : List Int} (h : Bytes xs) (h' : Bytes ys) : Bytes (xs ++ ys) := fun x hx => (List.mem_append.1 hx).elim (h x) (h' x)

/-- The number of bytes, the highest first. -/
def num (xs : List Int) : Int := xs.foldl (fun v x => v * 256 + x) 0
theorem num_snoc (xs : List Int) (x : Int) : num (xs ++ [x]) = num xs * 256 + x := by simp [num]
theorem num_take (xs : List Int) (k : Nat) (hk : k < xs.length) : num (xs.take (k + 1)) = num (xs.take k) * 256 + xs[k] := by
  rw [List.take_succ_eq_append_getElem hk, num_snoc]
theorem num_bound (xs : List Int) (h : Bytes xs) : ∀ k, k ≤ xs.length → 0 ≤ num (xs.take k) ∧ num (xs.take k) < 256 ^ k := by
  intro k
  induction k with
  | zero => intro _; simp [num]
  | succ k ih =>
    intro hk
    have := ih (by omega)
    have hb := h.at k (by omega)
    rw [num_take xs k (by omega), Int.pow_succ]
    omega
theorem pow_le8 (k : Nat) (h : k ≤ 8) : (256 : Int) ^ k ≤ 18446744073709551616 := by
  have : k = 0 ∨ k = 1 ∨ k = 2 ∨ k = 3 ∨ k = 4 ∨ k = 5 ∨ k = 6 ∨ k = 7 ∨ k = 8 := by omega
  rcases this with rfl | rfl | rfl | rfl | rfl | rfl | rfl | rfl | rfl <;> decide
theorem num_lt (xs : List Int) (h : Bytes xs) (hl : xs.length ≤ 8) : 0 ≤ num xs ∧ num xs < 18446744073709551616 := by
  have := num_bound xs h xs.length (Nat.le_refl _)
  rw [List.take_length] at this
  have := pow_le8 _ hl
  omega

theorem or_step (a x : Int) (h0 : 0 ≤ a) (h1 : a * 256 + x < 18446744073709551616) (h2 : 0 ≤ x) (h3 : x < 256) :
    bits .or .u64 (IntKind.u64.wrap (a * 256)) (IntKind.u64.wrap x) = a * 256 + x := by
  have e1 : IntKind.u64.wrap (a * 256) = a * 256 := by rw [IntKind.wrap_u64]; omega
  have e2 : IntKind.u64.wrap x = x := by rw [IntKind.wrap_u64]; omega
  rw [e1, e2, u64_or _ _ (by omega) (by omega) h2 (by omega), nat_join 8 _ _ (by omega) (by omega)]
  omega

theorem num_step (xs : List Int) (h : Bytes xs) (hl : xs.length ≤ 8) (k : Nat) (hk : k < xs.length) :
    bits .or .u64 (IntKind.u64.wrap (num (xs.take k) * 256)) (IntKind.u64.wrap xs[k]) = num (xs.take (k + 1)) := by
  have b1 := num_bound xs h k (by omega)
  have b2 := num_bound xs h (k + 1) (by omega)
  have b3 := pow_le8 (k + 1) (by omega)
  have b4 := h.at k hk
  rw [num_take xs k hk] at b2 ⊢
  exact or_step _ _ b1.1 (by omega) b4.1 b4.2

end Go.Proofs.Ytcjmmfgnnebgkaa
