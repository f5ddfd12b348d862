/- OraclePlays: two ideal sealers, apart from each other; the act that is on; long. -/
import Derived.Test.YtfgigbecmhmidaaOrcRow
import Derived.Test.YtfgigbecmhmidaaActAt
import Derived.Test.YtfgigbecmhmidaaRegionM
import Derived.Test.YtfgigbecmhmidaaRefOSeal
namespace Go.Proofs.Ytfgigbecmhmidaa
open Go.RowKit

variable {Inv : (Nat → Prop) → World → Value → OSt → Prop}
/-- The program's, and the document's, each in memory of its own. -/
structure PSt (Inv : (Nat → Prop) → World → Value → OSt → Prop) (w : World) (a1 : Addr) (bx : Nat) (F G : Nat → Prop) (st st2 : OSt) (wr : World) : Prop where
  inv : Inv F wr (.pointer (some a1)) st
  rin : RInv G wr bx st2
  dis : ∀ k, F k → ¬ G k
  hF : ∀ k, F k → w.heap.size ≤ k
  hG : ∀ k, G k → w.heap.size ≤ k
  hB : Below w.heap.size w wr
section
variable {w : World} {a1 : Addr} {bx : Nat} {F G : Nat → Prop} {st st2 : OSt} {wr wr' : World}
theorem PSt.o (h : PSt Inv w a1 bx F G st st2 wr) {F' : Nat → Prop} {st' : OSt} (hK : Kept Inv F wr (.pointer (some a1)) F' wr' st') : PSt Inv w a1 bx F' G st' st2 wr' :=
  ⟨hK.inv, h.rin.off hK.off (fun k _ hg hf => h.dis k hf hg), fun k hk hg => (hK.sub k hk).elim (fun hf => h.dis k hf hg) (fun e => by have := h.rin.lt k hg; omega), fun k hk => (hK.sub k hk).elim (h.hF k) (fun e => Nat.le_trans h.hB.size e), h.hG, h.hB.trans (hK.off.below h.hF h.hB.size)⟩
theorem PSt.x (hO : OrcIs Inv) (h : PSt Inv w a1 bx F G st st2 wr) {G' : Nat → Prop} {st' : OSt} (hR : RInv G' wr' bx st') (hsub : ∀ k, G' k → G k ∨ wr.heap.size ≤ k) (hoff : Off G wr wr') : PSt Inv w a1 bx F G' st st' wr' :=
  ⟨hO.keep h.inv hoff (fun k hf hg => h.dis k hf hg), hR, fun k hf hk => (hsub k hk).elim (h.dis k hf) (fun e => by have := hO.lt h.inv k hf; omega), h.hF, fun k hk => (hsub k hk).elim (h.hG k) (fun e => Nat.le_trans h.hB.size e), h.hB.trans (hoff.below h.hG h.hB.size)⟩
theorem PSt.off (hO : OrcIs Inv) (h : PSt Inv w a1 bx F G st st2 wr) {H : Nat → Prop} (hoff : Off H wr wr') (h1 : ∀ k, F k → ¬ H k) (h2 : ∀ k, G k → ¬ H k) (h3 : ∀ k, H k → w.heap.size ≤ k) : PSt Inv w a1 bx F G st st2 wr' :=
  ⟨hO.keep h.inv hoff h1, h.rin.off hoff (fun k _ hg => h2 k hg), h.dis, h.hF, h.hG, h.hB.trans (hoff.below h3 h.hB.size)⟩
theorem PSt.quiet (hO : OrcIs Inv) (h : PSt Inv w a1 bx F G st st2 wr) (hb : Below wr.heap.size wr wr') : PSt Inv w a1 bx F G st st2 wr' :=
  h.off hO (Off.of_below (F := fun _ => False) hb) (fun _ _ h => h) (fun _ _ h => h) (fun _ h => h.elim)
theorem PSt.newF (hO : OrcIs Inv) (h : PSt Inv w a1 bx F G st st2 wr) : ¬ F wr.heap.size ∧ ¬ G wr.heap.size := ⟨fun e => Nat.lt_irrefl _ (hO.lt h.inv _ e), fun e => Nat.lt_irrefl _ (h.rin.lt _ e)⟩
/-- What came in is neither's. -/
theorem PSt.inF (h : PSt Inv w a1 bx F G st st2 wr) {x : Option Addr} {n : Nat} {ys : List Int} (hs : SAt w x n ys) : SIn (fun k => ¬ F k) wr x n ys :=
  (hs.inn.off (Off.of_below (F := fun _ => False) h.hB) (fun _ _ _ h => h)).mono (fun k _ hk hf => by have := h.hF k hf; omega)
theorem PSt.inG (h : PSt Inv w a1 bx F G st st2 wr) {x : Option Addr} {n : Nat} {ys : List Int} (hs : SAt w x n ys) : SIn (fun k => ¬ G k) wr x n ys :=
  (hs.inn.off (Off.of_below (F := fun _ => False) h.hB) (fun _ _ _ h => h)).mono (fun k _ hk hf => by have := h.hG k hf; omega)
end
/-- The document's own row of what was sealed. -/
theorem irow_rd {G : Nat → Prop} {w : World} {v : Value} {L : List Iss} (h : IRow G w v L) : ∃ x c, v = .slice x L.length c ∧ L.length ≤ c ∧ IRd w x L.length L := by
  by_cases hp : 0 < L.length
  · obtain ⟨g, cap, e, hc, hg, hr⟩ := iss_rows h hp
    refine ⟨_, cap, e, hc, rfl, fun _ => ⟨g, 0, rfl, hg, fun i hi => ?_⟩⟩
    obtain ⟨c, h1, h2⟩ := hr i hi
    exact ⟨c, h1.mono (fun _ _ _ => trivial), fun j u hj => by
      have := h2 j u hj
      rw [Nat.zero_add]
      exact this⟩
  · obtain ⟨C, h1, _, _⟩ := h
    obtain ⟨y, cy, e, hc, _, _⟩ := own_is h1
    exact ⟨y, cy, e, hc, rfl, fun h => absurd h hp⟩
theorem sumSt_len (S : List (List Int)) (p : List Int) : (sumSt S p).length ≤ S.length + 1 := by
  unfold sumSt
  split
  · omega
  · simp
/-- Sum of one row. -/
theorem osum_one (hO : OrcIs Inv) (F : Nat → Prop) (v : Value) (st : OSt) (zs : List Int) (x : Option Addr) (hl : zs.length ≤ 50000) (hS : st.2.length ≤ 10000) (hx : x ≠ none) (w : World) (hI : Inv F w v st) (h : LIn (fun k => ¬ F k) w x 1 [zs]) :
    Calls Try.prog 16 #[v, .slice x 1 1] w fun e w' => ∃ F', e = .returned (.agg #[.int .u64 17216961135462248174, .int .u64 (sumIx st.2 zs : Nat)]) ∧ Kept Inv F w v F' w' (st.1, sumSt st.2 zs) := by
  have hz : [zs].flatten = zs := by simp
  have := hO.sum F v st.1 st.2 [zs] x 1 1 (by decide) (by rw [hz]; exact hl) hS ⟨Nat.le_refl _, by decide, fun e => absurd e hx⟩ w hI h
  rw [hz] at this
  exact this
/-- The act that is on. -/
def ABox (w : World) (b : Nat) (kd : Int) (key : BitVec 64 × BitVec 64) (nn : Nn) (h : Option Addr) (nh hc : Nat) (d : Option Addr) (nd dc : Nat) (num : Int) (by_ : BitVec 64) : Prop := w.heap[b]? = some (.cells #[.int .i64 kd, .int .u64 (nv key.1), .int .u64 (nv key.2), .int .u32 (nv32 nn.1), .int .u32 (nv32 nn.2.1), .int .u64 (nv nn.2.2), .slice h nh hc, .slice d nd dc, .int .i64 num, .int .u64 (nv by_)] 39 (0, 0))
theorem ABox.lt {w : World} {b : Nat} {kd : Int} {key : BitVec 64 × BitVec 64} {nn : Nn} {h : Option Addr} {nh hc : Nat} {d : Option Addr} {nd dc : Nat} {num : Int} {by_ : BitVec 64} (hx : ABox w b kd key nn h nh hc d nd dc num by_) : b < w.heap.size := by
  obtain ⟨hlt, _⟩ := Array.getElem?_eq_some_iff.1 hx
  exact hlt
theorem ABox.new (w : World) (kd : Int) (key : BitVec 64 × BitVec 64) (nn : Nn) (h : Option Addr) (nh hc : Nat) (d : Option Addr) (nd dc : Nat) (num : Int) (by_ : BitVec 64) : ABox (w.alloc (.cells #[.int .i64 kd, .int .u64 (nv key.1), .int .u64 (nv key.2), .int .u32 (nv32 nn.1), .int .u32 (nv32 nn.2.1), .int .u64 (nv nn.2.2), .slice h nh hc, .slice d nd dc, .int .i64 num, .int .u64 (nv by_)] 39)) w.heap.size kd key nn h nh hc d nd dc num by_ := heap_alloc_new w _
theorem ABox.grown {w w' : World} {b : Nat} {kd : Int} {key : BitVec 64 × BitVec 64} {nn : Nn} {h : Option Addr} {nh hc : Nat} {d : Option Addr} {nd dc : Nat} {num : Int} {by_ : BitVec 64} (hx : ABox w b kd key nn h nh hc d nd dc num by_) (hb : Below w.heap.size w w') : ABox w' b kd key nn h nh hc d nd dc num by_ := (hb.block b hx.lt).trans hx
theorem ABox.c0 {w : World} {b : Nat} {kd : Int} {key : BitVec 64 × BitVec 64} {nn : Nn} {h : Option Addr} {nh hc : Nat} {d : Option Addr} {nd dc : Nat} {num : Int} {by_ : BitVec 64} (hx : ABox w b kd key nn h nh hc d nd dc num by_) : w.cell? ⟨b, 0, none⟩ = some (.int .i64 kd) := by unfold ABox at hx; simp [World.cell?, hx]
theorem ABox.c1 {w : World} {b : Nat} {kd : Int} {key : BitVec 64 × BitVec 64} {nn : Nn} {h : Option Addr} {nh hc : Nat} {d : Option Addr} {nd dc : Nat} {num : Int} {by_ : BitVec 64} (hx : ABox w b kd key nn h nh hc d nd dc num by_) : w.cell? ⟨b, 1, none⟩ = some (.int .u64 (nv key.1)) := by unfold ABox at hx; simp [World.cell?, hx]
theorem ABox.c2 {w : World} {b : Nat} {kd : Int} {key : BitVec 64 × BitVec 64} {nn : Nn} {h : Option Addr} {nh hc : Nat} {d : Option Addr} {nd dc : Nat} {num : Int} {by_ : BitVec 64} (hx : ABox w b kd key nn h nh hc d nd dc num by_) : w.cell? ⟨b, 2, none⟩ = some (.int .u64 (nv key.2)) := by unfold ABox at hx; simp [World.cell?, hx]
theorem ABox.c3 {w : World} {b : Nat} {kd : Int} {key : BitVec 64 × BitVec 64} {nn : Nn} {h : Option Addr} {nh hc : Nat} {d : Option Addr} {nd dc : Nat} {num : Int} {by_ : BitVec 64} (hx : ABox w b kd key nn h nh hc d nd dc num by_) : w.cell? ⟨b, 3, none⟩ = some (.int .u32 (nv32 nn.1)) := by unfold ABox at hx; simp [World.cell?, hx]
theorem ABox.c4 {w : World} {b : Nat} {kd : Int} {key : BitVec 64 × BitVec 64} {nn : Nn} {h : Option Addr} {nh hc : Nat} {d : Option Addr} {nd dc : Nat} {num : Int} {by_ : BitVec 64} (hx : ABox w b kd key nn h nh hc d nd dc num by_) : w.cell? ⟨b, 4, none⟩ = some (.int .u32 (nv32 nn.2.1)) := by unfold ABox at hx; simp [World.cell?, hx]
theorem ABox.c5 {w : World} {b : Nat} {kd : Int} {key : BitVec 64 × BitVec 64} {nn : Nn} {h : Option Addr} {nh hc : Nat} {d : Option Addr} {nd dc : Nat} {num : Int} {by_ : BitVec 64} (hx : ABox w b kd key nn h nh hc d nd dc num by_) : w.cell? ⟨b, 5, none⟩ = some (.int .u64 (nv nn.2.2)) := by unfold ABox at hx; simp [World.cell?, hx]
theorem ABox.c6 {w : World} {b : Nat} {kd : Int} {key : BitVec 64 × BitVec 64} {nn : Nn} {h : Option Addr} {nh hc : Nat} {d : Option Addr} {nd dc : Nat} {num : Int} {by_ : BitVec 64} (hx : ABox w b kd key nn h nh hc d nd dc num by_) : w.cell? ⟨b, 6, none⟩ = some (.slice h nh hc) := by unfold ABox at hx; simp [World.cell?, hx]
theorem ABox.c7 {w : World} {b : Nat} {kd : Int} {key : BitVec 64 × BitVec 64} {nn : Nn} {h : Option Addr} {nh hc : Nat} {d : Option Addr} {nd dc : Nat} {num : Int} {by_ : BitVec 64} (hx : ABox w b kd key nn h nh hc d nd dc num by_) : w.cell? ⟨b, 7, none⟩ = some (.slice d nd dc) := by unfold ABox at hx; simp [World.cell?, hx]
theorem ABox.c8 {w : World} {b : Nat} {kd : Int} {key : BitVec 64 × BitVec 64} {nn : Nn} {h : Option Addr} {nh hc : Nat} {d : Option Addr} {nd dc : Nat} {num : Int} {by_ : BitVec 64} (hx : ABox w b kd key nn h nh hc d nd dc num by_) : w.cell? ⟨b, 8, none⟩ = some (.int .i64 num) := by unfold ABox at hx; simp [World.cell?, hx]
theorem ABox.c9 {w : World} {b : Nat} {kd : Int} {key : BitVec 64 × BitVec 64} {nn : Nn} {h : Option Addr} {nh hc : Nat} {d : Option Addr} {nd dc : Nat} {num : Int} {by_ : BitVec 64} (hx : ABox w b kd key nn h nh hc d nd dc num by_) : w.cell? ⟨b, 9, none⟩ = some (.int .u64 (nv by_)) := by unfold ABox at hx; simp [World.cell?, hx]
/-- One that has sealed nothing. -/
theorem rinv_new (w : World) : RInv (fun k => k = w.heap.size) (w.alloc (.cells #[.slice none 0 0, .slice none 0 0] 30)) w.heap.size ([], []) := by
  refine ⟨fun _ => False, fun _ => False, .slice none 0 0, .slice none 0 0, ⟨heap_alloc_new w _, ⟨fun _ => ⟨none, 0, none, 0, none, 0⟩, World.ownsRow_nil _ _ _ _, fun k hk => by simp [Value.ownBlock] at hk, fun i hi => absurd hi (by simp)⟩, ⟨World.ownsRow_nil _ _ _ _, fun k hk => by simp [Value.ownBlock] at hk, fun p hp => by simp at hp⟩, fun h => h, fun h => h, fun _ h => h.elim⟩, fun k => by simp, fun k hk => ?_⟩
  subst hk
  rw [World.size_alloc]
  omega
/-- One that was sealed, by value. -/
def IBox (w : World) (b : Nat) (key : BitVec 64 × BitVec 64) (nn : Nn) (h : Option Addr) (nh hc : Nat) (d : Option Addr) (nd dc : Nat) (u : Option Addr) (uc : Nat) (t2 : Int) : Prop := w.heap[b]? = some (.cells #[.int .u64 (nv key.1), .int .u64 (nv key.2), .int .u32 (nv32 nn.1), .int .u32 (nv32 nn.2.1), .int .u64 (nv nn.2.2), .slice h nh hc, .slice d nd dc, .slice u nd uc, .int .u64 18446744073709551615, .int .u64 t2] 46 (0, 0))
theorem IBox.lt {w : World} {b : Nat} {key : BitVec 64 × BitVec 64} {nn : Nn} {h : Option Addr} {nh hc : Nat} {d : Option Addr} {nd dc : Nat} {u : Option Addr} {uc : Nat} {t2 : Int} (hx : IBox w b key nn h nh hc d nd dc u uc t2) : b < w.heap.size := by
  obtain ⟨hlt, _⟩ := Array.getElem?_eq_some_iff.1 hx
  exact hlt
theorem IBox.grown {w w' : World} {b : Nat} {key : BitVec 64 × BitVec 64} {nn : Nn} {h : Option Addr} {nh hc : Nat} {d : Option Addr} {nd dc : Nat} {u : Option Addr} {uc : Nat} {t2 : Int} (hx : IBox w b key nn h nh hc d nd dc u uc t2) (hb : Below w.heap.size w w') : IBox w' b key nn h nh hc d nd dc u uc t2 := (hb.block b hx.lt).trans hx
theorem IBox.c0 {w : World} {b : Nat} {key : BitVec 64 × BitVec 64} {nn : Nn} {h : Option Addr} {nh hc : Nat} {d : Option Addr} {nd dc : Nat} {u : Option Addr} {uc : Nat} {t2 : Int} (hx : IBox w b key nn h nh hc d nd dc u uc t2) : w.cell? ⟨b, 0, none⟩ = some (.int .u64 (nv key.1)) := by unfold IBox at hx; simp [World.cell?, hx]
theorem IBox.c1 {w : World} {b : Nat} {key : BitVec 64 × BitVec 64} {nn : Nn} {h : Option Addr} {nh hc : Nat} {d : Option Addr} {nd dc : Nat} {u : Option Addr} {uc : Nat} {t2 : Int} (hx : IBox w b key nn h nh hc d nd dc u uc t2) : w.cell? ⟨b, 1, none⟩ = some (.int .u64 (nv key.2)) := by unfold IBox at hx; simp [World.cell?, hx]
theorem IBox.c2 {w : World} {b : Nat} {key : BitVec 64 × BitVec 64} {nn : Nn} {h : Option Addr} {nh hc : Nat} {d : Option Addr} {nd dc : Nat} {u : Option Addr} {uc : Nat} {t2 : Int} (hx : IBox w b key nn h nh hc d nd dc u uc t2) : w.cell? ⟨b, 2, none⟩ = some (.int .u32 (nv32 nn.1)) := by unfold IBox at hx; simp [World.cell?, hx]
theorem IBox.c3 {w : World} {b : Nat} {key : BitVec 64 × BitVec 64} {nn : Nn} {h : Option Addr} {nh hc : Nat} {d : Option Addr} {nd dc : Nat} {u : Option Addr} {uc : Nat} {t2 : Int} (hx : IBox w b key nn h nh hc d nd dc u uc t2) : w.cell? ⟨b, 3, none⟩ = some (.int .u32 (nv32 nn.2.1)) := by unfold IBox at hx; simp [World.cell?, hx]
theorem IBox.c4 {w : World} {b : Nat} {key : BitVec 64 × BitVec 64} {nn : Nn} {h : Option Addr} {nh hc : Nat} {d : Option Addr} {nd dc : Nat} {u : Option Addr} {uc : Nat} {t2 : Int} (hx : IBox w b key nn h nh hc d nd dc u uc t2) : w.cell? ⟨b, 4, none⟩ = some (.int .u64 (nv nn.2.2)) := by unfold IBox at hx; simp [World.cell?, hx]
theorem IBox.c5 {w : World} {b : Nat} {key : BitVec 64 × BitVec 64} {nn : Nn} {h : Option Addr} {nh hc : Nat} {d : Option Addr} {nd dc : Nat} {u : Option Addr} {uc : Nat} {t2 : Int} (hx : IBox w b key nn h nh hc d nd dc u uc t2) : w.cell? ⟨b, 5, none⟩ = some (.slice h nh hc) := by unfold IBox at hx; simp [World.cell?, hx]
theorem IBox.c6 {w : World} {b : Nat} {key : BitVec 64 × BitVec 64} {nn : Nn} {h : Option Addr} {nh hc : Nat} {d : Option Addr} {nd dc : Nat} {u : Option Addr} {uc : Nat} {t2 : Int} (hx : IBox w b key nn h nh hc d nd dc u uc t2) : w.cell? ⟨b, 6, none⟩ = some (.slice d nd dc) := by unfold IBox at hx; simp [World.cell?, hx]
theorem IBox.c7 {w : World} {b : Nat} {key : BitVec 64 × BitVec 64} {nn : Nn} {h : Option Addr} {nh hc : Nat} {d : Option Addr} {nd dc : Nat} {u : Option Addr} {uc : Nat} {t2 : Int} (hx : IBox w b key nn h nh hc d nd dc u uc t2) : w.cell? ⟨b, 7, none⟩ = some (.slice u nd uc) := by unfold IBox at hx; simp [World.cell?, hx]
theorem IBox.c8 {w : World} {b : Nat} {key : BitVec 64 × BitVec 64} {nn : Nn} {h : Option Addr} {nh hc : Nat} {d : Option Addr} {nd dc : Nat} {u : Option Addr} {uc : Nat} {t2 : Int} (hx : IBox w b key nn h nh hc d nd dc u uc t2) : w.cell? ⟨b, 8, none⟩ = some (.int .u64 18446744073709551615) := by unfold IBox at hx; simp [World.cell?, hx]
theorem IBox.c9 {w : World} {b : Nat} {key : BitVec 64 × BitVec 64} {nn : Nn} {h : Option Addr} {nh hc : Nat} {d : Option Addr} {nd dc : Nat} {u : Option Addr} {uc : Nat} {t2 : Int} (hx : IBox w b key nn h nh hc d nd dc u uc t2) : w.cell? ⟨b, 9, none⟩ = some (.int .u64 t2) := by unfold IBox at hx; simp [World.cell?, hx]
def ZBox (w : World) (b : Nat) : Prop := w.heap[b]? = some (.cells #[.int .u64 0, .int .u64 0, .int .u32 0, .int .u32 0, .int .u64 0, .slice none 0 0, .slice none 0 0, .slice none 0 0, .int .u64 0, .int .u64 0] 46 (0, 0))
theorem ZBox.new (w : World) : ZBox (w.alloc (.cells #[.int .u64 0, .int .u64 0, .int .u32 0, .int .u32 0, .int .u64 0, .slice none 0 0, .slice none 0 0, .slice none 0 0, .int .u64 0, .int .u64 0] 46)) w.heap.size := heap_alloc_new w _
theorem ZBox.frozen {w : World} {b : Nat} (hx : ZBox w b) (i : Nat) : w.frozen? ⟨b, i, none⟩ = false := by unfold ZBox at hx; simp [World.frozen?, hx]
theorem ZBox.lt {w : World} {b : Nat} (hx : ZBox w b) : b < w.heap.size := by
  obtain ⟨hlt, _⟩ := Array.getElem?_eq_some_iff.1 hx
  exact hlt
theorem ZBox.put {w : World} {b : Nat} (hx : ZBox w b) (key : BitVec 64 × BitVec 64) (nn : Nn) (h : Option Addr) (nh hc : Nat) (d : Option Addr) (nd dc : Nat) (u : Option Addr) (uc : Nat) (t2 : Int) : IBox ((((((((((w.setCell ⟨b, 0, none⟩ (.int .u64 (nv key.1))).setCell ⟨b, 1, none⟩ (.int .u64 (nv key.2))).setCell ⟨b, 2, none⟩ (.int .u32 (nv32 nn.1))).setCell ⟨b, 3, none⟩ (.int .u32 (nv32 nn.2.1))).setCell ⟨b, 4, none⟩ (.int .u64 (nv nn.2.2))).setCell ⟨b, 5, none⟩ (.slice h nh hc)).setCell ⟨b, 6, none⟩ (.slice d nd dc)).setCell ⟨b, 7, none⟩ (.slice u nd uc)).setCell ⟨b, 8, none⟩ (.int .u64 18446744073709551615)).setCell ⟨b, 9, none⟩ (.int .u64 t2)) b key nn h nh hc d nd dc u uc t2 := by
  unfold ZBox at hx
  unfold IBox
  simp [World.setCell, Array.getElem?_modify, hx]
theorem ZBox.c0 {w : World} {b : Nat} (hx : ZBox w b) : w.cell? ⟨b, 0, none⟩ = some (.int .u64 0) := by unfold ZBox at hx; simp [World.cell?, hx]
theorem ZBox.c1 {w : World} {b : Nat} (hx : ZBox w b) : w.cell? ⟨b, 1, none⟩ = some (.int .u64 0) := by unfold ZBox at hx; simp [World.cell?, hx]
theorem ZBox.c2 {w : World} {b : Nat} (hx : ZBox w b) : w.cell? ⟨b, 2, none⟩ = some (.int .u32 0) := by unfold ZBox at hx; simp [World.cell?, hx]
theorem ZBox.c3 {w : World} {b : Nat} (hx : ZBox w b) : w.cell? ⟨b, 3, none⟩ = some (.int .u32 0) := by unfold ZBox at hx; simp [World.cell?, hx]
theorem ZBox.c4 {w : World} {b : Nat} (hx : ZBox w b) : w.cell? ⟨b, 4, none⟩ = some (.int .u64 0) := by unfold ZBox at hx; simp [World.cell?, hx]
theorem ZBox.c5 {w : World} {b : Nat} (hx : ZBox w b) : w.cell? ⟨b, 5, none⟩ = some (.slice none 0 0) := by unfold ZBox at hx; simp [World.cell?, hx]
theorem ZBox.c6 {w : World} {b : Nat} (hx : ZBox w b) : w.cell? ⟨b, 6, none⟩ = some (.slice none 0 0) := by unfold ZBox at hx; simp [World.cell?, hx]
theorem ZBox.c7 {w : World} {b : Nat} (hx : ZBox w b) : w.cell? ⟨b, 7, none⟩ = some (.slice none 0 0) := by unfold ZBox at hx; simp [World.cell?, hx]
theorem ZBox.c8 {w : World} {b : Nat} (hx : ZBox w b) : w.cell? ⟨b, 8, none⟩ = some (.int .u64 0) := by unfold ZBox at hx; simp [World.cell?, hx]
theorem ZBox.c9 {w : World} {b : Nat} (hx : ZBox w b) : w.cell? ⟨b, 9, none⟩ = some (.int .u64 0) := by unfold ZBox at hx; simp [World.cell?, hx]
def playSlot : Nat → Nat
  | 6 => 12
  | 7 => 13
  | _ => 0
def playA (B : Nat) : Nat → List Value → World → Prop
  | 6 => Sl 12 (fun v w => ∃ b, v = .pointer (some ⟨b, 0, none⟩) ∧ B ≤ b ∧ Box w b 0 0)
  | 7 => Sl 13 (fun v w => ∃ b, v = .pointer (some ⟨b, 0, none⟩) ∧ B ≤ b ∧ NBox w b (0#32, 0#32, 0#64))
  | _ => fun _ _ => True
theorem playA_stay (B : Nat) : ∀ i ∈ [6, 7], ∀ t w j v w', playA B i t w → j ∈ [6, 7] → j ≠ i → j ∉ ([] : List Nat) → Below w.heap.size w w' → playA B i (t.set (playSlot j) v) w' := by
  have hsl : ∀ i ∈ [6, 7], ∀ j ∈ [6, 7], j ≠ i → playSlot j ≠ playSlot i := by decide
  intro i hi t w j v w' h hj hne _ hb
  have hs0 := hsl i hi j hj hne
  simp only [List.mem_cons, List.not_mem_nil, or_false] at hi
  rcases hi with rfl | rfl
  · obtain ⟨u, h1, b, e, hB, hx⟩ := h
    exact ⟨u, (List.getElem?_set_ne hs0).trans h1, b, e, hB, hx.grown hb⟩
  · obtain ⟨u, h1, b, e, hB, hx⟩ := h
    exact ⟨u, (List.getElem?_set_ne hs0).trans h1, b, e, hB, hx.grown hb⟩
theorem NBox.put3' {w : World} {b : Nat} {n : Nn} (h : NBox w b n) (m : Nn) : NBox (((w.setCell ⟨b, 0, none⟩ (.int .u32 (nv32 m.1))).setCell ⟨b, 1, none⟩ (.int .u32 (nv32 m.2.1))).setCell ⟨b, 2, none⟩ (.int .u64 (nv m.2.2))) b m := by
  unfold NBox at h ⊢
  simp [World.setCell, Array.getElem?_modify, h]
/-- No more acts than are looked at. -/
def Short (L : List ActP) (m : Nat) : Prop := m < 80 ∧ ∀ i, i < m → (L.getD i default).head.length ≤ 100 ∧ (L.getD i default).data.length ≤ 100
set_option maxRecDepth 10000 in
set_option maxHeartbeats 2000000 in
theorem olong (L : List ActP) (x : Option Addr) (m c : Nat) (fx : Fit x m c) (w : World) (hl : ActsAt w x m L) : Calls Try.prog 9 #[.slice x m c] w fun e w' => (e = .returned (.bool true) ∨ (e = .returned (.bool false) ∧ Short L m)) ∧ Below w.heap.size w w' := by
  go_enter Try.func9, Try.ntmps9
  go_wp2_with fail
  go_loop [3] (fun i => ∃ k : Nat, k ≤ m ∧ k ≤ 80 ∧ i = .int .i64 (k : Int) ∧ Hid (∀ i, i < k → (L.getD i default).head.length ≤ 100 ∧ (L.getD i default).data.length ≤ 100)) (fun i => m - (intOf i).toNat)
  case atStart => exact ⟨0, Nat.zero_le _, by decide, rfl, fun i hi => absurd hi (by omega)⟩
  case round =>
    obtain ⟨k, hk, hk8, rfl, HK⟩ := hrel
    by_cases hlt : k < m
    · by_cases h80 : k < 80
      · obtain ⟨b, o, rfl, hbl, hrow⟩ := hl.2 (by omega)
        have HJ : Hid (∀ a, (L.getD k default).head.length ≤ a → (L.getD k default).head.length ≤ a) := fun _ h => h
        obtain ⟨h, hc, d, dc, hcell, _⟩ := hrow k hlt
        have c6 := hcell 6 _ rfl
        have c7 := hcell 7 _ rfl
        obtain ⟨p, HP⟩ : ∃ p, Hid ((L.getD k default).head.length = p) := ⟨_, rfl⟩
        obtain ⟨q, HQ⟩ : ∃ q, Hid ((L.getD k default).data.length = q) := ⟨_, rfl⟩
        rw [HP.out] at c6
        rw [HQ.out] at c7
        clear HJ hcell
        by_cases h1 : 100 < p
        · go_wp2
          go_ret
          exact ⟨Or.inl rfl, Below.refl _ _⟩
        · by_cases h2 : 100 < q
          · go_wp2
            go_ret
            exact ⟨Or.inl rfl, Below.refl _ _⟩
          · go_wp2
            go_round
            case rel =>
              refine ⟨k + 1, by omega, by omega, by go_num, fun i hi => ?_⟩
              by_cases e : i = k
              · subst e
                rw [HP.out, HQ.out]
                omega
              · exact HK.out i (by omega)
            case measure => simp [intOf]; omega
      · have h8 : (80 : Int) ≤ (m : Int) := by omega
        go_wp2
        go_ret
        exact ⟨Or.inl rfl, Below.refl _ _⟩
    · obtain rfl : k = m := by omega
      by_cases h80 : k < 80
      · have h8 : ¬ (80 : Int) ≤ (k : Int) := by omega
        go_wp2
        go_ret
        exact ⟨Or.inr ⟨rfl, h80, HK.out⟩, Below.refl _ _⟩
      · have h8 : (80 : Int) ≤ (k : Int) := by omega
        go_wp2
        go_ret
        exact ⟨Or.inl rfl, Below.refl _ _⟩
end Go.Proofs.Ytfgigbecmhmidaa
