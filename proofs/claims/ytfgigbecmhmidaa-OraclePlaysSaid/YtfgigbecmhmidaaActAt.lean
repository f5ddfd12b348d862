/- What is asked of an ideal sealer, step by step, in memory. -/
import Derived.Test.YtfgigbecmhmidaaOrcSaid
namespace Go.Proofs.Ytfgigbecmhmidaa
open Go.RowKit

structure ActP where
  kind : Int
  key : BitVec 64 × BitVec 64
  non : Nn
  head : List Int
  data : List Int
  num : Int
  by_ : BitVec 64
instance : Inhabited ActP := ⟨⟨0, (0#64, 0#64), (0#32, 0#32, 0#64), [], [], 0, 0#64⟩⟩
/-- A step, cell by cell. -/
def actC (a : ActP) (h : Option Addr) (hc : Nat) (d : Option Addr) (dc : Nat) : List Value := [.int .i64 a.kind, .int .u64 (nv a.key.1), .int .u64 (nv a.key.2), .int .u32 (nv32 a.non.1), .int .u32 (nv32 a.non.2.1), .int .u64 (nv a.non.2.2), .slice h a.head.length hc, .slice d a.data.length dc, .int .i64 a.num, .int .u64 (nv a.by_)]
/-- A step whose cells begin here. -/
def ActIn (w : World) (b o : Nat) (a : ActP) : Prop := ∃ h hc d dc, (∀ j u, (actC a h hc d dc)[j]? = some u → w.cell? ⟨b, o + j, none⟩ = some u) ∧ Bytes a.head ∧ Bytes a.data ∧ SAt w h a.head.length a.head ∧ SAt w d a.data.length a.data ∧ Fit h a.head.length hc ∧ Fit d a.data.length dc
/-- A slice of m steps. -/
def ActsAt (w : World) (x : Option Addr) (m : Nat) (L : List ActP) : Prop := L.length = m ∧ (0 < m → ∃ b o, x = some ⟨b, o, none⟩ ∧ b < w.heap.size ∧ ∀ i, i < m → ActIn w b (o + i * 10) (L.getD i default))
theorem ActIn.below {w w' : World} {b o : Nat} {a : ActP} (h : ActIn w b o a) (hlt : b < w.heap.size) (hb : Below w.heap.size w w') : ActIn w' b o a := by
  obtain ⟨h, hc, d, dc, h1, h2, h3, h4, h5, h6⟩ := h
  exact ⟨h, hc, d, dc, fun j u hj => (hb.cell (p := ⟨b, o + j, none⟩) hlt).trans (h1 j u hj), h2, h3, h4.below hb, h5.below hb, h6⟩
end Go.Proofs.Ytfgigbecmhmidaa
