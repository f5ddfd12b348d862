/- Laws that the walk of lockboxref7's Seal takes: an empty slice literal, a copy of bytes by append. -/
import Derived.Test.YtkkehbebaokdmaaOrc
import Derived.Test.YtkkehbebaokdmaaRegionG
import Derived.Test.YtkkehbebaokdmaaBoxN
import Derived.Test.YtkkehbebaokdmaaBRef1
import Derived.Test.YtkkehbebaokdmaaRefOSame
namespace Go.Proofs.Ytkkehbebaokdmaa
open Go.RowKit
set_option maxRecDepth 20000

theorem Try.issInfo : (Try.prog.info? 65).map (fun i => (i.zero, i.size, i.bytes)) = some (some (.agg #[.int .u64 0, .int .u64 0, .int .u32 0, .int .u32 0, .int .u64 0, .slice none 0 0, .slice none 0 0, .slice none 0 0, .int .u64 0, .int .u64 0]), 10, 120) := by kernel_rfl
/-- append of bytes to an empty slice literal: new memory, all else stays. -/
theorem wp_app0B {o : Oper} {a : Act} {w : World} {K : Act → World → Prop} {Q : Exit → Act → World → Prop} (s x : Operand)
    (ho : o.op = .call { callee := .builtin .append, args := #[s, x], argTypes := #[27, 27] }) (base g : Nat) (hs : a.eval s = .slice (some ⟨g, 0, none⟩) 0 0) (hown : w.ownsRow base 5 1 (.slice (some ⟨g, 0, none⟩) 0 0) 0 [])
    (y : Option Addr) (m c : Nat) (xs : List Int) (hx : a.eval x = .slice y m c) (hrow : SAt w y m xs) (hb : m ≤ 100000) (hbase : base ≤ w.heap.size)
    (h : ∀ k c' w', w'.ownsRow base 5 1 (.slice (some ⟨k, 0, none⟩) m c') m (xs.map (Value.int .u8)) → Below w.heap.size w w' → (m ≠ 0 → w.heap.size ≤ k) → K (a.put o.dst (.slice (some ⟨k, 0, none⟩) m c')) w') : o.wp Try.prog a w K Q := by
  obtain ⟨i0, hi, hz0, hz1, hz2⟩ := info_parts Try.info5
  by_cases hm : m = 0
  · subst hm
    obtain rfl : xs = [] := List.eq_nil_of_length_eq_zero hrow.1
    have hr : (Builtin.append_ #[27, 27] o.type #[.slice (some ⟨g, 0, none⟩) 0 0, .slice y 0 c]).run Try.prog w = .ok (.slice (some ⟨g, 0, none⟩) 0 0) w := by
      cases y with
      | none => simp [Builtin.append_, run_underlying Try.underlying27, sizeOf, typeInfo, hi, Builtin.lenOf, Builtin.firstCells, storeCells]
      | some ad =>
        have hf := run_firstCells_some (P := Try.prog) w i0.size 0 ad 0 c [] (by simp) (fun j u hj => by simp at hj)
        simp [Builtin.append_, run_underlying Try.underlying27, sizeOf, typeInfo, hi, Builtin.lenOf, hf, storeCells]
    unfold Oper.wp execOp
    simp only [ho, resolve, invoke, builtin, Sem.run_bind, Sem.run_pure, Result.andThen_ok, List.map_toArray, List.map_cons, List.map_nil, hs, hx, hr]
    exact h g 0 w hown (Below.refl _ _) (fun h => absurd rfl h)
  · obtain ⟨b, off, rfl, _, hc⟩ := hrow.2 (by omega)
    have hl : (xs.map (Value.int .u8)).length = m := by rw [List.length_map]; exact hrow.1
    have hr := run_append_grow (P := Try.prog) w 27 o.type 5 i0 _ Try.underlying27 hi hz0 ⟨g, 0, none⟩ 0 0 [] (by simp) (fun j u hj => by simp at hj) ⟨b, off, none⟩ m c (xs.map (Value.int .u8)) (by rw [hz1, hl, Nat.mul_one]) hc.news (by omega) (by omega)
      (by rw [hz2]; exact growslice_fits (by omega) (by omega))
    simp only [Nat.zero_add] at hr
    have hge := grownCap_ge w m 0 5
    unfold Oper.wp execOp
    simp only [ho, resolve, invoke, builtin, Sem.run_bind, Sem.run_pure, Result.andThen_ok, List.map_toArray, List.map_cons, List.map_nil, hs, hx, hr]
    refine h w.heap.size _ _ ⟨by rw [hl, Nat.mul_one], .inr ⟨w.heap.size, _, _, rfl, hbase, heap_alloc_new w.drew _, hge, grownCap_le_maxLen w m 0 5 (by unfold maxLen; omega), ?_, ?_⟩⟩ (((Below.refl w.heap.size w).drew).alloc (Nat.le_refl _) _) (fun _ => Nat.le_refl _)
    · simp [size_zeroCells, hl, Value.cells]
      omega
    · rw [Nat.mul_one, ← hl]
      simp
/-- A slice literal of no bytes. -/
theorem wp_lit0 {o : Oper} {a : Act} {w : World} {K : Act → World → Prop} {Q : Exit → Act → World → Prop} (ho : o.op = .buildSlice 27 0 #[])
    (h : K (a.put o.dst (.slice (some ⟨w.heap.size, 0, none⟩) 0 0)) (w.alloc (.cells #[] 5))) : o.wp Try.prog a w K Q := by
  unfold Oper.wp execOp
  simp only [ho]
  go_simp
  exact h
theorem put_slot {o : Oper} {t : List Value} {d : List Deferred} {k : Nat} (hd : o.dst = some k) (v : Value) : Act.put ⟨t.toArray, d⟩ o.dst v = ⟨(t.set k v).toArray, d⟩ := by simp [hd, Act.put]
theorem wp_lit0L {o : Oper} {t : List Value} {d : List Deferred} {w : World} {K : Act → World → Prop} {Q : Exit → Act → World → Prop} {k : Nat} (hd : o.dst = some k) (ho : o.op = .buildSlice 27 0 #[])
    (h : K ⟨(t.set k (.slice (some ⟨w.heap.size, 0, none⟩) 0 0)).toArray, d⟩ (w.alloc (.cells #[] 5))) : o.wp Try.prog ⟨t.toArray, d⟩ w K Q :=
  wp_lit0 ho (by rw [put_slot hd]; exact h)
theorem below_drew {w w' : World} (h : Below w.drew.heap.size w.drew w') : Below w.heap.size w w' := (Below.refl w.heap.size w).drew.trans h
end Go.Proofs.Ytkkehbebaokdmaa
