/- m[k]++ on a map with numbers as elements, as the model does it: the entry, then the store into it. Keys that are structs. -/
import Derived.Test.YtkkehbebaokdmaaOImM
import Derived.WideKeyEntry
namespace Go.Proofs.Ytkkehbebaokdmaa
open Go.RowKit Go.Maps Go.WideElems Go.ChangeMaps Go.MapKept
set_option maxRecDepth 20000
open Go.WideMaps (KeyLaw)

theorem entry_own {P : Program} {k e t : TypeId} {q : IntKind} {w : World} {b n : Nat} {D : DataW Unit} (h : w.ownsMap P k (plainElem P e) b n D) (K : KeyLaw P k) (ht : P.underlying t = some (.map k e)) (he : P.underlying e = some (.int q)) (hz : ∀ u : World, (zeroValue e).run P u = .ok (.int q 0) u) (hn : n < maxLen)
    {key : Value} {kl : Lit} (hkey : keyOf P k key = some kl) :
    ∃ (v0 : Value) (st : Nat) (w1 : World), (Instr.mapEntry t (.map (some b)) key).run P w = .ok (.tuple #[v0, goInt st]) w1 ∧ (∃ D1 : DataW Unit, w1.ownsMap P k (plainElem P e) b (n + 1) D1 ∧ D1.atKey kl (.lit (.int q 0)) = D.atKey kl (.lit (.int q 0))) ∧ w.grownBy w1 (some b) ∧
      ∀ (x : Int), (Lit.int q x).wf = true → ∃ w2, (Instr.entryStore t (.map (some b)) (goInt st) (.int q x)).run P w1 = .ok () w2 ∧ w2.ownsMap P k (plainElem P e) b (n + 1) (D.put kl (.lit (.int q x))) ∧ w.grownBy w2 (some b) := by
  have hu := fun (x : Int) (hx : (Lit.int q x).wf = true) => h.update (val := .int q x) (Keyed.of_law K) ht hn hkey (plainElem_int he hx)
  have h0 := h
  obtain ⟨es, clock, hb, F, hs, rfl⟩ := h
  obtain ⟨v0, st, es1, clock1, hrun, _, hstore⟩ := entry_then_store K ht hz hb F hkey
  have hg1 : w.grownBy (setBlock w b (.map es1 clock1)) (some b) := ⟨rfl, rfl, rfl, by simp [setBlock], fun i _ hi => heap_setBlock_other hb _ (fun e => hi (by rw [e]))⟩
  refine ⟨v0, st, _, hrun, ?_, hg1, fun x hx => ?_⟩
  · rcases K.find w hkey es.toList F.keys with ⟨h1, h2⟩ | ⟨j, e0, h1, h2, h3⟩
    · have hr : (Instr.mapEntry t (.map (some b)) key).run P w = .ok (.tuple #[.int q 0, goInt clock]) (setBlock w b (.map (es.push ⟨key, .int q 0, clock⟩) (clock + 1))) := by
        simp [Instr.mapEntry, run_underlying ht, MapKept.run_getObj_map hb, K.check w false hkey, h1, hz, MapKept.run_setObj_map _ hb, Result.andThen, setBlock]
      have hw0 : (Lit.int q 0).wf = true := by cases q <;> decide
      obtain ⟨w', hr2, ho, _⟩ := hu 0 hw0
      have hr3 : (Instr.mapUpdate t (.map (some b)) key (.int q 0)).run P w = .ok () (setBlock w b (.map (es.push ⟨key, .int q 0, clock⟩) (clock + 1))) := by
        simp [Instr.mapUpdate, run_underlying ht, MapKept.run_getObj_map hb, K.check w false hkey, h1, MapKept.run_setObj_map _ hb, Result.andThen, setBlock]
      rw [hr] at hrun
      rw [hr3] at hr2
      have e1 : setBlock w b (.map (es.push ⟨key, .int q 0, clock⟩) (clock + 1)) = setBlock w b (.map es1 clock1) := by injection hrun
      have e2 : setBlock w b (.map (es.push ⟨key, .int q 0, clock⟩) (clock + 1)) = w' := by injection hr2
      rw [← e1]
      rw [← e2] at ho
      refine ⟨_, ho, ?_⟩
      have hnot : (DataW.map ((es.toList.map (rg P k (plainElem (H := Unit) P e))).foldr DataW.insert [])).atKey kl (.lit (.int q 0)) = .lit (.int q 0) := by
        rcases Maps.fit_look false (Keyed.of_law K) ht (hz w) hb F hkey with ⟨_, _, hat⟩ | ⟨e0, y, hm, hk0, _⟩
        · exact hat _
        · exact absurd hk0 (h2 e0 hm)
      rw [atKey_put_same h0.isMap ((Keyed.of_law K).key hkey), hnot]
    · have hj : es[j]? = some e0 := by simpa using h2
      have hsame : es.modify j (fun e => { e with key := key }) = es := by
        refine Array.ext (by simp) (fun i h4 h5 => ?_)
        rw [Array.getElem_modify]
        split
        · rename_i e
          subst e
          have h6 : es[j] = e0 := by
            rw [Array.getElem?_eq_getElem h5] at hj
            exact Option.some.inj hj
          rw [h6, ← h3]
        · rfl
      have hr : (Instr.mapEntry t (.map (some b)) key).run P w = .ok (.tuple #[e0.val, goInt e0.born]) (setBlock w b (.map es clock)) := by
        simp [Instr.mapEntry, run_underlying ht, MapKept.run_getObj_map hb, K.check w false hkey, h1, hj, h3, K.stays w hkey, hsame, MapKept.run_setObj_map _ hb, Result.andThen, setBlock]
      rw [hr] at hrun
      have e1 : setBlock w b (.map es clock) = setBlock w b (.map es1 clock1) := by injection hrun
      rw [← e1]
      exact ⟨_, ⟨es, clock, heap_setBlock_same hb _, F, by omega, rfl⟩, rfl⟩
  · obtain ⟨es', clock', hs1, hs2⟩ := hstore (setBlock w b (.map es1 clock1)) (.int q x) (heap_setBlock_same hb _)
    obtain ⟨w', hr2, ho, hg⟩ := hu x hx
    rw [hs2] at hr2
    have e2 : setBlock w b (.map es' clock') = w' := by injection hr2
    have e3 : setBlock (setBlock w b (.map es1 clock1)) b (.map es' clock') = setBlock w b (.map es' clock') := by simp [setBlock]
    rw [e3, e2] at hs1
    exact ⟨w', hs1, ho, hg⟩
end Go.Proofs.Ytkkehbebaokdmaa
