/- The landed device: is it within; what waits lasts. -/
import Derived.Test.YtcpplfclpigmkaaSsdImA
namespace Go.Proofs.Ytcpplfclpigmkaa
open Go.RowKit
set_option maxRecDepth 20000

theorem TIn.mono' {G G' : Nat → Prop} {w : World} {x : Option Addr} {m : Nat} {L : List (Int × List Int)} (h : TIn G w x m L) (hd : ∀ b, G b → G' b) : TIn G' w x m L :=
  ⟨h.1, fun hm => by
    obtain ⟨b, o, e, hlt, hg, hr⟩ := h.2 hm
    refine ⟨b, o, e, hlt, hd b hg, fun i hi => ⟨(hr i hi).1, ?_⟩⟩
    obtain ⟨y, c, h1, h2, h3⟩ := (hr i hi).2
    exact ⟨y, c, h1, h2.mono (fun k _ hk => hd k hk), h3⟩⟩
theorem iwithin (b g n : Nat) (p : Option Addr) (vD : Value) (f off k : Nat) (hk : off + k ≤ n) (hn : n ≤ 65536) (w : World) (h : DvBox w b g n p vD f) :
    Calls Try.prog 20 #[.pointer (some ⟨b, 0, none⟩), .int .i64 (off : Int), .int .i64 (k : Int)] w fun e w' => e = .returned (.bool true) ∧ Clean w w' := by
  have c0 : w.cell? ⟨b, 0, none⟩ = some (.slice (some ⟨g, 0, none⟩) n n) := CBox.cell h 0
  have hw : IntKind.i64.wrap ((n : Int) - k) = (n : Int) - k := by
    rw [IntKind.wrap_i64]
    omega
  have h1 : (0 : Int) ≤ off := by omega
  have h2 : (0 : Int) ≤ k := by omega
  have h3 : (off : Int) ≤ (n : Int) - k := by omega
  clear h hk hn
  go_enter Try.func20, Try.ntmps20
  go_wp2
  go_ret
  exact ⟨rfl, Clean.refl _⟩
theorem iwithinNil (off k : Int) (w : World) :
    Calls Try.prog 20 #[.pointer none, .int .i64 off, .int .i64 k] w fun e w' => e = .returned (.bool false) ∧ Below w.heap.size w w' := by
  go_enter Try.func20, Try.ntmps20
  go_wp2
  go_ret
  exact ⟨rfl, Below.refl _ _⟩
theorem DvBox.put3 {w : World} {b g n : Nat} {p : Option Addr} {vD : Value} {f : Nat} (h : DvBox w b g n p vD f) (m : Nat) : DvBox (w.setCell ⟨b, 3, none⟩ (.int .i64 (m : Int))) b g n p vD m := by
  have := CBox.put h 3 (.int .i64 (m : Int))
  exact this
theorem inone (w : World) (b g n : Nat) (p : Option Addr) (y : Option Addr) (m c f : Nat) (h : DvBox w b g n p (.slice y m c) f) :
    Calls Try.prog 24 #[.pointer (some ⟨b, 0, none⟩)] w fun e w' => e = .returned (.tuple #[]) ∧ DvBox w' b g n p (.slice y m c) m ∧ Offs (fun k => k = b) w w' := by
  have c2 : w.cell? ⟨b, 2, none⟩ = some (.slice y m c) := CBox.cell h 2
  have c3 : w.cell? ⟨b, 3, none⟩ = some (.int .i64 (f : Int)) := CBox.cell h 3
  have f3 := CBox.frozen h 3
  have h2 : DvBox (w.setCell ⟨b, 3, none⟩ (.int .i64 (m : Int))) b g n p (.slice y m c) m := DvBox.put3 h m
  have o2 : Offs (fun k => k = b) w (w.setCell ⟨b, 3, none⟩ (.int .i64 (m : Int))) := Offs.setCell (F := fun k => k = b) (p := ⟨b, 3, none⟩) (Offs.refl _ w) (Or.inl rfl) _
  clear h
  go_enter Try.func24, Try.ntmps24
  go_wp2
  go_end0
  exact ⟨rfl, h2, o2⟩
set_option maxHeartbeats 1000000 in
theorem isettle (FB : Nat → Prop) (b g : Nat) (p : Option Addr) (vD : Value) (f : Nat) (st : SsdSt) (w : World) (h : DvAt FB w b g p vD f st) :
    Calls Try.prog 23 #[.pointer (some ⟨b, 0, none⟩)] w fun e w' => e = .returned (.tuple #[]) ∧ DvAt FB w' b g p vD st.T.length ⟨st.cur, [], st.T⟩ ∧ Offs (fun k => k = b ∨ k = g) w w' := by
  have hlt : ∀ k, k = b ∨ k = g → k < w.heap.size := fun k hk => h.olt k (hk.elim Or.inl (fun e => Or.inr (Or.inl e)))
  go_enter Try.func23, Try.ntmps23
  go_wp2_with fail
  refine startX (S := fun w' => Below w.heap.size w w') 6 (by kernel_rfl) (Below.refl _ _).drew (fun hHeld => ?_)
  refine moveY 0 2 0 rfl rfl rfl (by kernel_rfl) (by kernel_rfl) (by kernel_rfl) (fun _ _ _ h => h) (by rfl) (by kernel_rfl) (by kernel_rfl) (by decide) hHeld rfl ?_
  simp only [List.set_cons_succ, List.set_cons_zero]
  refine takeY 1 3 (v := ?_) rfl rfl (by kernel_rfl) (by kernel_rfl) (by kernel_rfl) (fun _ _ _ h => h) (by rfl) (by kernel_rfl) (by kernel_rfl) (by decide) hHeld (fun w hSw => ?_) ?_
  rotate_left 1
  · (try dsimp only at hSw)
    clear hSw
    go_simp
    try with_reducible rfl
  simp only [List.set_cons_succ, List.set_cons_zero]
  refine takeY 2 4 (v := ?_) rfl rfl (by kernel_rfl) (by kernel_rfl) (by kernel_rfl) (fun _ _ _ h => h) (by rfl) (by kernel_rfl) (by kernel_rfl) (by decide) hHeld (fun w hSw => ?_) ?_
  rotate_left 1
  · (try dsimp only at hSw)
    clear hSw
    go_simp
    try with_reducible rfl
  simp only [List.set_cons_succ, List.set_cons_zero]
  refine takeY 3 5 (v := ?_) rfl rfl (by kernel_rfl) (by kernel_rfl) (by kernel_rfl) (fun _ _ _ h => h) (by rfl) (by kernel_rfl) (by kernel_rfl) (by decide) hHeld (fun w hSw => ?_) ?_
  rotate_left 1
  · (try dsimp only at hSw)
    have e0_ := (CBox.cell (CBox.grown h.box hSw) 0)
    clear hSw
    go_simp
    try with_reducible rfl
  simp only [List.set_cons_succ, List.set_cons_zero]
  refine moveY 4 6 0 rfl rfl rfl (by kernel_rfl) (by kernel_rfl) (by kernel_rfl) (fun _ _ _ h => h) (by rfl) (by kernel_rfl) (by kernel_rfl) (by decide) hHeld rfl ?_
  simp only [List.set_cons_succ, List.set_cons_zero]
  refine onlyX 5 rfl (by kernel_rfl) (by rfl) (fun K hK => ?_)
  go_wp2_with fail
  refine (iwait FB b g p vD f st _ (h.below (Below.refl _ w).drew)).mono ?_
  rintro e w1 ⟨z, cz, rfl, fz, ht, hb1⟩
  have hb := ((Clean.refl w).drew.trans hb1).b
  have hs1 := ((Clean.refl w).drew.trans hb1).f
  refine hK.out _ _ (fun _ => hb) (fun _ => ?_)
  clear hK K hHeld hb1
  refine onlyX 6 rfl (by kernel_rfl) (by rfl) (fun K hK => ?_)
  go_wp2_with fail
  have h1 := h.below hb
  refine (ilay g st.B.length st.B.length st.B [] z st.Wt.length cz st.Wt rfl (Nat.le_refl _) (by have := fz.1; have := fz.2.1; omega) h.wf w1 h1.row (ht.mono' (fun k hk e => ?_))).mono ?_
  · subst e
    exact hk.elim (fun hk => (h.own k hk).2.1 rfl) h.ng
  rintro e w2 ⟨rfl, hr, ho⟩
  refine hK.out _ _ (fun h => absurd rfl h) (fun _ => ?_)
  clear hK K ht
  refine doneX (by kernel_rfl) ?_ _
  obtain ⟨y, c, hvD, -⟩ : ∃ y c, vD = .slice y st.T.length c ∧ Fit y st.T.length c := h.ops.is
  have hx2 : DvBox w2 b g st.B.length p (.slice y st.T.length c) f := hvD ▸ CBox.off h1.box ho.o h.bg
  go_wp2_with fail
  refine (inone w2 b g st.B.length p y st.T.length c f hx2).mono ?_
  rintro e w3 ⟨rfl, hx3, ho3⟩
  go_wp2
  go_end0
  have hl1 : g < w1.heap.size := h1.row.lt
  have hO : Offs (fun k => k = b ∨ k = g) w w3 := by
    have h01 : Offs (fun k => k = b ∨ k = g) w w1 := ⟨Off.of_below hb, hs1⟩
    refine (h01.trans (ho.mono (G := fun k => k = b ∨ k = g) (fun _ h => Or.inr h)) (fun _ h => h) hlt).trans (ho3.mono (G := fun k => k = b ∨ k = g) (fun _ h => Or.inl h)) (fun _ h => h) hlt
  have hwl := layW_len st.Wt st.B h.wf
  refine ⟨rfl, ⟨?_, ?_, ?_, ?_, ?_, ?_, ?_, h.bg, h.nb, h.ng, h.own, fun k hk => Nat.lt_of_lt_of_le (h.lt k hk) hO.o.size, h.ob⟩, hO⟩
  · show DvBox w3 b g (layW st.B st.Wt).length p vD _
    rw [hwl, hvD]
    exact hx3
  · exact hr.off ho3.o (fun e => h.bg e.symm)
  · exact h.ops.off hO.o (fun k hk e => e.elim (h.own k hk).1 (h.own k hk).2.1) (fun k _ hk e => e.elim (fun e => h.nb (e ▸ hk)) (fun e => h.ng (e ▸ hk)))
  · show (layW st.B st.Wt).length ≤ _
    rw [hwl]
    exact h.len
  · exact layW_bytes _ _ h.byt (fun o ho => h.ops.bytes ((o.1 : Int), o.2) (by
      obtain ⟨T0, hT, -⟩ := h.tl
      rw [hT]
      exact List.mem_append_right _ (List.mem_map.2 ⟨o, ho, rfl⟩)))
  · exact ⟨st.T, by simp [wOps], rfl⟩
  · intro o ho
    cases ho
end Go.Proofs.Ytcpplfclpigmkaa
