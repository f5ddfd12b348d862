/- The document's Power. -/
import Derived.Test.YtcfbdbjonmjplaaPowSaid
namespace Go.Proofs.Ytcfbdbjonmjplaa
open Go.RowKit
set_option maxRecDepth 20000

/-- What its left field has: its fuse's steps, where it has one. -/
def LeftIs : Option Nat → Bool → Int → Prop
  | none, f, _ => f = false
  | some k, f, l => f = true ∧ l = k ∧ k ≤ 9223372036854775807
def RPBox (w : World) (b : Nat) (st : PSt) : Prop := ∃ (f : Bool) (l : Int), CBox 28 w b #[.bool (!st.1), .bool f, .int .i64 l, .int .i64 (st.2.2 : Int)] ∧ Hid (LeftIs st.2.1 f l)
def RPInv (F : Nat → Prop) (w : World) (v : Value) (st : PSt) : Prop := ∃ b, v = .pointer (some ⟨b, 0, none⟩) ∧ RPBox w b st ∧ ∀ k, F k ↔ k = b
theorem rpbase : ObjBase RPInv := by
  refine ⟨?_, ?_, ?_⟩
  · rintro F w w' v _ ⟨b, rfl, ⟨f, l, h, hl⟩, hF⟩ _ hb
    exact ⟨b, rfl, ⟨f, l, (hb b ((hF b).2 rfl)).trans h, hl⟩, hF⟩
  · rintro F w v _ ⟨b, rfl, ⟨f, l, h, _⟩, hF⟩ k hk
    rw [(hF k).1 hk]
    exact CBox.lt h
  · rintro F w v _ ⟨b, rfl, _, _⟩
    exact ⟨_, rfl⟩
theorem rput {w w' : World} {b : Nat} {st' : PSt} {F : Nat → Prop} (hF : ∀ k, F k ↔ k = b) (h : RPBox w' b st') (ho : Off (fun k => k = b) w w') : KeptG RPInv F w (.pointer (some ⟨b, 0, none⟩)) F w' st' :=
  ⟨⟨b, rfl, h, hF⟩, fun _ h => Or.inl h, ho.mono (fun i hi => Or.inl ((hF i).2 hi))⟩
theorem rfuse (F : Nat → Prop) (v : Value) (st : PSt) (n : Int) (hn : n ≤ 9223372036854775807) (w : World) (hI : RPInv F w v st) : Calls Try.prog 15 #[v, .int .i64 n] w fun e w' => ∃ F', e = .returned (.tuple #[]) ∧ KeptG RPInv F w v F' w' (pFuse st n) := by
  obtain ⟨b, rfl, ⟨f, l, h, hl⟩, hF⟩ := hI
  obtain ⟨g, hg⟩ : ∃ g : Bool, g = decide (0 ≤ n) := ⟨_, rfl⟩
  have hlf : Hid (LeftIs (pFuse st n).2.1 g n) := by
    apply hide'
    subst hg
    unfold pFuse
    by_cases h0 : n < 0
    · have h1 : ¬ 0 ≤ n := by omega
      simp [h0, h1, LeftIs]
    · have h1 : 0 ≤ n := by omega
      simp only [if_neg h0, LeftIs]
      exact ⟨by simp [h1], by omega, by omega⟩
  clear hn hl
  have c1 : w.cell? ⟨b, 1, none⟩ = some (.bool f) := CBox.cell h 1
  have f1 := CBox.frozen h 1
  have h1 : CBox 28 (w.setCell ⟨b, 1, none⟩ (.bool g)) b _ := CBox.put h 1 (.bool g)
  have c2 : (w.setCell ⟨b, 1, none⟩ (.bool g)).cell? ⟨b, 2, none⟩ = some (.int .i64 l) := CBox.cell h1 2
  have f2 := CBox.frozen h1 2
  have h2 : CBox 28 ((w.setCell ⟨b, 1, none⟩ (.bool g)).setCell ⟨b, 2, none⟩ (.int .i64 n)) b #[.bool (!st.1), .bool g, .int .i64 n, .int .i64 (st.2.2 : Int)] := CBox.put h1 2 (.int .i64 n)
  have o2 : Off (fun k => k = b) w ((w.setCell ⟨b, 1, none⟩ (.bool g)).setCell ⟨b, 2, none⟩ (.int .i64 n)) := Off.setCell (F := fun k => k = b) (p := ⟨b, 2, none⟩) (Off.setCell (F := fun k => k = b) (p := ⟨b, 1, none⟩) (Off.refl _ w) (Or.inl rfl) _) (Or.inl rfl) _
  have hF' := hide' hF
  clear hF h h1
  by_cases h0 : 0 ≤ n
  · simp only [h0, decide_true] at hg
    subst hg
    go_enter Try.func15, Try.ntmps15
    go_wp2
    go_end0
    first | exact ⟨rfl, F, rput hF'.out ⟨_, _, h2, hlf⟩ o2⟩ | exact ⟨F, rfl, rput hF'.out ⟨_, _, h2, hlf⟩ o2⟩
  · simp only [h0, decide_false] at hg
    subst hg
    go_enter Try.func15, Try.ntmps15
    go_wp2
    go_end0
    first | exact ⟨rfl, F, rput hF'.out ⟨_, _, h2, hlf⟩ o2⟩ | exact ⟨F, rfl, rput hF'.out ⟨_, _, h2, hlf⟩ o2⟩
theorem rback (F : Nat → Prop) (v : Value) (st : PSt) (w : World) (hI : RPInv F w v st) : Calls Try.prog 17 #[v] w fun e w' => ∃ F', e = .returned (.tuple #[]) ∧ KeptG RPInv F w v F' w' (pBack st) := by
  obtain ⟨b, rfl, ⟨f, l, h, hl⟩, hF⟩ := hI
  have c0 : w.cell? ⟨b, 0, none⟩ = some (.bool (!st.1)) := CBox.cell h 0
  have f0 := CBox.frozen h 0
  have h1 : CBox 28 (w.setCell ⟨b, 0, none⟩ (.bool false)) b _ := CBox.put h 0 (.bool false)
  have c1 : (w.setCell ⟨b, 0, none⟩ (.bool false)).cell? ⟨b, 1, none⟩ = some (.bool f) := CBox.cell h1 1
  have f1 := CBox.frozen h1 1
  have h2 : CBox 28 ((w.setCell ⟨b, 0, none⟩ (.bool false)).setCell ⟨b, 1, none⟩ (.bool false)) b #[.bool false, .bool false, .int .i64 l, .int .i64 (st.2.2 : Int)] := CBox.put h1 1 (.bool false)
  have o2 : Off (fun k => k = b) w ((w.setCell ⟨b, 0, none⟩ (.bool false)).setCell ⟨b, 1, none⟩ (.bool false)) := Off.setCell (F := fun k => k = b) (p := ⟨b, 1, none⟩) (Off.setCell (F := fun k => k = b) (p := ⟨b, 0, none⟩) (Off.refl _ w) (Or.inl rfl) _) (Or.inl rfl) _
  have hF' := hide' hF
  clear hF h h1 hl
  go_enter Try.func17, Try.ntmps17
  go_wp2
  go_end0
  first | exact ⟨rfl, F, rput hF'.out ⟨_, _, h2, hide' rfl⟩ o2⟩ | exact ⟨F, rfl, rput hF'.out ⟨_, _, h2, hide' rfl⟩ o2⟩
theorem left_less {k : Nat} {l : Int} (h : Hid (LeftIs (some (k + 1)) true l)) : ¬ l = 0 ∧ ∃ l', IntKind.i64.wrap (l - 1) = l' ∧ Hid (LeftIs (some k) true l') := by
  obtain ⟨_, rfl, hk⟩ := h.out
  refine ⟨by omega, (k : Int), ?_, hide' ⟨rfl, rfl, by omega⟩⟩
  rw [IntKind.wrap_i64]
  omega
set_option maxHeartbeats 1000000 in
theorem rspend (F : Nat → Prop) (v : Value) (st : PSt) (hn : st.2.2 ≤ 1000000) (w : World) (hI : RPInv F w v st) : Calls Try.prog 28 #[v] w fun e w' => ∃ F', e = .returned (.bool (pSpend st).1) ∧ KeptG RPInv F w v F' w' (pSpend st).2 := by
  obtain ⟨b, rfl, ⟨f, l, h, hl⟩, hF⟩ := hI
  obtain ⟨o, fu, n⟩ := st
  have hw1 : IntKind.i64.wrap ((n : Int) + 1) = ((n + 1 : Nat) : Int) := by
    rw [IntKind.wrap_i64]
    have : n ≤ 1000000 := hn
    omega
  clear hn
  have hF' := hide' hF
  clear hF
  have f0 := CBox.frozen h 0
  cases o
  · rw [pSpend_gone]
    have c0 : w.cell? ⟨b, 0, none⟩ = some (.bool true) := CBox.cell h 0
    go_enter Try.func28, Try.ntmps28
    go_wp2
    go_ret
    first | exact ⟨rfl, F, rput hF'.out ⟨_, _, h, hl⟩ (Off.refl _ _)⟩ | exact ⟨F, rfl, rput hF'.out ⟨_, _, h, hl⟩ (Off.refl _ _)⟩
  · have c0 : w.cell? ⟨b, 0, none⟩ = some (.bool false) := CBox.cell h 0
    have c1 : w.cell? ⟨b, 1, none⟩ = some (.bool f) := CBox.cell h 1
    have c2 : w.cell? ⟨b, 2, none⟩ = some (.int .i64 l) := CBox.cell h 2
    have f2 := CBox.frozen h 2
    -- the step that is done
    have step : ∀ l' : Int, CBox 28 ((w.setCell ⟨b, 2, none⟩ (.int .i64 l')).setCell ⟨b, 3, none⟩ (.int .i64 ((n + 1 : Nat) : Int))) b #[.bool false, .bool f, .int .i64 l', .int .i64 ((n + 1 : Nat) : Int)] ∧
        Off (fun k => k = b) w ((w.setCell ⟨b, 2, none⟩ (.int .i64 l')).setCell ⟨b, 3, none⟩ (.int .i64 ((n + 1 : Nat) : Int))) ∧
        (w.setCell ⟨b, 2, none⟩ (.int .i64 l')).cell? ⟨b, 3, none⟩ = some (.int .i64 (n : Int)) ∧ (w.setCell ⟨b, 2, none⟩ (.int .i64 l')).frozen? ⟨b, 3, none⟩ = false := by
      intro l'
      have h1 : CBox 28 (w.setCell ⟨b, 2, none⟩ (.int .i64 l')) b _ := CBox.put h 2 (.int .i64 l')
      exact ⟨CBox.put h1 3 (.int .i64 ((n + 1 : Nat) : Int)), Off.setCell (F := fun k => k = b) (p := ⟨b, 3, none⟩) (Off.setCell (F := fun k => k = b) (p := ⟨b, 2, none⟩) (Off.refl _ w) (Or.inl rfl) _) (Or.inl rfl) _, CBox.cell h1 3, CBox.frozen h1 3⟩
    rcases fu with _ | _ | k
    · rw [pSpend_free]
      obtain rfl : f = false := hl.out
      obtain ⟨l', hl'⟩ : ∃ l', IntKind.i64.wrap (l - 1) = l' := ⟨_, rfl⟩
      obtain ⟨h2, o2, d3, f3⟩ := step l'
      clear step h hl
      go_enter Try.func28, Try.ntmps28
      go_wp2
      go_ret
      first | exact ⟨rfl, F, rput hF'.out ⟨_, _, h2, hide' rfl⟩ o2⟩ | exact ⟨F, rfl, rput hF'.out ⟨_, _, h2, hide' rfl⟩ o2⟩
    · rw [pSpend_end]
      obtain ⟨rfl, rfl, _⟩ := hl.out
      clear step
      have h2 : CBox 28 (w.setCell ⟨b, 0, none⟩ (.bool true)) b #[.bool true, .bool true, .int .i64 0, .int .i64 (n : Int)] := CBox.put h 0 (.bool true)
      have o2 : Off (fun k => k = b) w (w.setCell ⟨b, 0, none⟩ (.bool true)) := Off.setCell (F := fun k => k = b) (p := ⟨b, 0, none⟩) (Off.refl _ w) (Or.inl rfl) _
      clear h
      go_enter Try.func28, Try.ntmps28
      go_wp2
      go_ret
      first | exact ⟨rfl, F, rput hF'.out ⟨_, _, h2, hl⟩ o2⟩ | exact ⟨F, rfl, rput hF'.out ⟨_, _, h2, hl⟩ o2⟩
    · rw [pSpend_some]
      have hf1 := hl.out.1
      subst hf1
      obtain ⟨hl0, l', hl', hlk⟩ := left_less hl
      obtain ⟨h2, o2, d3, f3⟩ := step l'
      clear step h hl
      go_enter Try.func28, Try.ntmps28
      go_wp2
      go_ret
      first | exact ⟨rfl, F, rput hF'.out ⟨_, _, h2, hlk⟩ o2⟩ | exact ⟨F, rfl, rput hF'.out ⟨_, _, h2, hlk⟩ o2⟩
end Go.Proofs.Ytcfbdbjonmjplaa
