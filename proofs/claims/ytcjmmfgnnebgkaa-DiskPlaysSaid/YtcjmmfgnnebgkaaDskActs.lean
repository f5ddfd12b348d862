/- A disk's acts that came in; are they more than is looked at? -/
import Derived.Test.YtcjmmfgnnebgkaaM08
import Derived.Test.YtcjmmfgnnebgkaaM03
namespace Go.Proofs.Ytcjmmfgnnebgkaa
open Go.ChangeShapes Go.WideShapes Go.ChangeAt Go.RowKit Go.Deep
set_option maxRecDepth 20000

structure DAct where
  kind : Int
  off : Int
  num : Int
  data : List Int
  keep : List Bool
instance : Inhabited DAct := ⟨⟨0, 0, 0, [], []⟩⟩
theorem Try.cells36 : Try.prog.cellsOf 36 = 5 := by kernel_rfl
theorem Try.cells3 : Try.prog.cellsOf 3 = 1 := by kernel_rfl
/-- An act in memory. -/
def DActR (w : World) (cs : List Value) (a : DAct) : Prop := ∃ d n dc k m kc, cs = [.int .i64 a.kind, .int .i64 a.off, .int .i64 a.num, .slice d n dc, .slice k m kc] ∧ SAt w d n a.data ∧ Fit d n dc ∧ Bytes a.data ∧ KIn (fun k => k < w.heap.size) w k m a.keep ∧ Fit k m kc ∧ a.num ≤ 9223372036854775807
theorem five_of {α : Type} (cs : List α) (h : cs.length = 5) : ∃ a b c d e, cs = [a, b, c, d, e] := by
  match cs, h with
  | [a, b, c, d, e], _ => exact ⟨a, b, c, d, e, rfl⟩
theorem i64_top {a : Int} (h : (Lit.int .i64 a).wf = true) : a ≤ 9223372036854775807 := by
  have hx : -9223372036854775808 ≤ a ∧ a ≤ 9223372036854775807 := by simpa [Lit.wf, IntKind.min, IntKind.max, IntKind.signed, IntKind.bits] using h
  exact hx.2
theorem dact_cells {H : Type} {enc : TypeId × Value → H} {W : World} (fuel : Nat) (cs : List Value) (e : DataW H × List MemPlace) (hl : cs.length = 5) (h : DataW.trod enc Try.prog W 0 (fun _ => true) true fuel 36 cs = some e) (hlt : ∀ q ∈ e.2, q.block < W.heap.size) : ∃ a, DActR W cs a := by
  obtain ⟨c0, c1, c2, c3, c4, rfl⟩ := five_of cs hl
  obtain ⟨ys, m, _, hx, _, hl2, hy⟩ := DataW.trod_struct Try.underlying36 h
  match ys, hl2 with
  | [y0, y1, y2, y3, y4], _ =>
    have h0 := hy 0 _ rfl
    have h1 := hy 1 _ rfl
    have h2 := hy 2 _ rfl
    have h3 := hy 3 _ rfl
    have h4 := hy 4 _ rfl
    simp [Try.cells3, Try.cells33, Try.cells34] at h0 h1 h2 h3 h4
    subst hx
    obtain ⟨k, e0, _, _⟩ := DataW.trod_int Try.underlying3 h0
    obtain ⟨o, e1, _, _⟩ := DataW.trod_int Try.underlying3 h1
    obtain ⟨n, e2, _, w2⟩ := DataW.trod_int Try.underlying3 h2
    obtain ⟨x3, n3, d3, xs3, rfl, f31, f32, b3, s3, f33⟩ := sat_cells h3 (fun z hz => hlt z (by simp [hz]))
    obtain ⟨x4, n4, d4, K4, rfl, f4, k4⟩ := kin_cells h4 (fun z hz => hlt z (by simp [hz]))
    simp at e0 e1 e2
    subst e0 e1 e2
    exact ⟨⟨k, o, n, xs3, K4⟩, x3, n3, d3, x4, n4, d4, rfl, s3, ⟨f31, f32, f33⟩, b3, k4, f4, i64_top w2⟩
/-- The act at a place, cell by cell. -/
theorem dact_at {w : World} {x : Option Addr} {m : Nat} {L : List DAct} (h : RowsAt 5 DActR w x m L) {i : Nat} (hi : i < m) : ∃ b o d n dc k mk kc, ∃ a : DAct, x = some ⟨b, o, none⟩ ∧ b < w.heap.size ∧ w.cell? ⟨b, o + i * 5, none⟩ = some (.int .i64 a.kind) ∧ w.cell? ⟨b, o + i * 5 + 1, none⟩ = some (.int .i64 a.off) ∧ w.cell? ⟨b, o + i * 5 + 2, none⟩ = some (.int .i64 a.num) ∧ w.cell? ⟨b, o + i * 5 + 3, none⟩ = some (.slice d n dc) ∧ w.cell? ⟨b, o + i * 5 + 4, none⟩ = some (.slice k mk kc) ∧
    SAt w d n a.data ∧ Fit d n dc ∧ Bytes a.data ∧ KIn (fun k => k < w.heap.size) w k mk a.keep ∧ Fit k mk kc ∧ a.num ≤ 9223372036854775807 := by
  obtain ⟨_, h⟩ := h
  obtain ⟨b, o, rfl, hb, he⟩ := h (by omega)
  obtain ⟨cs, _, hc, d, n, dc, k, mk, kc, hcs, r⟩ := he i hi
  exact ⟨b, o, d, n, dc, k, mk, kc, L.getD i default, rfl, hb, hc 0 _ (by rw [hcs]; rfl), hc 1 _ (by rw [hcs]; rfl), hc 2 _ (by rw [hcs]; rfl), hc 3 _ (by rw [hcs]; rfl), hc 4 _ (by rw [hcs]; rfl), r⟩
set_option maxHeartbeats 1000000 in
theorem dlong (x : Option Addr) (m c : Nat) (L : List DAct) (w : World) (s1 : RowsAt 5 DActR w x m L) :
    Calls Try.prog 7 #[.slice x m c] w fun e w' => (e = .returned (.bool true) ∨ (e = .returned (.bool false) ∧ m < 120)) ∧ Below w.heap.size w w' := by
  go_enter Try.func7, Try.ntmps7
  go_wp2_with fail
  go_loop [3] (fun i => ∃ k : Nat, k ≤ m ∧ k ≤ 120 ∧ i = .int .i64 (k : Int)) (fun i => 120 - (intOf i).toNat)
  case atStart => exact ⟨0, Nat.zero_le _, Nat.zero_le _, rfl⟩
  case round =>
    obtain ⟨k, hk, hk2, rfl⟩ := hrel
    by_cases hlt : k < m
    · have hlt' : (k : Int) < m := by omega
      by_cases h120 : k < 120
      · have h120' : (k : Int) < 120 := by omega
        have hw : IntKind.i64.wrap ((k : Int) + 1) = (k : Int) + 1 := by
          rw [IntKind.wrap_i64]
          omega
        obtain ⟨b, o, d, n, dc, kk, mk, kc, a, rfl, hb, -, -, -, c3, c4, -⟩ := dact_at s1 hlt
        by_cases h1 : (300 : Int) < n
        · go_wp2
          go_ret
          exact ⟨Or.inl rfl, Below.refl _ _⟩
        · by_cases h2 : (100 : Int) < mk
          · go_wp2
            go_ret
            exact ⟨Or.inl rfl, Below.refl _ _⟩
          · go_wp2
            go_round
            case rel => exact ⟨k + 1, by omega, by omega, by go_num⟩
            case measure => simp [intOf]; omega
      · have h120' : ¬ (k : Int) < 120 := by omega
        have hge : (120 : Int) ≤ m := by omega
        go_wp2
        go_ret
        exact ⟨Or.inl rfl, Below.refl _ _⟩
    · have hlt' : ¬ (k : Int) < m := by omega
      by_cases hge : (120 : Int) ≤ m
      · go_wp2
        go_ret
        exact ⟨Or.inl rfl, Below.refl _ _⟩
      · go_wp2
        go_ret
        exact ⟨Or.inr ⟨rfl, by omega⟩, Below.refl _ _⟩
end Go.Proofs.Ytcjmmfgnnebgkaa
