/- WireCuts' walk. -/
import Derived.Test.YtbekiajnkmlokaaSame
import Derived.Test.YtbekiajnkmlokaaOwn
import Derived.Laws.AppendOwnNone
namespace Go.Proofs.Ytbekiajnkmlokaa
open Go.RowKit

/-- append of bytes to a slice of the call's own, whatever slice they come from. -/
theorem wpList_app {w : World} {ops : Array Oper} {rest : List Oper} {o : Oper} {a : Act} {Q : Exit → Act → World → Prop} (hgd : o.guard = none) (s x : Operand)
    (ho : o.op = .call { callee := .builtin .append, args := #[s, x], argTypes := #[23, 23] }) (base : Nat) (v : Value) (n : Nat) (ys : List Int) (hs : a.eval s = v) (hown : w.ownsRow base 5 1 v n (ys.map (Value.int .u8)))
    (sx : Option Addr) (l c : Nat) (zs : List Int) (hx : a.eval x = .slice sx l c) (hz : SAt w sx l zs) (hnil : sx = none → l = 0 ∧ c = 0) (hbound : n + l ≤ 100000) (hbase : base ≤ w.heap.size)
    (h : ∀ v' w', w'.ownsRow base 5 1 v' (n + l) ((ys ++ zs).map (Value.int .u8)) → Below base w w' → (v ≠ .slice none 0 0 → v' ≠ .slice none 0 0) → wpList Try.prog ops Q rest (a.put o.dst v') w') : wpList Try.prog ops Q (o :: rest) a w := by
  obtain ⟨i0, hi, hz0, hz1, hz2⟩ := info_parts Try.info5
  cases sx with
  | none =>
    obtain ⟨rfl, rfl⟩ := hnil rfl
    obtain rfl : zs = [] := List.eq_nil_of_length_eq_zero hz.1
    refine wpList_append_own_none hgd s x 23 ho base 5 i0 1 Try.underlying23 hi v n _ hs hown hx (h v w ?_ (Below.refl _ _) id)
    simpa using hown
  | some ad =>
    have hat : At w ad.block ad.off zs ∧ (0 < l → ad.spot = none) := by
      by_cases hl : 0 < l
      · obtain ⟨b, o, e, _, ha⟩ := hz.2 hl
        obtain rfl : ad = ⟨b, o, none⟩ := by simpa using e
        exact ⟨ha, fun _ => rfl⟩
      · obtain rfl : zs = [] := List.eq_nil_of_length_eq_zero (by rw [hz.1]; omega)
        exact ⟨fun i hi => by simp at hi, fun hl' => absurd hl' hl⟩
    refine wpList_append_own w hgd s x 23 ho base 5 i0 (.int .u8 0) 1 1 Try.underlying23 hi hz0 hz1 hz2 rfl (by decide) v n _ hs hown ad l c (zs.map (Value.int .u8)) hx (by simp [hz.1]) ?_ (one_cells zs) (by unfold maxLen; omega) (by omega) hbase ?_
    · by_cases hl : 0 < l
      · obtain ⟨b, o, spot⟩ := ad
        obtain rfl : spot = none := hat.2 hl
        exact hat.1.news
      · obtain rfl : zs = [] := List.eq_nil_of_length_eq_zero (by rw [hz.1]; omega)
        intro j u hj
        simp at hj
    · intro v' w' h1 h2 h3
      refine h v' w' (by rw [List.map_append]; exact h1) ((Below.refl _ _).grown h2 hbase (own_block' hown)) (fun hv e => hv (h3.1 e).1)

/-- m rows at a, each in a block of its own. -/
def RowsIn (w : World) (a : Option Addr) (m : Nat) (P : Nat → List Int) : Prop :=
  ∀ j, j < m → ∃ g q c, a = some ⟨g, 0, none⟩ ∧ g < w.heap.size ∧ w.cell? ⟨g, j, none⟩ = some (.slice (some ⟨q, 0, none⟩) (P j).length c) ∧ q < w.heap.size ∧ At w q 0 (P j)
theorem RowsIn.rows {w : World} {a : Option Addr} {m : Nat} {P : Nat → List Int} (h : RowsIn w a m P) : RowsAt w a m P := by
  intro j hj
  obtain ⟨g, q, c, e, hg, hc, hq, ha⟩ := h j hj
  exact ⟨g, _, c, e, hg, hc, rfl, fun _ => ⟨q, 0, rfl, hq, ha⟩⟩
theorem RowsIn.below {w w' : World} {a : Option Addr} {m : Nat} {P : Nat → List Int} (h : RowsIn w a m P) (hb : Below w.heap.size w w') : RowsIn w' a m P := by
  intro j hj
  obtain ⟨g, q, c, e, hg, hc, hq, ha⟩ := h j hj
  exact ⟨g, q, c, e, Nat.lt_of_lt_of_le hg hb.size, (hb.cell (p := ⟨g, j, none⟩) hg).trans hc, Nat.lt_of_lt_of_le hq hb.size, ha.below hb hq⟩

theorem own_sat {w : World} {base n : Nat} {v : Value} {xs : List Int} (hn : xs.length = n) (h : w.ownsRow base 5 1 v n (xs.map (Value.int .u8))) : ∃ x c, v = .slice x n c ∧ SAt w x n xs := by
  have h' := h
  obtain ⟨_, ⟨rfl, rfl⟩ | ⟨g, cap, cur, rfl, hg, hh, hnc, hcm, _⟩⟩ := h
  · exact ⟨none, 0, rfl, hn, fun h => absurd h (by omega)⟩
  · obtain ⟨hlt, _⟩ := Array.getElem?_eq_some_iff.1 hh
    refine ⟨_, cap, rfl, hn, fun _ => ⟨g, 0, rfl, hlt, fun i hi => ?_⟩⟩
    rw [Nat.zero_add, h'.cellAt i (by omega)]
    simp [hi]

set_option maxHeartbeats 400000 in
theorem cuts_long (a az : Option Addr) (n cap m capz : Nat) (w : World) (h : 300 < n ∨ 50 < m) :
    Calls Try.prog 6 #[.slice a n cap, .slice az m capz] w fun e w' => e = .returned (.bool true) ∧ Below w.heap.size w w' := by
  by_cases h1 : 300 < n
  · go_enter Try.func6, Try.ntmps6
    go_wp2
    go_ret
    exact ⟨rfl, Below.refl _ _⟩
  · have h2 : 50 < m := by omega
    go_enter Try.func6, Try.ntmps6
    go_wp2
    go_ret
    exact ⟨rfl, Below.refl _ _⟩

set_option maxHeartbeats 2000000 in
theorem cuts_core (a az : Option Addr) (n cap m capz : Nat) (xs : List Int) (w : World) (h300 : n ≤ 300) (h50 : m ≤ 50) (hx : SAt w a n xs) (hnil : a = none → n = 0 ∧ cap = 0)
    (ok : Bool) (ml : Nat) (P cat : Nat → List Int) (hml : ml ≤ 50) (hcat0 : cat 0 = []) (hcatS : ∀ k, k < ml → cat (k + 1) = cat k ++ P k) (hcatL : ∀ k, k ≤ ml → (cat k).length ≤ 300) (hend : ok = true → cat ml = xs)
    (hCut : ∀ g cap1 w1, n ≤ cap1 → cap1 ≤ maxLen → g < w1.heap.size → At w1 g 0 xs → Below w.heap.size w w1 → Calls Try.prog 17 #[.slice (some ⟨g, 0, none⟩) n cap1, .slice az m capz] w1 fun e w2 => ∃ al cl, e = .returned (.tuple #[.slice al ml cl, .bool ok]) ∧ RowsIn w2 al ml P ∧ Below w1.heap.size w1 w2)
    (hRef : ∀ w2, Below w.heap.size w w2 → Calls Try.prog 18 #[.slice a n cap, .slice az m capz] w2 fun e w3 => ∃ ar cr, e = .returned (.tuple #[.slice ar ml cr, .bool ok]) ∧ RowsAt w3 ar ml P ∧ Below w2.heap.size w2 w3) :
    Calls Try.prog 6 #[.slice a n cap, .slice az m capz] w fun e w' => e = .returned (.bool true) ∧ Below w.heap.size w w' := by
  have HC := hide' hCut
  have HR := hide' hRef
  have HE := hide' hend
  have H0 := hide' hcat0
  have HS := hide' hcatS
  have HL := hide' hcatL
  have HN := hide' hnil
  have HX := hide' hx
  clear hCut hRef hend hcat0 hcatS hcatL hnil hx
  go_enter Try.func6, Try.ntmps6
  go_wp2_with (at_builtin; refine wpList_app rfl _ _ rfl w.heap.size _ 0 [] rfl (World.ownsRow_lit (base := w.heap.size) w #[] 0 (Nat.le_refl _) (by decide) rfl) a n cap xs rfl ?c1 ?c2 ?c3 ?c4 ?_)
  case c1 => exact HX.out.below ((Below.refl _ _).alloc (Nat.le_refl _) _)
  case c2 => exact HN.out
  case c3 => omega
  case c4 => simp
  intro v' w1 hown hB hv'
  obtain ⟨g, cap1, hv, hg0, hg1, hnc, hcm, ha1⟩ := own_bytes HX.out.1 hown (by first | exact hv' | exact hv' (by simp))
  have hB1 : Below w.heap.size w w1 := ((Below.refl _ _).alloc (Nat.le_refl _) _).trans hB
  clear hown hv' hB
  subst hv
  go_wp2_with fail
  refine (HC.out g cap1 w1 hnc hcm hg1 ha1 hB1).mono ?_
  rintro e w2 ⟨al, cl, rfl, hl2, hb2⟩
  have hB2 := hB1.trans (hb2.mono hB1.size)
  go_wp2_with fail
  refine (HR.out w2 hB2).mono ?_
  rintro e w3 ⟨ar, cr, rfl, hr3, hb3⟩
  have hB3 := hB2.trans (hb3.mono hB2.size)
  have hl3 := hl2.below hb3
  clear hl2 HC HR
  go_wp2_with fail
  refine (same_true al ar ml cl cr P w3 (by omega) hl3.rows hr3).mono ?_
  rintro e w4 ⟨rfl, hb4⟩
  have hB4 := hB3.trans (hb4.mono hB3.size)
  have hl4 := hl3.below hb4
  clear hl3 hr3 hb2 hb3 hb4 hB1 hB2 hB3 ha1 hg0 hg1 hnc hcm
  go_wp2_with fail
  go_loopw [9, 10] (fun all i wr => ∃ k : Nat, k ≤ ml ∧ i = .int .i64 k ∧ wr.ownsRow w4.heap.size 5 1 all (cat k).length ((cat k).map (Value.int .u8)) ∧ Below w4.heap.size w4 wr) (fun _ i _ => ml - (intOf i).toNat)
  case atStart => exact ⟨0, Nat.zero_le _, rfl, by rw [H0.out]; exact World.ownsRow_nil _ _ _ _, Below.refl _ _⟩
  case round =>
    obtain ⟨k, hk, rfl, hown, hb⟩ := hrel
    by_cases hlt : k < ml
    · obtain ⟨g1, q, c, hal, hg1, hc1, hq, hat⟩ := (hl4.below hb) k hlt
      subst hal
      have hlen : (cat k).length + (P k).length ≤ 300 := by
        have := HL.out (k + 1) hlt
        rw [HS.out k hlt, List.length_append] at this
        exact this
      have hS := hb.size
      go_wp2_with (at_builtin; refine wpList_app rfl _ _ rfl w4.heap.size _ (cat k).length (cat k) rfl hown (some ⟨q, 0, none⟩) (P k).length c (P k) rfl ⟨rfl, fun _ => ⟨q, 0, rfl, hq, hat⟩⟩ (fun h => by cases h) (by omega) hS ?_)
      intro v' w5 hown5 hB5 _
      have hb5 := hb.trans hB5
      have hown6 : w5.ownsRow w4.heap.size 5 1 v' (cat (k + 1)).length ((cat (k + 1)).map (Value.int .u8)) := by
        rw [HS.out k hlt, List.length_append, List.map_append]
        first | exact hown5 | (rw [List.map_append] at hown5; exact hown5)
      clear hown5 hB5 hown hb hc1 hat
      go_wp2
      go_roundw
      case rel => exact ⟨k + 1, hlt, by go_num, hown6, hb5⟩
      case measure => simp [intOf]; omega
    · have hkm : k = ml := by omega
      subst hkm
      have hBr := hB4.trans (hb.mono hB4.size)
      cases ok with
      | true =>
        have hcx := HE.out rfl
        rw [hcx] at hown
        rw [HX.out.1] at hown
        obtain ⟨x, c, hv, hsat⟩ := own_sat HX.out.1 hown
        have hsb := HX.out.below hBr
        have k1 := hsat.conv (c := c)
        have k2 := hsb.conv (c := cap)
        have hs := str_self xs
        rw [hv]
        clear hcx hown hv
        go_wp2_with fail
        refine (known_true _).mono ?_
        rintro e w6 ⟨rfl, hb6⟩
        go_wp2
        go_ret
        exact ⟨rfl, hBr.trans (hb6.mono hBr.size)⟩
      | false =>
        clear hown
        go_wp2_with fail
        refine (known_true _).mono ?_
        rintro e w6 ⟨rfl, hb6⟩
        go_wp2
        go_ret
        exact ⟨rfl, hBr.trans (hb6.mono hBr.size)⟩
end Go.Proofs.Ytbekiajnkmlokaa
