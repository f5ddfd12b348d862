/- Proved: for any slice of bytes and any sizes WireCuts returns true: wire.Cut answers the document's rows or nothing, and the rows together are the bytes. No condition. -/
import Derived.Test.YtbekiajnkmlokaaCuts
import Derived.Test.YtbekiajnkmlokaaLaw
namespace Go.Proofs.Ytbekiajnkmlokaa
open Go.ChangeShapes Go.WideShapes Go.ChangeAt Go.RowKit

theorem Try.cells3 : Try.prog.cellsOf 3 = 1 := by kernel_rfl

theorem view_bytes2 {H : Type} {enc : TypeId × Value → H} {W : World} {base : Nat} {v : Value} {d : DataW H} {p : List MemPlace}
    (hok : Value.okWide Try.prog W .any base 23 v) (h : DataW.Trod enc Try.prog W 0 (fun _ => true) true 23 v d p) (hlt : ∀ x ∈ p, x.block < W.heap.size) :
    ∃ (a : Option Addr) (n cap : Nat) (xs : List Int), v = .slice a n cap ∧ n ≤ cap ∧ SAt W a n xs ∧ (a = none → n = 0 ∧ cap = 0) := by
  have hnil : ∀ n cap, v = .slice none n cap → n = 0 ∧ cap = 0 := by
    intro n cap e
    subst e
    obtain ⟨fuel, hf⟩ := h
    rcases open_ints Try.underlying23 Try.underlying5 Try.cells5 hf with ⟨hcs, hx⟩ | ⟨a, len', cap', zs, hcs, _⟩
    · simpa [Value.cells] using hcs
    · simp [Value.cells] at hcs
  obtain ⟨a, n, cap, xs, rfl, hn, hnc, hcm, hx, hat⟩ := view_bytes hok h hlt
  refine ⟨a, n, cap, xs, rfl, hnc, ⟨hn, fun hl => ?_⟩, fun e => hnil n cap (by rw [e])⟩
  rcases hat with h0 | ⟨b, off, e, hb, ha⟩
  · omega
  · exact ⟨b, off, e, hb, ha⟩

theorem view_ints {H : Type} {enc : TypeId × Value → H} {W : World} {base : Nat} {v : Value} {d : DataW H} {p : List MemPlace}
    (hok : Value.okWide Try.prog W .any base 37 v) (h : DataW.Trod enc Try.prog W 0 (fun _ => true) true 37 v d p) (hlt : ∀ x ∈ p, x.block < W.heap.size) :
    ∃ (a : Option Addr) (m cap : Nat) (zs : List Int), v = .slice a m cap ∧ zs.length = m ∧ (0 < m → ∃ b off, a = some ⟨b, off, none⟩ ∧ b < W.heap.size ∧ AtI W b off zs) := by
  obtain ⟨a0, len, cap, rfl⟩ := okWide_slice Try.underlying37 hok
  obtain ⟨fuel, hf⟩ := h
  rcases open_ints Try.underlying37 Try.underlying3 Try.cells3 hf with ⟨hcs, hx⟩ | ⟨a, len', cap', zs, hcs, _, hl, hm, hz, hx, hcell, hwz⟩
  · simp [Value.cells] at hcs
    obtain ⟨rfl, rfl, rfl⟩ := hcs
    exact ⟨none, 0, 0, [], rfl, rfl, fun h => absurd h (by omega)⟩
  · simp [Value.cells] at hcs
    obtain ⟨rfl, rfl, rfl⟩ := hcs
    simp only [Prod.mk.injEq] at hx
    obtain ⟨rfl, rfl⟩ := hx
    simp only [if_true] at hz
    have hlen : (zs.take len).length = len := by rw [List.length_take]; omega
    refine ⟨some a, len, cap, zs.take len, rfl, hlen, fun hl0 => ?_⟩
    obtain ⟨b, off, spot⟩ := a
    have hspot : spot = none := by simpa [Addr.add] using World.cell?_spot (hcell 0 (by omega))
    subst hspot
    refine ⟨b, off, rfl, hlt (.cell b off) (MemPlace.mem_row.2 ⟨0, by omega, by simp⟩), fun i hi => ?_⟩
    rw [hlen] at hi
    rw [← add_plain', hcell i (by omega)]
    simp [hi]

theorem cuts_in {w : World} {N m : Nat} {P : Nat → List Int} (h : CutsTo w N m m P) : RowsIn w (some ⟨N, 0, none⟩) m P := by
  obtain ⟨f, hf, hg⟩ := h
  intro j hj
  obtain ⟨g, _, e, hr⟩ := hg j hj
  exact ⟨N, g, (P j).length, rfl, hf.lt, by rw [hf.cell hj, e], hr.lt, hr.at⟩

theorem own_rows {w w' : World} {base m : Nat} {v : Value} {cells : List Value} {P : Nat → List Int} (hb : Below w.heap.size w w') (h : w'.ownsRow base 23 1 v m cells) (hc : RowCells w m P cells) :
    ∃ a c, v = .slice a m c ∧ RowsAt w' a m P := by
  have h' := h
  obtain ⟨_, ⟨rfl, rfl⟩ | ⟨g, cap, cur, rfl, hg, hh, _⟩⟩ := h
  · exact ⟨none, 0, rfl, fun j hj => absurd hj (by omega)⟩
  · obtain ⟨hlt, _⟩ := Array.getElem?_eq_some_iff.1 hh
    refine ⟨_, cap, rfl, fun j hj => ?_⟩
    obtain ⟨x, c, e, hs⟩ := hc j hj
    exact ⟨g, x, c, rfl, hlt, by rw [h'.cellAt j (by omega), e], hs.below hb⟩

theorem AtI.grown {w w' : World} {b off : Nat} {zs : List Int} (h : AtI w b off zs) (hb : Below w.heap.size w w') (hB : b < w.heap.size) : AtI w' b off zs := h.below hb hB

theorem fill_any (az : Option Addr) (m capz n : Nat) (zs : List Int) (w : World) (hm : zs.length = m) (hm1 : m ≤ 50) (hn1 : n ≤ 300) (hz : 0 < m → ∃ b off, az = some ⟨b, off, none⟩ ∧ b < w.heap.size ∧ AtI w b off zs) :
    Calls Try.prog 21 #[.slice az m capz, .int .i64 n] w fun e w' => e = .returned (.bool (fillL zs n)) ∧ w' = w := by
  by_cases h0 : m = 0
  · subst h0
    rw [List.eq_nil_of_length_eq_zero hm]
    exact fill_empty az capz n w
  · obtain ⟨b, off, rfl, _, ha⟩ := hz (by omega)
    exact fill_some b off m capz n zs w hm (by omega) (by omega) ha

set_option maxHeartbeats 400000 in
theorem cut_no_at (a az : Option Addr) (n cap m capz : Nat) (w : World) (hf : Calls Try.prog 21 #[.slice az m capz, .int .i64 n] w fun e w'' => e = .returned (.bool false) ∧ w'' = w) :
    Calls Try.prog 17 #[.slice a n cap, .slice az m capz] w fun e w' => e = .returned (.tuple #[.slice none 0 0, .bool false]) ∧ w' = w := by
  have HF := hide' hf
  clear hf
  go_enter Try.func17, Try.ntmps17
  go_wp2_with fail
  refine HF.out.mono ?_
  rintro e w1 ⟨rfl, rfl⟩
  go_wp2
  go_ret2
  exact ⟨rfl, rfl⟩

theorem cuts_any (a az : Option Addr) (n cap m capz : Nat) (xs zs : List Int) (w : World) (h300 : n ≤ 300) (h50 : m ≤ 50) (hcap : n ≤ cap) (hx : SAt w a n xs) (hnil : a = none → n = 0 ∧ cap = 0)
    (hm : zs.length = m) (hz : 0 < m → ∃ b off, az = some ⟨b, off, none⟩ ∧ b < w.heap.size ∧ AtI w b off zs) :
    Calls Try.prog 6 #[.slice a n cap, .slice az m capz] w fun e w' => e = .returned (.bool true) ∧ Below w.heap.size w w' := by
  have hzw : ∀ w', Below w.heap.size w w' → 0 < m → ∃ b off, az = some ⟨b, off, none⟩ ∧ b < w'.heap.size ∧ AtI w' b off zs := by
    intro w' hb h0
    obtain ⟨b, off, e, hlt, ha⟩ := hz h0
    exact ⟨b, off, e, Nat.lt_of_lt_of_le hlt hb.size, ha.grown hb hlt⟩
  cases hf : fillL zs n with
  | true =>
    obtain ⟨ns, rfl, hsum⟩ := fill_nats zs n hf
    have hnm : ns.length = m := by simpa using hm
    have hpm : pos ns m = n := by rw [pos, List.take_of_length_le (by omega), hsum]
    refine cuts_core a az n cap m capz xs w h300 h50 hx hnil true m (piece xs ns) (fun k => xs.take (pos ns k)) h50 ?_ ?_ ?_ ?_ ?_ ?_
    · simp [pos]
    · intro k hk
      show xs.take (pos ns (k + 1)) = xs.take (pos ns k) ++ piece xs ns k
      rw [pos_succ ns k (by omega), List.take_add]
      rfl
    · intro k _
      show (xs.take (pos ns k)).length ≤ 300
      rw [List.length_take, hx.1]
      omega
    · intro _
      show xs.take (pos ns m) = xs
      rw [hpm, List.take_of_length_le (by rw [hx.1]; exact Nat.le_refl _)]
    · intro g cap1 w1 hnc hcm hg ha hb
      unfold maxLen at hcm
      refine (cut_yes g 0 n cap1 xs az m capz ns w1 hx.1 (by omega) hnc hcm hg ha hnm (by omega) hsum (hzw w1 hb) ?_).mono ?_
      · intro w' hb'
        have := fill_any az m capz n (ns.map Int.ofNat) w' hm h50 h300 (hzw w' (hb.trans (hb'.mono hb.size)))
        rw [hf] at this
        exact this
      · rintro e w2 ⟨rfl, hc, hb2⟩
        exact ⟨_, _, rfl, cuts_in hc, hb2⟩
    · intro w2 hb
      by_cases h0 : m = 0
      · subst h0
        obtain rfl : ns = [] := List.eq_nil_of_length_eq_zero hnm
        obtain rfl : n = 0 := by simpa using hsum.symm
        refine (rcut_empty_yes a az cap capz w2).mono ?_
        rintro e w3 ⟨rfl, rfl⟩
        exact ⟨_, _, rfl, fun j hj => absurd hj (by omega), Below.refl _ _⟩
      · obtain ⟨bz, oz, rfl, hlt, haz⟩ := hzw w2 hb (by omega)
        refine (rcut_yes a n cap xs bz oz m capz ns w2 hcap (hx.below hb) hnm (by omega) hsum hlt haz).mono ?_
        rintro e w3 ⟨v, cells, rfl, hown, hcells, hb3⟩
        obtain ⟨ar, cr, rfl, hr⟩ := own_rows hb3 hown hcells
        exact ⟨ar, cr, rfl, hr, hb3⟩
  | false =>
    refine cuts_core a az n cap m capz xs w h300 h50 hx hnil false 0 (fun _ => []) (fun _ => []) (by omega) rfl (fun k hk => absurd hk (by omega)) (fun k _ => by simp) (fun h => by cases h) ?_ ?_
    · intro g cap1 w1 hnc hcm hg ha hb
      refine (cut_no_at (some ⟨g, 0, none⟩) az n cap1 m capz w1 ?_).mono ?_
      · have := fill_any az m capz n zs w1 hm h50 h300 (hzw w1 hb)
        rw [hf] at this
        exact this
      · rintro e w2 ⟨rfl, rfl⟩
        exact ⟨_, _, rfl, fun j hj => absurd hj (by omega), Below.refl _ _⟩
    · intro w2 hb
      by_cases h0 : m = 0
      · subst h0
        obtain rfl : zs = [] := List.eq_nil_of_length_eq_zero hm
        have hn : 0 < n := by
          simp [fillL] at hf
          omega
        refine (rcut_empty_no a az n cap capz w2 hn).mono ?_
        rintro e w3 ⟨rfl, rfl⟩
        exact ⟨_, _, rfl, fun j hj => absurd hj (by omega), Below.refl _ _⟩
      · obtain ⟨bz, oz, rfl, hlt, haz⟩ := hzw w2 hb (by omega)
        refine (rcut_no a n cap bz oz m capz zs w2 hcap hm (by omega) hf hlt haz).mono ?_
        rintro e w3 ⟨rfl, hb3⟩
        exact ⟨_, _, rfl, fun j hj => absurd hj (by omega), hb3⟩

set_option maxRecDepth 100000 in
theorem wireCuts_lifted (os : Os) (started : os.Started) (H : Type) (enc : TypeId × Value → H) :
    ReturnsInHanded {} Try.checked os 6 .any (Rows.wireCutsSpec.pre6 enc Try.prog Try.f6 Rows.wireCutsRow.domain false) (Rows.wireCutsSpec.post enc Try.prog Try.f6 false true false false) := by
  refine returnsInHanded_of_change (C := Try.checked) Try.own started (by kernel_rfl) Try.func6
    (ChangeSpec.witness6 (enc := enc) (C := Try.checked) false ⟨#[], #[.slice none 0 0, .slice none 0 0], []⟩ 8 (by kernel_rfl) (by kernel_rfl) (by kernel_rfl) (by kernel_rfl)) ?_
  intro W base args ds gs before hval0 hW hcnd _
  have hval : ∀ (j : Nat) t v, Try.f6.params[j]? = some t → args[j]? = some v → Value.okWide Try.prog W .any base t v := hval0
  have hW' := hW
  obtain ⟨p, q, hA0, hV, rfl, hfz, hnd⟩ := hW
  have hA : DataW.TrodAll enc Try.prog W 0 (fun _ => true) true Try.f6.params.toList args.toList ds p := hA0
  rw [Try.params6] at hA hval
  obtain ⟨v0, v1, d0, d1, p0, p1, rfl, rfl, rfl, h0, h1⟩ := trodAll_two hA
  obtain ⟨rfl, rfl⟩ := trodVars_none hV
  obtain ⟨a, n, cap, xs, rfl, hnc, hx, hnil⟩ := view_bytes2 (hval 0 23 v0 rfl rfl) h0 (fun x hx => hW'.lt x (by simp [hx]))
  obtain ⟨az, m, capz, zs, rfl, hm, hz⟩ := view_ints (hval 1 37 v1 rfl rfl) h1 (fun x hx => hW'.lt x (by simp [hx]))
  clear hA0 hval0
  have fin : Calls Try.prog 6 #[.slice a n cap, .slice az m capz] W fun e w' => e = .returned (.bool true) ∧ Below W.heap.size W w' := by
    by_cases h8 : 300 < n ∨ 50 < m
    · exact cuts_long a az n cap m capz W h8
    · exact cuts_any a az n cap m capz xs zs W (by omega) (by omega) hnc hx hnil hm hz
  refine fin.mono fun e W' ⟨he, hb⟩ => ?_
  subst he
  exact ⟨_, rfl, law_post Try.laidOut (of_decide_eq_true (by kernel_rfl)) (by kernel_rfl) Try.underlying4 rfl hW' rfl hb⟩

theorem wireCuts_holds : Rows.WireCutsSaid :=
  OpenClaim.holds_of_wide 6 Try.f6 rfl rfl rfl rfl rfl rfl rfl ⟨rfl, rfl, rfl, rfl, rfl⟩ rfl rfl rfl rfl rfl (by kernel_rfl) Try.func6 (by kernel_rfl)
    (of_decide_eq_true (by kernel_rfl)) (by unfold Func.isWrapper; first | (rw [if_pos (by decide +kernel)]; kernel_rfl) | (rw [if_neg (by decide +kernel)]; exact ⟨rfl, rfl⟩))
    (fun os started H enc _ => wireCuts_lifted os started H enc)

end Go.Proofs.Ytbekiajnkmlokaa
