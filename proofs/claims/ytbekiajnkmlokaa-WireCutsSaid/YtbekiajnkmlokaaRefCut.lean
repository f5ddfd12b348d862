/- What lockboxref1.Cut comes to. -/
import Derived.Test.YtbekiajnkmlokaaSl
import Derived.Test.YtbekiajnkmlokaaView
namespace Go.Proofs.Ytbekiajnkmlokaa
open Go.RowKit

/-- A slice of l bytes, ys, at x; of none nothing is asked. -/
def SAt (w : World) (x : Option Addr) (l : Nat) (ys : List Int) : Prop := ys.length = l ∧ (0 < l → ∃ b o, x = some ⟨b, o, none⟩ ∧ b < w.heap.size ∧ At w b o ys)
theorem SAt.below {w w' : World} {x : Option Addr} {l : Nat} {ys : List Int} (h : SAt w x l ys) (hb : Below w.heap.size w w') : SAt w' x l ys :=
  ⟨h.1, fun hl => by
    obtain ⟨b, o, e, hlt, ha⟩ := h.2 hl
    exact ⟨b, o, e, Nat.lt_of_lt_of_le hlt hb.size, ha.below hb hlt⟩⟩
theorem SAt.conv {w : World} {x : Option Addr} {l c : Nat} {ys : List Int} (h : SAt w x l ys) : (convert 23 9 (.slice x l c)).run Try.prog w = .ok (.string (strOfNums ys)) w := by
  by_cases hl : l = 0
  · subst hl
    rw [List.eq_nil_of_length_eq_zero h.1]
    exact conv_empty x c w
  · obtain ⟨b, o, rfl, _, ha⟩ := h.2 (by omega)
    exact ha.conv h.1
theorem SAt.head {w : World} {x : Option Addr} {l s : Nat} {ys : List Int} (h : SAt w x l ys) (hs : s ≤ l) : SAt w x s (ys.take s) :=
  ⟨by rw [List.length_take, h.1]; omega, fun hl => by
    obtain ⟨b, o, e, hlt, ha⟩ := h.2 (by omega)
    exact ⟨b, o, e, hlt, ha.cut1 s (by rw [h.1]; exact hs)⟩⟩
theorem SAt.tail {w : World} {x : Option Addr} {l cap s : Nat} {ys : List Int} (h : SAt w x l ys) (hc : l ≤ cap) : SAt w (nextA x cap s) (l - s) (ys.drop s) :=
  ⟨by rw [List.length_drop, h.1], fun hl => by
    obtain ⟨b, o, rfl, hlt, ha⟩ := h.2 (by omega)
    refine ⟨b, o + s, ?_, hlt, ha.cut2 s⟩
    rw [nextA, if_neg (by omega), Option.map_some, add_plain']⟩

/-- Cells that are slices of the rows P 0, P 1 .. -/
def RowCells (w : World) (k : Nat) (P : Nat → List Int) (cells : List Value) : Prop := ∀ j, j < k → ∃ x c, cells[j]? = some (.slice x (P j).length c) ∧ SAt w x (P j).length (P j)
theorem rowCells_step {w : World} {k : Nat} {P : Nat → List Int} {cells : List Value} (hk : cells.length = k) (h : RowCells w k P cells) (x : Option Addr) (c : Nat) (hx : SAt w x (P k).length (P k)) :
    RowCells w (k + 1) P (cells ++ [.slice x (P k).length c]) := by
  intro j hj
  by_cases e : j = k
  · subst e
    exact ⟨x, c, by rw [← hk]; simp, hx⟩
  · obtain ⟨x', c', h1, h2⟩ := h j (by omega)
    exact ⟨x', c', by rw [List.getElem?_append_left (by omega)]; exact h1, h2⟩

theorem own_block' {w : World} {base e size n : Nat} {v : Value} {xs : List Value} (h : w.ownsRow base e size v n xs) : ∀ k, v.ownBlock = some k → base ≤ k := by
  intro k hk
  obtain ⟨_, ⟨rfl, _⟩ | ⟨g, cap, cur, rfl, hg, _⟩⟩ := h
  · simp [Value.ownBlock] at hk
  · simp [Value.ownBlock] at hk; omega

theorem n_sub {n a s : Nat} : n - a - s = n - (a + s) := by omega

set_option maxHeartbeats 1000000 in
theorem rcut_yes (a : Option Addr) (n cap : Nat) (xs : List Int) (bz oz m capz : Nat) (ns : List Nat) (w : World) (hcap : n ≤ cap) (hx : SAt w a n xs)
    (hm : ns.length = m) (hm1 : m ≤ 1000) (hsum : ns.sum = n) (hbz : bz < w.heap.size) (hz : AtI w bz oz (ns.map Int.ofNat)) :
    Calls Try.prog 18 #[.slice a n cap, .slice (some ⟨bz, oz, none⟩) m capz] w fun e w' => ∃ v cells, e = .returned (.tuple #[v, .bool true]) ∧ w'.ownsRow w.heap.size 23 1 v m cells ∧ RowCells w m (piece xs ns) cells ∧ Below w.heap.size w w' := by
  obtain ⟨i0, hi, hz0, hz1, hz2⟩ := info_parts Try.info23
  have HM := hide' hm
  have HS := hide' hsum
  clear hm hsum
  go_enter Try.func18, Try.ntmps18
  go_wp2
  go_loopw [0, 6, 7] (fun b out i wr => ∃ (k : Nat) (a' : Option Addr) (cells : List Value), k ≤ m ∧ i = .int .i64 k ∧ b = .slice a' (n - pos ns k) (cap - pos ns k) ∧ SAt w a' (n - pos ns k) (xs.drop (pos ns k)) ∧ wr.ownsRow w.heap.size 23 1 out k cells ∧ RowCells w k (piece xs ns) cells ∧ Below w.heap.size w wr) (fun _ _ i _ => m - (intOf i).toNat)
  case atStart => exact ⟨0, a, [], Nat.zero_le _, rfl, rfl, hx, World.ownsRow_nil _ _ _ _, fun j hj => by omega, Below.refl _ _⟩
  case round =>
    obtain ⟨k, a', cells, hk, rfl, rfl, hsat, hown, hcells, hb⟩ := hrel
    by_cases hlt : k < m
    · have hck := (hb.cell (p := ⟨bz, oz + k, none⟩) hbz).trans (hz k (by rw [List.length_map, HM.out]; exact hlt))
      have hkl : k < ns.length := by rw [HM.out]; exact hlt
      have e1 : (ns.map Int.ofNat).getD k 0 = ((ns.getD k 0 : Nat) : Int) := by simp [hkl]
      rw [e1] at hck
      have HP1 := hide' (pos_succ ns k hkl)
      have hp2 : pos ns k + ns.getD k 0 ≤ n := by have := pos_le ns (k + 1); rw [HP1.out, HS.out] at this; exact this
      have hnx : n = xs.length := hx.1.symm
      have HPL : Hid ((piece xs ns k).length = ns.getD k 0) := by rw [Hid, piece_length xs ns k hkl (by rw [HS.out, hnx])]
      clear hnx
      have hhead := hsat.head (s := ns.getD k 0) (by omega)
      have htail := hsat.tail (cap := cap - pos ns k) (s := ns.getD k 0) (by omega)
      rw [List.drop_drop] at htail
      rw [n_sub] at htail
      rw [← HP1.out] at htail
      have hhead' : SAt w a' (piece xs ns k).length (piece xs ns k) := by rw [HPL.out]; exact hhead
      clear hhead hsat
      generalize hsv : ns.getD k 0 = s at *
      clear hsv e1
      have HP2 := hide' (rfl : pos ns (k + 1) = pos ns (k + 1))
      generalize pos ns k = at0 at *
      have s1 := sl_head a' (n - at0) (cap - at0) s (by omega)
      have s2 := sl_tail a' (n - at0) (cap - at0) s (by omega)
      have hS := hb.size
      have HL := hide' hown.1
      go_wp2_with (at_builtin; refine wpList_append_own _ rfl _ _ 38 rfl w.heap.size 23 i0 (.slice none 0 0) 1 24 Try.underlying38 hi hz0 hz1 hz2 rfl (by decide) _ _ _ rfl (hown.alloc _) ⟨wr.heap.size, 0, none⟩ 1 1 [.slice a' s (cap - at0)] rfl rfl ?c1 ?c2 ?c3 ?c4 ?c5 ?_)
      case c2 => rfl
      case c3 => unfold maxLen; omega
      case c4 => omega
      case c5 => omega
      · intro v' w1 hown' hgrow _
        have hb' : Below w.heap.size w w1 := Below.grown (hb.alloc hS _) hgrow (by simp; omega) (own_block' hown)
        have hck1 : w1.cell? ⟨bz, oz + k, none⟩ = some (.int .i64 s) := (hb'.cell (p := ⟨bz, oz + k, none⟩) hbz).trans ((hb.cell (p := ⟨bz, oz + k, none⟩) hbz).symm.trans hck)
        have hcells' := rowCells_step (by have := HL.out; omega) hcells a' (cap - at0) hhead'
        rw [HPL.out] at hcells'
        clear hgrow hown hb hck hcells
        go_wp2
        go_roundw
        case rel => exact ⟨k + 1, _, _, hlt, by go_num, by rw [HP1.out, ← n_sub, ← n_sub], htail, hown', hcells', hb'⟩
        case measure => simp [intOf]; omega
    · have hkm : k = m := by omega
      subst hkm
      have hz : n - pos ns k = 0 := by
        have : pos ns k = n := by rw [pos, List.take_of_length_le (by rw [HM.out]; exact Nat.le_refl _), HS.out]
        omega
      rw [hz]
      go_wp2
      go_ret2
      exact ⟨_, cells, rfl, hown, hcells, hb⟩

set_option maxHeartbeats 400000 in
theorem rcut_empty_no (a az : Option Addr) (n cap capz : Nat) (w : World) (hn : 0 < n) :
    Calls Try.prog 18 #[.slice a n cap, .slice az 0 capz] w fun e w' => e = .returned (.tuple #[.slice none 0 0, .bool false]) ∧ w' = w := by
  go_enter Try.func18, Try.ntmps18
  go_wp2
  refine wp_loop_rounds 1 ?_
  rw [rounds_succ]
  go_wp2
  go_ret2
  exact ⟨rfl, rfl⟩

set_option maxHeartbeats 400000 in
theorem rcut_empty_yes (a az : Option Addr) (cap capz : Nat) (w : World) :
    Calls Try.prog 18 #[.slice a 0 cap, .slice az 0 capz] w fun e w' => e = .returned (.tuple #[.slice none 0 0, .bool true]) ∧ w' = w := by
  go_enter Try.func18, Try.ntmps18
  go_wp2
  refine wp_loop_rounds 1 ?_
  rw [rounds_succ]
  go_wp2
  go_ret2
  exact ⟨rfl, rfl⟩

set_option maxHeartbeats 1000000 in
theorem rcut_no (a : Option Addr) (n cap : Nat) (bz oz m capz : Nat) (zs : List Int) (w : World) (hcap : n ≤ cap)
    (hm : zs.length = m) (hm1 : m ≤ 1000) (hfill : fillL zs n = false) (hbz : bz < w.heap.size) (hz : AtI w bz oz zs) :
    Calls Try.prog 18 #[.slice a n cap, .slice (some ⟨bz, oz, none⟩) m capz] w fun e w' => e = .returned (.tuple #[.slice none 0 0, .bool false]) ∧ Below w.heap.size w w' := by
  obtain ⟨i0, hi, hz0, hz1, hz2⟩ := info_parts Try.info23
  have HM := hide' hm
  have HF := hide' hfill
  clear hm hfill
  go_enter Try.func18, Try.ntmps18
  go_wp2
  go_loopw [0, 6, 7] (fun b out i wr => ∃ (k : Nat) (a' : Option Addr) (left cap' : Nat) (cells : List Value), k ≤ m ∧ i = .int .i64 k ∧ b = .slice a' left cap' ∧ left ≤ cap' ∧ Hid (fillL (zs.drop k) left = false) ∧ wr.ownsRow w.heap.size 23 1 out k cells ∧ Below w.heap.size w wr) (fun _ _ i _ => m - (intOf i).toNat)
  case atStart => exact ⟨0, a, n, cap, [], Nat.zero_le _, rfl, rfl, hcap, HF, World.ownsRow_nil _ _ _ _, Below.refl _ _⟩
  case round =>
    obtain ⟨k, a', left, cap', cells, hk, rfl, rfl, hlc, HL, hown, hb⟩ := hrel
    clear HF
    by_cases hlt : k < m
    · have hkl : k < zs.length := by rw [HM.out]; exact hlt
      have hck := (hb.cell (p := ⟨bz, oz + k, none⟩) hbz).trans (hz k hkl)
      have HD := hide' (fillL_drop zs k left hkl)
      rw [show zs.getD k 0 = zs[k] from by simp [hkl]] at hck
      generalize zs[k] = s at *
      by_cases hs : s < 0
      · go_wp2
        go_ret2
        exact ⟨rfl, hb⟩
      · by_cases hs2 : (left : Int) < s
        · go_wp2
          go_ret2
          exact ⟨rfl, hb⟩
        · obtain ⟨t, rfl⟩ := Int.eq_ofNat_of_zero_le (show 0 ≤ s by omega)
          have s1 := sl_head a' left cap' t (by omega)
          have s2 := sl_tail a' left cap' t (by omega)
          have hS := hb.size
          have ht : t ≤ left := by omega
          have HL2 : Hid (fillL (zs.drop (k + 1)) ((left - t : Nat) : Int) = false) := by
            have := HL.out
            rw [HD.out, if_neg (by omega)] at this
            rw [show ((left - t : Nat) : Int) = (left : Int) - t by omega]
            exact this
          go_wp2_with (at_builtin; refine wpList_append_own _ rfl _ _ 38 rfl w.heap.size 23 i0 (.slice none 0 0) 1 24 Try.underlying38 hi hz0 hz1 hz2 rfl (by decide) _ _ _ rfl (hown.alloc _) ⟨wr.heap.size, 0, none⟩ 1 1 [.slice a' t cap'] rfl rfl ?c1 ?c2 ?c3 ?c4 ?c5 ?_)
          case c2 => rfl
          case c3 => unfold maxLen; omega
          case c4 => omega
          case c5 => omega
          · intro v' w1 hown' hgrow _
            have hb' : Below w.heap.size w w1 := Below.grown (hb.alloc hS _) hgrow (by simp; omega) (own_block' hown)
            have hck1 : w1.cell? ⟨bz, oz + k, none⟩ = some (.int .i64 t) := (hb'.cell (p := ⟨bz, oz + k, none⟩) hbz).trans ((hb.cell (p := ⟨bz, oz + k, none⟩) hbz).symm.trans hck)
            clear hgrow hown hb hck
            go_wp2
            go_roundw
            case rel => exact ⟨k + 1, _, _, _, _, hlt, by go_num, rfl, by omega, HL2, hown', hb'⟩
            case measure => simp [intOf]; omega
    · have hl : 0 < left := by
        have := HL.out
        rw [List.drop_eq_nil_of_le (by rw [HM.out]; omega), fillL] at this
        simp at this
        omega
      go_wp2
      go_ret2
      exact ⟨rfl, hb⟩
end Go.Proofs.Ytbekiajnkmlokaa
