/- What the program's gcm.pairs comes to. -/
import Derived.Test.YtkkehbebaokdmaaRefGcm
import Derived.Test.YtkkehbebaokdmaaBWire
namespace Go.Proofs.Ytkkehbebaokdmaa
open Go.RowKit
set_option maxRecDepth 20000

/-- Block g is an array of these bytes, none frozen. -/
def RowT (w : World) (g t : Nat) (cur : List Int) : Prop := w.heap[g]? = some (.cells (cur.map (Value.int .u8)).toArray t (0, 0))
theorem RowT.at {w : World} {g t : Nat} {cur : List Int} (h : RowT w g t cur) : At w g 0 cur := by
  intro i hi
  unfold RowT at h
  simp [World.cell?, h, hi]
theorem RowT.lt {w : World} {g t : Nat} {cur : List Int} (h : RowT w g t cur) : g < w.heap.size := by
  obtain ⟨hlt, _⟩ := Array.getElem?_eq_some_iff.1 h
  exact hlt
theorem RowT.below {w w' : World} {B g t : Nat} {cur : List Int} (h : RowT w g t cur) (hb : Below B w w') (hB : g < B) : RowT w' g t cur := (hb.block g hB).trans h
/-- copy of bytes into an array of the call's own: as many as fit. -/
theorem wp_copyT {o : Oper} {a : Act} {w : World} {K : Act → World → Prop} {Q : Exit → Act → World → Prop} (hgd : o.guard = none) (d s : Operand)
    (ho : o.op = .call { callee := .builtin .copy, args := #[d, s], argTypes := #[27, 27] }) (g t off dl dCap n b so sCap : Nat)
    (hd : a.eval d = .slice (some ⟨g, off, none⟩) dl dCap) (hs : a.eval s = .slice (some ⟨b, so, none⟩) n sCap) (cur xs : List Int)
    (hg : RowT w g t cur) (hn : xs.length = n) (hat : At w b so xs) (hfit : off + min n dl ≤ cur.length) (B : Nat) (w0 : World) (hb : Below B w0 w) (hBg : B ≤ g)
    (h : ∀ w', RowT w' g t (splice cur off (xs.take dl)) → Below B w0 w' → K (a.put o.dst (goInt (min n dl : Nat))) w') : Oper.wp Try.prog o a w K Q := by
  have hw : Region.wanted o (yielded #[] a.tmps) = true := by simp [Region.wanted, hgd]
  have e : ((xs.take dl).map (Value.int .u8)).length = min n dl := by simp [hn, Nat.min_comm]
  have := step_copy_splice (P := Try.prog) (ops := #[]) (o := o) (a := a) (w := w) (K := K) (Q := Q) (E := False) hgd d s 27 27 ho 5 Try.underlying27 (by kernel_rfl) (some ⟨g, off, none⟩) (some ⟨b, so, none⟩) dl dCap n sCap hd hs g off
    (cur.map (Value.int .u8)) t hg ((xs.take dl).map (Value.int .u8)) (by rw [e]) (fun _ => ⟨rfl, _, rfl, (hat.cut1' dl).news⟩) (by rw [e]; simpa using hfit) (one_cells _) B w0 hb hBg (fun w' hr hb' => by
      rw [e]
      refine h w' ?_ hb'
      have := hr.out
      rw [splice_map] at this
      exact this)
  rw [if_pos hw] at this
  exact this

theorem six_pad (xs : List Int) (q k : Nat) (hq : q = 16 * k) (hk : q < xs.length) : splice (List.replicate 16 (0 : Int)) 0 ((xs.drop q).take 16) = six (padL xs) k := by
  subst hq
  unfold splice six padL padN
  apply List.ext_getElem?
  intro i
  simp only [List.getElem?_append, List.getElem?_take, List.getElem?_drop, List.getElem?_replicate, List.length_take, List.length_drop, List.length_nil, List.take_zero]
  repeat' split
  all_goals first | rfl | omega | (congr 1; omega) | (simp; omega)

set_option maxRecDepth 10000 in
set_option maxHeartbeats 4000000 in
theorem ipairs (xs : List Int) (x : Option Addr) (n c : Nat) (hn : n ≤ 5000) (hc : n ≤ c) (bx : Bytes xs) (w : World) (sx : SAt w x n xs) : Calls Try.prog 70 #[.slice x n c] w fun e w' => ∃ v, e = .returned v ∧ w'.ownsRow w.heap.size 30 2 v ((n + 15) / 16) (fl (prs xs)) ∧ Below w.heap.size w w' := by
  have hxl := sx.1
  have HT := hide' (prs_take xs)
  go_enter Try.func70, Try.ntmps70
  go_wp2_with fail
  go_loopw [3, 4] (fun l i wr => ∃ k q : Nat, Hid (q = 16 * k) ∧ q < n + 16 ∧ i = .int .i64 (q : Int) ∧ wr.ownsRow w.heap.size 30 2 l k (fl ((prs xs).take k)) ∧ Below w.heap.size w wr) (fun _ i _ => 6000 - (intOf i).toNat)
  case atStart => exact ⟨0, 0, rfl, by omega, rfl, World.ownsRow_nil _ _ _ _, Below.refl _ _⟩
  case round =>
    obtain ⟨k, q, HQ, hq, rfl, own3, hb3⟩ := hrel
    by_cases hlt : q < n
    · have hk : k < (xs.length + 15) / 16 := by
        have := HQ.out
        omega
      have hk2 := HT.out k hk
      have c1 : (q : Int) ≤ (n : Int) := by omega
      have c2 : ¬ c = q := by omega
      obtain ⟨b, o, rfl, hbl, hat⟩ := sx.2 (by omega)
      have HX := hide' (six_pad xs q k HQ.out (by omega))
      go_wp2_with fail
      have hR : RowT (wr.alloc (.cells #[.int .u8 0, .int .u8 0, .int .u8 0, .int .u8 0, .int .u8 0, .int .u8 0, .int .u8 0, .int .u8 0, .int .u8 0, .int .u8 0, .int .u8 0, .int .u8 0, .int .u8 0, .int .u8 0, .int .u8 0, .int .u8 0] 105)) wr.heap.size 105 (List.replicate 16 0) := by
        unfold RowT
        show (wr.heap.push _)[wr.heap.size]? = _
        simp [List.replicate]
      have hA : Below wr.heap.size wr (wr.alloc (.cells #[.int .u8 0, .int .u8 0, .int .u8 0, .int .u8 0, .int .u8 0, .int .u8 0, .int .u8 0, .int .u8 0, .int .u8 0, .int .u8 0, .int .u8 0, .int .u8 0, .int .u8 0, .int .u8 0, .int .u8 0, .int .u8 0] 105)) := (Below.refl _ _).alloc (Nat.le_refl _) _
      have hlt1 := hR.lt
      generalize wr.alloc (.cells #[.int .u8 0, .int .u8 0, .int .u8 0, .int .u8 0, .int .u8 0, .int .u8 0, .int .u8 0, .int .u8 0, .int .u8 0, .int .u8 0, .int .u8 0, .int .u8 0, .int .u8 0, .int .u8 0, .int .u8 0, .int .u8 0] 105) = w1 at *
      have hsz := hb3.size
      replace hb3 := hb3.trans (hA.mono hsz)
      replace hat := hat.below hb3 hbl
      refine wp_region_held_drew (S := fun w' => Below wr.heap.size w1 w') (by kernel_rfl) (Below.refl _ _).drew (fun hHeld => ?_)
      refine takeL 0 14 (v := ?_) rfl rfl (by kernel_rfl) (by kernel_rfl) (by kernel_rfl) (fun _ _ _ h => h) (by rfl) hHeld (fun w hSw => ?_) ?_
      rotate_left 1
      · (try dsimp only at hSw)
        clear hSw
        go_simp
        try with_reducible rfl
      simp only [List.set_cons_succ, List.set_cons_zero]
      refine takeM 1 15 0 rfl rfl rfl (by kernel_rfl) (by kernel_rfl) (by kernel_rfl) (fun _ _ _ h => h) (by rfl) hHeld rfl ?_
      simp only [List.set_cons_succ, List.set_cons_zero]
      refine takeM 2 16 4 rfl rfl rfl (by kernel_rfl) (by kernel_rfl) (by kernel_rfl) (fun _ _ _ h => h) (by rfl) hHeld rfl ?_
      simp only [List.set_cons_succ, List.set_cons_zero]
      refine takeL 3 17 (v := ?_) rfl rfl (by kernel_rfl) (by kernel_rfl) (by kernel_rfl) (fun _ _ _ h => h) (by rfl) hHeld (fun w hSw => ?_) ?_
      rotate_left 1
      · (try dsimp only at hSw)
        clear hSw
        go_simp
        try with_reducible rfl
      simp only [List.set_cons_succ, List.set_cons_zero]
      refine onlyL 4 rfl (by kernel_rfl) (by rfl) (fun K hK => ?_)
      refine wp_copyT rfl (.tmp 14) (.tmp 17) rfl wr.heap.size 105 0 16 16 (n - q) b (o + q) (c - q) rfl rfl (List.replicate 16 0) (xs.drop q) hR (by rw [List.length_drop, hxl]) (hat.cut2 q) (by rw [List.length_replicate]; omega) wr.heap.size w1 (Below.refl _ _).drew (Nat.le_refl _) (fun w2 hR2 hb2 => ?_)
      rw [HX.out] at hR2
      have hg2 := hR2.lt
      refine hK.out _ _ hb2 (fun hHeld => ?_)
      clear hK K hR hHeld
      replace own3 := own_grown own3 (hA.trans hb2)
      replace hb3 := hb3.trans (hb2.mono hsz)
      clear hb2 hat hA
      refine wpAnyH_done (by kernel_rfl) ?_ _
      have hl16 := six_length (padL xs) k (by rw [padL_length]; omega)
      go_wp2_with fail
      refine (wpair wr.heap.size 0 16 _ _ hl16 (by omega) (by decide) (six_bytes (padL_bytes bx) k) hg2 hR2.at).mono ?_
      rintro e w4 ⟨rfl, hb4⟩
      replace own3 := own_grown own3 hb4
      replace hb3 := hb3.trans (hb4.mono hb3.size)
      clear hb4 hl16 hg2 hR2
      generalize pairOf (six (padL xs) k) = pq at *
      have hS4 := hb3.size
      have hprow : PRow ((w4.alloc (.cells #[.int .u64 (nv pq.1), .int .u64 (nv pq.2)] 30)).alloc (.cells #[.int .u64 (nv pq.1), .int .u64 (nv pq.2)] 30)) (some ⟨w4.heap.size + 1, 0, none⟩) 1 (fun _ => pq) := by
        have := (Box.new (w4.alloc (.cells #[.int .u64 (nv pq.1), .int .u64 (nv pq.2)] 30)) (nv pq.1) (nv pq.2)).prow
        rw [World.size_alloc] at this
        exact this
      have hk3 : k ≤ 5000 := by
        have := HQ.out
        omega
      go_wp2_with (at_builtin; refine wpList_appP rfl _ _ rfl w.heap.size _ k _ rfl ((own3.alloc _).alloc _) (some ⟨w4.heap.size + 1, 0, none⟩) 1 1 (fun _ => pq) rfl hprow (fun e => by cases e) (by omega) (by rw [World.size_alloc, World.size_alloc]; omega) ?_)
      intro v5 w5 own5 hb5
      replace hb3 := ((hb3.alloc hS4 _).alloc (by rw [World.size_alloc]; omega) _).trans hb5
      clear hb5 own3 hprow
      go_wp2
      go_roundw
      case rel =>
        refine ⟨k + 1, q + 16, ?_, by omega, by go_num, ?_, hb3⟩
        · have := HQ.out
          exact hide' (by omega)
        · rw [hk2, fl_append]
          exact own5
      case measure => simp [intOf]; omega
    · have hk : k = (n + 15) / 16 := by
        have := HQ.out
        omega
      have hall : (prs xs).take k = prs xs := List.take_of_length_le (by rw [prs_length, hxl]; omega)
      rw [hall, hk] at own3
      go_wp2
      go_ret
      exact ⟨_, rfl, own3, hb3⟩
end Go.Proofs.Ytkkehbebaokdmaa
