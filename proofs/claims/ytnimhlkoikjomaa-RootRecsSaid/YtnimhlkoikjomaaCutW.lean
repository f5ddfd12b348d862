/- What wire.Cut comes to, by bytes in memory. -/
import Derived.Test.YtnimhlkoikjomaaCutF
import Derived.Test.YtnimhlkoikjomaaRegion
namespace Go.Proofs.Ytnimhlkoikjomaa
open Go.RowKit
set_option maxRecDepth 20000

/-- Where row k begins. -/
def cutA (ns : List Nat) (k : Nat) : Nat := (ns.take k).sum
/-- Row k. -/
def cutP (xs : List Int) (ns : List Nat) (k : Nat) : List Int := (xs.drop (cutA ns k)).take (ns.getD k 0)
theorem cutA_succ (ns : List Nat) (k : Nat) (hk : k < ns.length) : cutA ns (k + 1) = cutA ns k + ns.getD k 0 := by
  unfold cutA
  rw [List.take_succ_eq_append_getElem hk, List.sum_append]
  simp [hk]
theorem cutA_le (ns : List Nat) (k : Nat) : cutA ns k ≤ ns.sum := by
  unfold cutA
  have h := List.take_append_drop k ns
  have : (ns.take k ++ ns.drop k).sum = ns.sum := by rw [h]
  rw [List.sum_append] at this
  omega
theorem cutP_length (xs : List Int) (ns : List Nat) (k : Nat) (hk : k < ns.length) (hs : ns.sum = xs.length) : (cutP xs ns k).length = ns.getD k 0 := by
  have := cutA_succ ns k hk
  have := cutA_le ns (k + 1)
  unfold cutP
  rw [List.length_take, List.length_drop]
  omega

theorem fill_nats : ∀ (zs : List Int) (n : Nat), fillL zs n = true → ∃ ns : List Nat, zs = ns.map Int.ofNat ∧ ns.sum = n := by
  intro zs
  induction zs with
  | nil => intro n h; exact ⟨[], rfl, by simp [fillL] at h; simp; omega⟩
  | cons s r ih =>
    intro n h
    rw [fillL] at h
    split at h
    · simp at h
    · rename_i hc
      obtain ⟨k, rfl⟩ := Int.eq_ofNat_of_zero_le (show 0 ≤ s by omega)
      obtain ⟨ns, rfl, hs⟩ := ih (n - k) (by rw [show ((n - k : Nat) : Int) = (n : Int) - k by omega]; exact h)
      exact ⟨k :: ns, rfl, by simp; omega⟩

/-- Of the rows that are to come, k are there: block N has their slices, each slice a block of its own. -/
def CutsTo (w : World) (N m k : Nat) (P : Nat → List Int) : Prop :=
  ∃ f, w.rowIs N 28 m f ∧ ∀ j, j < k → ∃ g, N < g ∧ f j = .slice (some ⟨g, 0, none⟩) (P j).length (P j).length ∧ Row w g (P j)

theorem Row.alloc {w : World} {g : Nat} {cur : List Int} (h : Row w g cur) (o : Obj) : Row (w.alloc o) g cur := h.below ((Below.refl w.heap.size w).alloc (Nat.le_refl _) o) h.lt
theorem Row.setOther {w : World} {g : Nat} {cur : List Int} (h : Row w g cur) {a : Addr} (ha : g ≠ a.block) (v : Value) : Row (w.setCell a v) g cur := (Below.heap_setCell w a v g ha).trans h

theorem cuts_step {w w1 w' : World} {N m k : Nat} {P : Nat → List Int} (o : Obj) (hk : k < m) (h : CutsTo w N m k P)
    (h1 : w1 = (w.setCell ⟨N, k, none⟩ (.slice (some ⟨w.heap.size, 0, none⟩) (P k).length (P k).length)).alloc o)
    (hr : Row w' w.heap.size (P k)) (hb : Below w.heap.size w1 w') : CutsTo w' N m (k + 1) P := by
  obtain ⟨f, hf, hg⟩ := h
  have hN := hf.lt
  have hf1 := (hf.set k (.slice (some ⟨w.heap.size, 0, none⟩) (P k).length (P k).length)).alloc o
  rw [← h1] at hf1
  refine ⟨_, hf1.of_block (hb.block N hN), fun j hj => ?_⟩
  by_cases e : j = k
  · subst e
    exact ⟨w.heap.size, hN, by simp, hr⟩
  · obtain ⟨g, hg1, hg2, hg3⟩ := hg j (by omega)
    refine ⟨g, hg1, by simp [e, hg2], ?_⟩
    have hlt := hg3.lt
    have hx : Row w1 g (P j) := by rw [h1]; exact (hg3.setOther (a := ⟨N, k, none⟩) (by simp only; omega) _).alloc o
    exact hx.below hb hlt

theorem Try.info28 : (Try.prog.info? 28).map (fun i => (i.zero, i.size, i.bytes)) = some (some (.slice none 0 0), 1, 24) := by kernel_rfl

theorem cuts_start (w : World) (m : Nat) (P : Nat → List Int) : CutsTo (w.alloc (.cells (madeCells #[.slice none 0 0] m) 28)) w.heap.size m 0 P :=
  ⟨_, World.rowIs_made w _ m 28, fun j hj => by omega⟩

/-- copy of n bytes into a row of the call's own, where n may be 0 and the source then anything. -/
theorem wp_copy0 {o : Oper} {a : Act} {w : World} {K : Act → World → Prop} {Q : Exit → Act → World → Prop} (hgd : o.guard = none) (d s : Operand)
    (ho : o.op = .call { callee := .builtin .copy, args := #[d, s], argTypes := #[28, 28] }) (g dCap n sCap : Nat) (sa : Option Addr)
    (hd : a.eval d = .slice (some ⟨g, 0, none⟩) n dCap) (hs : a.eval s = .slice sa n sCap) (xs : List Int)
    (hg : Row w g (List.replicate n 0)) (hn : xs.length = n) (hat : 0 < n → ∃ b so, sa = some ⟨b, so, none⟩ ∧ At w b so xs) (w0 : World) (hb : Below g w0 w)
    (h : ∀ w', Row w' g xs → Below g w0 w' → K (a.put o.dst (goInt n)) w') : Oper.wp Try.prog o a w K Q := by
  have hw : Region.wanted o (yielded #[] a.tmps) = true := by simp [Region.wanted, hgd]
  have e : (xs.map (Value.int .u8)).length = n := by simp [hn]
  have := step_copy_splice (P := Try.prog) (ops := #[]) (o := o) (a := a) (w := w) (K := K) (Q := Q) (E := False) hgd d s 28 28 ho 5 Try.underlying28 (by kernel_rfl) (some ⟨g, 0, none⟩) sa n dCap n sCap hd hs g 0
    ((List.replicate n 0).map (Value.int .u8)) 5 hg (xs.map (Value.int .u8)) (by rw [e]; simp) (fun hpos => by
      obtain ⟨b, so, rfl, hat2⟩ := hat (by omega)
      refine ⟨rfl, _, rfl, fun j v hj => ?_⟩
      have hj' : j < xs.length := by
        rcases Nat.lt_or_ge j xs.length with h | h
        · exact h
        · simp [List.getElem?_eq_none (show (xs.map (Value.int .u8)).length ≤ j by simpa using h)] at hj
      have hplain : (⟨b, so, none⟩ : Addr).add j = ⟨b, so + j, none⟩ := by unfold Addr.add; split <;> simp_all
      rw [hplain, hat2 j hj']
      simp [List.getElem?_eq_getElem hj'] at hj
      simp [← hj, List.getElem?_eq_getElem hj']) (by rw [e]; simp) (fun v hv => by
      obtain ⟨x, _, rfl⟩ := List.mem_map.1 hv
      rfl) g w0 hb (Nat.le_refl _) (fun w' hr hb' => by
      rw [e]
      refine h w' ?_ hb'
      have := hr.out
      rw [splice_map] at this
      have e2 : splice (List.replicate n (0 : Int)) 0 xs = xs := by
        unfold splice
        rw [List.take_zero, List.nil_append, List.drop_eq_nil_of_le (by simp [hn]), List.append_nil]
      rw [e2] at this
      exact this)
  rw [if_pos hw] at this
  exact this

set_option maxHeartbeats 400000 in
theorem cut_no (a az : Option Addr) (n cap m capz : Nat) (w : World) (hf : Calls Try.prog 29 #[.slice az m capz, .int .i64 n] w fun e w'' => e = .returned (.bool false) ∧ w'' = w) :
    Calls Try.prog 23 #[.slice a n cap, .slice az m capz] w fun e w' => e = .returned (.tuple #[.slice none 0 0, .bool false]) ∧ w' = w := by
  have HF := hide' hf
  clear hf
  go_enter Try.func23, Try.ntmps23
  go_wp2_with fail
  refine HF.out.mono ?_
  rintro e w1 ⟨rfl, rfl⟩
  go_wp2
  go_ret2
  exact ⟨rfl, rfl⟩

set_option maxHeartbeats 2000000 in
theorem cut_yes (b off n cap : Nat) (xs : List Int) (az : Option Addr) (m capz : Nat) (ns : List Nat) (w : World) (hn : xs.length = n) (hn1 : n ≤ 1000) (hcap : n ≤ cap) (hcm : cap ≤ 9223372036854775807) (hbw : b < w.heap.size) (hat : At w b off xs)
    (hm : ns.length = m) (hm1 : m ≤ 1000) (hsum : ns.sum = n) (hz : 0 < m → ∃ bz oz, az = some ⟨bz, oz, none⟩ ∧ bz < w.heap.size ∧ AtI w bz oz (ns.map Int.ofNat))
    (hf : ∀ w', Below w.heap.size w w' → Calls Try.prog 29 #[.slice az m capz, .int .i64 n] w' fun e w'' => e = .returned (.bool true) ∧ w'' = w') :
    Calls Try.prog 23 #[.slice (some ⟨b, off, none⟩) n cap, .slice az m capz] w fun e w' => e = .returned (.tuple #[.slice (some ⟨w.heap.size, 0, none⟩) m m, .bool true]) ∧ CutsTo w' w.heap.size m m (cutP xs ns) ∧ Below w.heap.size w w' := by
  have HF := hide' hf
  have hmk2 := run_make_row' (P := Try.prog) 50 28 (.slice none 0 0) 24 Try.underlying50 Try.info28 rfl .i64 .i64 m (by omega) (by omega)
  clear hf
  have HM : Hid (ns.length = m) := hm
  have HN : Hid (xs.length = n) := hn
  have HS : Hid (ns.sum = n) := hsum
  clear hm hn hsum
  go_enter Try.func23, Try.ntmps23
  go_wp2_with fail
  refine (HF.out _ (Below.refl _ _)).mono ?_
  rintro e w1 ⟨rfl, rfl⟩
  go_wp2
  go_loopw [7, 20] (fun at_ i wr => ∃ k : Nat, k ≤ m ∧ i = .int .i64 k ∧ at_ = .int .i64 (cutA ns k : Nat) ∧ CutsTo wr w1.heap.size m k (cutP xs ns) ∧ Below w1.heap.size w1 wr) (fun _ i _ => m - (intOf i).toNat)
  case atStart => exact ⟨0, Nat.zero_le _, rfl, rfl, cuts_start w1 m _, (Below.refl _ _).alloc (Nat.le_refl _) _⟩
  case round =>
    obtain ⟨k, hk, rfl, rfl, hcuts, hb⟩ := hrel
    by_cases hlt : k < m
    · obtain ⟨bz, oz, haz, hbz, hzs⟩ := hz (by omega)
      subst haz
      have hck := (hb.cell (p := ⟨bz, oz + k, none⟩) hbz).trans (hzs k (by rw [List.length_map, HM.out]; exact hlt))
      have hkl : k < ns.length := by rw [HM.out]; exact hlt
      have e1 : (ns.map Int.ofNat).getD k 0 = ((ns.getD k 0 : Nat) : Int) := by simp [hkl]
      rw [e1] at hck
      have HP1 := hide' (cutA_succ ns k hkl)
      have hp2 : cutA ns k + ns.getD k 0 ≤ n := by have := cutA_le ns (k + 1); rw [HP1.out, HS.out] at this; exact this
      have HPL : Hid ((cutP xs ns k).length = ns.getD k 0) := by rw [Hid, cutP_length xs ns k hkl (by rw [HS.out, HN.out])]
      have HPC : Hid (cutP xs ns k = (xs.drop (cutA ns k)).take (ns.getD k 0)) := rfl
      generalize hsv : ns.getD k 0 = s at *
      clear hsv e1
      generalize cutA ns k = at0 at *
      obtain ⟨f, hrow, hrest⟩ := hcuts
      have hN := hrow.lt
      have hce := hrow.cell hlt
      have hfr := hrow.frozen k
      have hmk1 := run_make_row' (P := Try.prog) 28 5 (.int .u8 0) 1 Try.underlying28 Try.info5 rfl .i64 .i64 s (by omega) (by omega)
      have hnew : w1.heap.size ≠ wr.heap.size := by omega
      have hce1 := fun o => (hrow.alloc o).cell hlt
      have hfr1 := fun o => (hrow.alloc o).frozen k
      go_wp2
      obtain ⟨W0, hW0⟩ : ∃ W0, W0 = (wr.setCell ⟨w1.heap.size, k, none⟩ (.slice (some ⟨wr.heap.size, 0, none⟩) s s)).alloc (.cells (madeCells #[.int .u8 0] s) 5) := ⟨_, rfl⟩
      have hcell : W0.cell? ⟨w1.heap.size, k, none⟩ = some (.slice (some ⟨wr.heap.size, 0, none⟩) s s) := by rw [hW0]; exact (((hrow.set k _).alloc _).cell hlt).trans (by simp)
      have hR0 := Row.made (wr.setCell ⟨w1.heap.size, k, none⟩ (.slice (some ⟨wr.heap.size, 0, none⟩) s s)) s
      rw [World.size_setCell, ← hW0] at hR0
      have hbW : Below w1.heap.size w1 W0 := by rw [hW0]; exact (hb.setCell (Nat.le_refl _) _).alloc (by rw [World.size_setCell]; omega) _
      have hat0 := hat.below hbW hbw
      have HW := hide' hW0
      rw [← hW0]
      clear hW0 hce hfr hmk1 hce1 hfr1 hck
      have a0 : (0 : Int) ≤ (at0 : Int) := by omega
      have a1 : (at0 : Int) + (s : Int) ≤ (cap : Int) := by omega
      have a3 : (0 : Int) ≤ (at0 : Int) + (s : Int) := by omega
      have hw1 : IntKind.i64.wrap ((at0 : Int) + (s : Int)) = (at0 : Int) + (s : Int) := by rw [IntKind.wrap_i64]; omega
      have hw2 : ((at0 : Int) + (s : Int)).toNat = at0 + s := by omega
      by_cases hca : cap = at0
      · have HS0 := hide' (show s = 0 by omega)
        have a4 : (at0 : Int) + (s : Int) ≤ (at0 : Int) := by omega
        refine wp_region_held_drew (S := fun w' => w'.cell? ⟨w1.heap.size, k, none⟩ = some (.slice (some ⟨wr.heap.size, 0, none⟩) s s)) (by kernel_rfl) hcell (fun hHeld => ?_)
        refine takeM 0 30 6 rfl rfl rfl (by kernel_rfl) (by kernel_rfl) (by kernel_rfl) (fun _ _ _ h => h) (by rfl) hHeld rfl ?_
        simp only [List.set_cons_succ, List.set_cons_zero]
        refine takeM 1 31 8 rfl rfl rfl (by kernel_rfl) (by kernel_rfl) (by kernel_rfl) (fun _ _ _ h => h) (by rfl) hHeld rfl ?_
        simp only [List.set_cons_succ, List.set_cons_zero]
        refine takeL 2 32 (v := ?_) rfl rfl (by kernel_rfl) (by kernel_rfl) (by kernel_rfl) (fun _ _ _ h => h) (by rfl) hHeld (fun w hSw => ?_) ?_
        rotate_left 1
        · (try dsimp only at hSw); go_simp; try with_reducible rfl
        simp only [List.set_cons_succ, List.set_cons_zero]
        refine takeL 3 33 (v := ?_) rfl rfl (by kernel_rfl) (by kernel_rfl) (by kernel_rfl) (fun _ _ _ h => h) (by rfl) hHeld (fun w hSw => ?_) ?_
        rotate_left 1
        · (try dsimp only at hSw); go_simp; try with_reducible rfl
        simp only [List.set_cons_succ, List.set_cons_zero]
        refine takeM 4 34 0 rfl rfl rfl (by kernel_rfl) (by kernel_rfl) (by kernel_rfl) (fun _ _ _ h => h) (by rfl) hHeld rfl ?_
        simp only [List.set_cons_succ, List.set_cons_zero]
        refine takeM 5 35 7 rfl rfl rfl (by kernel_rfl) (by kernel_rfl) (by kernel_rfl) (fun _ _ _ h => h) (by rfl) hHeld rfl ?_
        simp only [List.set_cons_succ, List.set_cons_zero]
        refine takeM 6 36 7 rfl rfl rfl (by kernel_rfl) (by kernel_rfl) (by kernel_rfl) (fun _ _ _ h => h) (by rfl) hHeld rfl ?_
        simp only [List.set_cons_succ, List.set_cons_zero]
        refine takeM 7 37 9 rfl rfl rfl (by kernel_rfl) (by kernel_rfl) (by kernel_rfl) (fun _ _ _ h => h) (by rfl) hHeld rfl ?_
        simp only [List.set_cons_succ, List.set_cons_zero]
        refine takeL 8 38 (v := ?_) rfl rfl (by kernel_rfl) (by kernel_rfl) (by kernel_rfl) (fun _ _ _ h => h) (by rfl) hHeld (fun w hSw => ?_) ?_
        rotate_left 1
        · (try dsimp only at hSw); go_simp; try with_reducible rfl
        simp only [List.set_cons_succ, List.set_cons_zero]
        refine takeL 9 39 (v := ?_) rfl rfl (by kernel_rfl) (by kernel_rfl) (by kernel_rfl) (fun _ _ _ h => h) (by rfl) hHeld (fun w hSw => ?_) ?_
        rotate_left 1
        · (try dsimp only at hSw); go_simp; try with_reducible rfl
        simp only [List.set_cons_succ, List.set_cons_zero]
        refine onlyL 10 rfl (by kernel_rfl) (by rfl) (fun K hK => ?_)
        refine wp_copy0 rfl (.tmp 33) (.tmp 39) rfl wr.heap.size s s _ (some ⟨b, off, none⟩) rfl rfl (cutP xs ns k) (show Row W0.drew _ _ from hR0) HPL.out (fun h => absurd h (by rw [HS0.out]; omega)) W0 (Below.refl _ _).drew (fun w2 hR2 hB2 => ?_)
        refine hK.out _ _ ((hB2.cell (p := ⟨w1.heap.size, k, none⟩) (by simp only; omega)).trans hcell) (fun hHeld => ?_)
        have hstep : CutsTo w2 w1.heap.size m (k + 1) (cutP xs ns) := cuts_step _ hlt ⟨f, hrow, hrest⟩ (by rw [HPL.out]; exact HW.out) hR2 hB2
        have hb' := hbW.trans (hB2.mono (by omega))
        clear hK K hrow hrest hR0 hcell hHeld hca
        refine wpAnyH_done (by kernel_rfl) ?_ _
        go_wp2
        go_roundw
        case rel => exact ⟨k + 1, hlt, by go_num, by rw [HP1.out]; go_num, hstep, hb'⟩
        case measure => simp [intOf]; omega
      · skip
        refine wp_region_held_drew (S := fun w' => w'.cell? ⟨w1.heap.size, k, none⟩ = some (.slice (some ⟨wr.heap.size, 0, none⟩) s s)) (by kernel_rfl) hcell (fun hHeld => ?_)
        refine takeM 0 30 6 rfl rfl rfl (by kernel_rfl) (by kernel_rfl) (by kernel_rfl) (fun _ _ _ h => h) (by rfl) hHeld rfl ?_
        simp only [List.set_cons_succ, List.set_cons_zero]
        refine takeM 1 31 8 rfl rfl rfl (by kernel_rfl) (by kernel_rfl) (by kernel_rfl) (fun _ _ _ h => h) (by rfl) hHeld rfl ?_
        simp only [List.set_cons_succ, List.set_cons_zero]
        refine takeL 2 32 (v := ?_) rfl rfl (by kernel_rfl) (by kernel_rfl) (by kernel_rfl) (fun _ _ _ h => h) (by rfl) hHeld (fun w hSw => ?_) ?_
        rotate_left 1
        · (try dsimp only at hSw); go_simp; try with_reducible rfl
        simp only [List.set_cons_succ, List.set_cons_zero]
        refine takeL 3 33 (v := ?_) rfl rfl (by kernel_rfl) (by kernel_rfl) (by kernel_rfl) (fun _ _ _ h => h) (by rfl) hHeld (fun w hSw => ?_) ?_
        rotate_left 1
        · (try dsimp only at hSw); go_simp; try with_reducible rfl
        simp only [List.set_cons_succ, List.set_cons_zero]
        refine takeM 4 34 0 rfl rfl rfl (by kernel_rfl) (by kernel_rfl) (by kernel_rfl) (fun _ _ _ h => h) (by rfl) hHeld rfl ?_
        simp only [List.set_cons_succ, List.set_cons_zero]
        refine takeM 5 35 7 rfl rfl rfl (by kernel_rfl) (by kernel_rfl) (by kernel_rfl) (fun _ _ _ h => h) (by rfl) hHeld rfl ?_
        simp only [List.set_cons_succ, List.set_cons_zero]
        refine takeM 6 36 7 rfl rfl rfl (by kernel_rfl) (by kernel_rfl) (by kernel_rfl) (fun _ _ _ h => h) (by rfl) hHeld rfl ?_
        simp only [List.set_cons_succ, List.set_cons_zero]
        refine takeM 7 37 9 rfl rfl rfl (by kernel_rfl) (by kernel_rfl) (by kernel_rfl) (fun _ _ _ h => h) (by rfl) hHeld rfl ?_
        simp only [List.set_cons_succ, List.set_cons_zero]
        refine takeL 8 38 (v := ?_) rfl rfl (by kernel_rfl) (by kernel_rfl) (by kernel_rfl) (fun _ _ _ h => h) (by rfl) hHeld (fun w hSw => ?_) ?_
        rotate_left 1
        · (try dsimp only at hSw); go_simp; try with_reducible rfl
        simp only [List.set_cons_succ, List.set_cons_zero]
        refine takeL 9 39 (v := ?_) rfl rfl (by kernel_rfl) (by kernel_rfl) (by kernel_rfl) (fun _ _ _ h => h) (by rfl) hHeld (fun w hSw => ?_) ?_
        rotate_left 1
        · (try dsimp only at hSw); go_simp; try with_reducible rfl
        simp only [List.set_cons_succ, List.set_cons_zero]
        refine onlyL 10 rfl (by kernel_rfl) (by rfl) (fun K hK => ?_)
        refine wp_copy0 rfl (.tmp 33) (.tmp 39) rfl wr.heap.size s s _ (some ⟨b, off + at0, none⟩) rfl rfl (cutP xs ns k) (show Row W0.drew _ _ from hR0) HPL.out (fun _ => ⟨b, off + at0, rfl, by rw [HPC.out]; exact At.cut1 (At.cut2 (show At W0.drew b off xs from hat0) at0) s (by rw [List.length_drop, HN.out]; omega)⟩) W0 (Below.refl _ _).drew (fun w2 hR2 hB2 => ?_)
        refine hK.out _ _ ((hB2.cell (p := ⟨w1.heap.size, k, none⟩) (by simp only; omega)).trans hcell) (fun hHeld => ?_)
        have hstep : CutsTo w2 w1.heap.size m (k + 1) (cutP xs ns) := cuts_step _ hlt ⟨f, hrow, hrest⟩ (by rw [HPL.out]; exact HW.out) hR2 hB2
        have hb' := hbW.trans (hB2.mono (by omega))
        clear hK K hrow hrest hR0 hcell hHeld hca
        refine wpAnyH_done (by kernel_rfl) ?_ _
        go_wp2
        go_roundw
        case rel => exact ⟨k + 1, hlt, by go_num, by rw [HP1.out]; go_num, hstep, hb'⟩
        case measure => simp [intOf]; omega
    · go_wp2
      have hkm : k = m := by omega
      subst hkm
      go_ret2
      exact ⟨rfl, hcuts, hb⟩
end Go.Proofs.Ytnimhlkoikjomaa
