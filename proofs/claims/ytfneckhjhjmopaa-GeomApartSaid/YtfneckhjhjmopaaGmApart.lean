/- No two places overlap, all together are all of it. -/
import Derived.Test.YtfneckhjhjmopaaGmPlaces
import Derived.Deep.OwnRows
import Derived.Deep.Matrix
namespace Go.Proofs.Ytfneckhjhjmopaa
open Go.RowKit
set_option maxRecDepth 20000

/-- How often a byte is taken: those below p, and those from R to q. -/
def fS (p R q j : Nat) : Int := if j < p ∨ (R ≤ j ∧ j < q) then 1 else 0
theorem fS_range (p R q j : Nat) : 0 ≤ fS p R q j ∧ fS p R q j ≤ 1 := by
  unfold fS
  split <;> omega
theorem fS_p {p R q n : Nat} (h : p + n ≤ R) (j : Nat) : (if p ≤ j ∧ j < p + n then fS p R q j + 1 else fS p R q j) = fS (p + n) R q j := by
  unfold fS
  by_cases h1 : p ≤ j ∧ j < p + n
  · rw [if_pos h1, if_neg (by omega), if_pos (by omega)]
    rfl
  · rw [if_neg h1]
    by_cases h2 : j < p ∨ (R ≤ j ∧ j < q)
    · rw [if_pos h2, if_pos (by omega)]
    · rw [if_neg h2, if_neg (by omega)]
theorem fS_q {p R q n : Nat} (h : p ≤ R) (hq : R ≤ q) (j : Nat) : (if q ≤ j ∧ j < q + n then fS p R q j + 1 else fS p R q j) = fS p R (q + n) j := by
  unfold fS
  by_cases h1 : q ≤ j ∧ j < q + n
  · rw [if_pos h1, if_neg (by omega), if_pos (by omega)]
    rfl
  · rw [if_neg h1]
    by_cases h2 : j < p ∨ (R ≤ j ∧ j < q)
    · rw [if_pos h2, if_pos (by omega)]
    · rw [if_neg h2, if_neg (by omega)]
theorem Try.intInfo : (Try.prog.info? 3).map (fun i => (i.zero, i.size, i.bytes)) = some (some (.int .i64 0), 1, 8) := by kernel_rfl
theorem make_ints (n : Nat) (hn : n ≤ 100000) (w : World) : (Instr.makeSlice 32 (.int .i64 (n : Int)) (.int .i64 (n : Int))).run Try.prog w = .ok (.slice (some ⟨w.heap.size, 0, none⟩) n n) (w.alloc (.cells (madeCells #[.int .i64 0] n) 3)) := by
  obtain ⟨i0, hi, hz0, hz1, hz2⟩ := info_parts Try.intInfo
  have hr := run_make (P := Try.prog) w 32 3 i0 _ Try.underlying32 hi hz0 .i64 .i64 n n (by omega) (Int.le_refl _) (by rw [hz2]; omega) (by omega)
  rw [hz1, Nat.mul_one] at hr
  exact hr
set_option maxHeartbeats 1000000 in
theorem gmark (g sz pt n : Nat) (f : Nat → Int) (hn : pt + n ≤ sz) (hs : sz ≤ 100000) (hf : ∀ j, 0 ≤ f j ∧ f j ≤ 1) (w : World) (hr : w.rowIs g 3 sz (fun j => .int .i64 (f j))) :
    Calls Try.prog 18 #[.slice (some ⟨g, 0, none⟩) sz sz, .int .i64 (pt : Int), .int .i64 (n : Int)] w fun e w' => e = .returned (.bool true) ∧ w'.rowIs g 3 sz (fun j => .int .i64 (if pt ≤ j ∧ j < pt + n then f j + 1 else f j)) ∧ Off (fun k => k = g) w w' := by
  have h1 : ¬ (pt : Int) < 0 := by omega
  have h2 : IntKind.i64.wrap ((sz : Int) - n) = (sz : Int) - n := by
    rw [IntKind.wrap_i64]
    omega
  have h3 : ¬ (pt : Int) > (sz : Int) - n := by omega
  have h4 : IntKind.i64.wrap ((pt : Int) + n) = (pt : Int) + n := by
    rw [IntKind.wrap_i64]
    omega
  have HF := hide' hf
  clear hf
  go_enter Try.func18, Try.ntmps18
  go_wp2_with fail
  clear h1 h2 h3
  go_loopw [7] (fun i wr => ∃ k : Nat, pt ≤ k ∧ k ≤ pt + n ∧ i = .int .i64 (k : Int) ∧ wr.rowIs g 3 sz (fun j => .int .i64 (if pt ≤ j ∧ j < k then f j + 1 else f j)) ∧ Off (fun k => k = g) w wr) (fun i _ => pt + n - (intOf i).toNat)
  case atStart => exact ⟨pt, Nat.le_refl _, Nat.le_add_right _ _, rfl, hr.congr (fun j _ => by rw [if_neg (by omega)]), Off.refl _ _⟩
  case round =>
    clear hr
    obtain ⟨k, hk1, hk2, rfl, row, ho⟩ := hrel
    by_cases hlt : k < pt + n
    · have hlt' : (k : Int) < (pt : Int) + n := by omega
      have hlz : (k : Int) < sz := by omega
      have hw : IntKind.i64.wrap ((k : Int) + 1) = (k : Int) + 1 := by
        rw [IntKind.wrap_i64]
        omega
      obtain ⟨v, hv⟩ : ∃ v, f k = v := ⟨_, rfl⟩
      have hvr := HF.out k
      rw [hv] at hvr
      have hwv : IntKind.i64.wrap (v + 1) = v + 1 := by
        rw [IntKind.wrap_i64]
        omega
      have c0 : wr.cell? ⟨g, k, none⟩ = some (.int .i64 v) := by
        have := row.cell (i := k) (by omega)
        rw [if_neg (by omega), hv] at this
        exact this
      have f0 := row.frozen k
      have row2 := row.set k (.int .i64 (v + 1))
      have ho2 : Off (fun k => k = g) w (wr.setCell ⟨g, k, none⟩ (.int .i64 (v + 1))) := ho.setCell (p := ⟨g, k, none⟩) (Or.inl rfl) _
      clear row ho
      go_wp2
      go_roundw
      case rel =>
        refine ⟨k + 1, by omega, by omega, by go_num, row2.congr (fun j _ => ?_), ho2⟩
        by_cases e : j = k
        · subst e
          (try dsimp only)
          rw [if_pos rfl, if_pos (by omega), hv]
        · (try dsimp only)
          rw [if_neg e]
          by_cases h5 : pt ≤ j ∧ j < k
          · rw [if_pos h5, if_pos (by omega)]
          · rw [if_neg h5, if_neg (by omega)]
      case measure => simp [intOf]; omega
    · have hlt' : ¬ (k : Int) < (pt : Int) + n := by omega
      obtain rfl : k = pt + n := by omega
      go_wp2
      go_ret
      exact ⟨rfl, row, ho⟩
/-- The statement's own: its box of places, its row. -/
structure GS (A g sz N : Nat) (w wr : World) (p R q : Nat) : Prop where
  bx : CBox 23 wr A #[.int .i64 (N : Int)]
  row : wr.rowIs g 3 sz (fun j => .int .i64 (fS p R q j))
  hB : Below w.heap.size w wr
  ne : A ≠ g
  ge : w.heap.size ≤ g
section
variable {A g sz N : Nat} {w wr wr' : World} {p R q : Nat}
theorem GS.c0 (h : GS A g sz N w wr p R q) : wr.cell? ⟨A, 0, none⟩ = some (.int .i64 (N : Int)) := CBox.cell h.bx 0
theorem GS.quiet (h : GS A g sz N w wr p R q) (hb : Below wr.heap.size wr wr') : GS A g sz N w wr' p R q := ⟨CBox.grown h.bx hb, h.row.of_block (hb.block _ h.row.lt), h.hB.trans (hb.mono h.hB.size), h.ne, h.ge⟩
theorem GS.mark_p (h : GS A g sz N w wr p R q) (n : Nat) (hn : p + n ≤ R) (hR : R ≤ sz) (hs : sz ≤ 100000) : Calls Try.prog 18 #[.slice (some ⟨g, 0, none⟩) sz sz, .int .i64 (p : Int), .int .i64 (n : Int)] wr fun e w' => e = .returned (.bool true) ∧ GS A g sz N w w' (p + n) R q :=
  (gmark g sz p n (fS p R q) (by omega) hs (fS_range p R q) wr h.row).mono (by
    rintro e w' ⟨rfl, hr, ho⟩
    exact ⟨rfl, CBox.off h.bx ho h.ne, hr.congr (fun j _ => by rw [fS_p hn]), h.hB.trans (ho.below (fun k e => e ▸ h.ge) h.hB.size), h.ne, h.ge⟩)
theorem GS.mark_q (h : GS A g sz N w wr p R q) (n : Nat) (hp : p ≤ R) (hq : R ≤ q) (hR : q + n ≤ sz) (hs : sz ≤ 100000) : Calls Try.prog 18 #[.slice (some ⟨g, 0, none⟩) sz sz, .int .i64 (q : Int), .int .i64 (n : Int)] wr fun e w' => e = .returned (.bool true) ∧ GS A g sz N w w' p R (q + n) :=
  (gmark g sz q n (fS p R q) hR hs (fS_range p R q) wr h.row).mono (by
    rintro e w' ⟨rfl, hr, ho⟩
    exact ⟨rfl, CBox.off h.bx ho h.ne, hr.congr (fun j _ => by rw [fS_q hp hq]), h.hB.trans (ho.below (fun k e => e ▸ h.ge) h.hB.size), h.ne, h.ge⟩)
end
set_option maxHeartbeats 600000 in
theorem gmapart4 (hO : GmAll) (w : World) : Calls Try.prog 4 #[.int .i64 2] w fun e w' => e = .returned (.bool true) ∧ Below w.heap.size w w' := by
  have hsz := hO.size 4 (I64.small (by decide) (by decide))
  rw [show gmSize 4 = 760 from by decide] at hsz
  have hkn := gmknown hO
  have hmk : ∀ w : World, (Instr.makeSlice 32 (.int .i64 760) (.int .i64 760)).run Try.prog w = .ok (.slice (some ⟨w.heap.size, 0, none⟩) 760 760) (w.alloc (.cells (madeCells #[.int .i64 0] 760) 3)) := make_ints 760 (by decide)
  have hB : Below w.heap.size w (w.alloc (.cells #[.int .i64 4] 23)) := (Below.refl _ _).alloc (Nat.le_refl _) _
  have bx : CBox 23 (w.alloc (.cells #[.int .i64 4] 23)) w.heap.size #[.int .i64 ((4 : Nat) : Int)] := CBox.new _ _ _
  have c0 : (w.alloc (.cells #[.int .i64 4] 23)).cell? ⟨w.heap.size, 0, none⟩ = some (.int .i64 4) := CBox.cell bx 0
  go_enter Try.func4, Try.ntmps4
  go_wp2_with fail
  refine (hsz _).mono ?_
  rintro e u0 ⟨rfl, hb⟩
  replace hB := hB.trans (hb.mono hB.size)
  replace bx := bx.grown hb
  replace c0 : u0.cell? ⟨w.heap.size, 0, none⟩ = some (.int .i64 4) := CBox.cell bx 0
  clear hb
  go_wp2_with fail
  refine (hsz _).mono ?_
  rintro e u1 ⟨rfl, hb⟩
  replace hB := hB.trans (hb.mono hB.size)
  replace bx := bx.grown hb
  replace c0 : u1.cell? ⟨w.heap.size, 0, none⟩ = some (.int .i64 4) := CBox.cell bx 0
  clear hb
  go_wp2_with fail
  refine (hsz _).mono ?_
  rintro e u2 ⟨rfl, hb⟩
  replace hB := hB.trans (hb.mono hB.size)
  replace bx := bx.grown hb
  replace c0 : u2.cell? ⟨w.heap.size, 0, none⟩ = some (.int .i64 4) := CBox.cell bx 0
  clear hb
  have hbm : Below u2.heap.size u2 (u2.alloc (.cells (madeCells #[.int .i64 0] 760) 3)) := (Below.refl _ _).alloc (Nat.le_refl _) _
  have hS : GS w.heap.size u2.heap.size 760 4 w (u2.alloc (.cells (madeCells #[.int .i64 0] 760) 3)) (0 + 32 * 0) 640 640 := ⟨CBox.grown bx hbm, (World.rowIs_made u2 (.int .i64 0) 760 3).congr (fun j _ => by show _ = Value.int .i64 (fS 0 640 640 j); unfold fS; rw [if_neg (by omega)]), hB.trans (hbm.mono hB.size), Nat.ne_of_lt (CBox.lt bx), hB.size⟩
  go_wp2_with fail
  clear c0 bx hB hmk hsz hbm
  generalize u2.alloc (.cells (madeCells #[.int .i64 0] 760) 3) = u3 at *
  generalize u2.heap.size = g at *
  generalize hA : w.heap.size = A at *
  go_loopw [6, 7] (fun v6 i wr => ∃ k : Nat, k ≤ 4 ∧ v6 = .bool true ∧ i = .int .i64 (k : Int) ∧ GS A g 760 4 w wr (0 + 32 * k) 640 640) (fun _ i _ => 4 - (intOf i).toNat)
  case atStart => exact ⟨0, Nat.zero_le _, rfl, rfl, hS⟩
  case round =>
    clear hS
    obtain ⟨k, hk, rfl, rfl, hS⟩ := hrel
    by_cases hlt : k < 4
    · obtain ⟨P, HP⟩ : ∃ P : Nat, Hid (P = 0 + 32 * k) := ⟨_, hide' rfl⟩
      rw [← HP.out] at hS
      have hlt' : (k : Int) < 4 := by omega
      have hw : IntKind.i64.wrap ((k : Int) + 1) = (k : Int) + 1 := by
        rw [IntKind.wrap_i64]
        omega
      have pl := hO.data 4 k (I64.small (by decide) (by decide)) (I64.small (by omega) (by omega))
      rw [show gmData 4 k = (P : Int) from by rw [HP.out]; unfold gmData; rw [if_pos ⟨by decide, by omega, by omega⟩]; omega] at pl
      have c0 := hS.c0
      go_wp2_with fail
      refine (pl _).mono ?_
      clear pl c0
      rintro e u1 ⟨rfl, hb⟩
      replace hS := hS.quiet hb
      have hm := hS.mark_p 32 (by have := HP.out; omega) (by decide) (by decide)
      clear hS hb
      go_wp2_with fail
      refine hm.mono ?_
      clear hm
      rintro e u2 ⟨rfl, hS⟩
      go_wp2
      go_roundw
      case rel => exact ⟨k + 1, by omega, rfl, by go_num, by rw [show 0 + 32 * (k + 1) = P + 32 from by rw [HP.out]; omega]; exact hS⟩
      case measure => simp [intOf]; omega
    · have hlt' : ¬ (k : Int) < 4 := by omega
      obtain rfl : k = 4 := by omega
      go_wp2_with fail
      replace hS : GS A g 760 4 w wr (32 * 4 + 64 * 4 * 0) 640 (640 + 60 * 0) := hS
      go_loopw [6, 8] (fun v6 i wr => ∃ a : Nat, a ≤ 2 ∧ v6 = .bool true ∧ i = .int .i64 (a : Int) ∧ GS A g 760 4 w wr (32 * 4 + 64 * 4 * a) 640 (640 + 60 * a)) (fun _ i _ => 2 - (intOf i).toNat)
      case atStart => exact ⟨0, Nat.zero_le _, rfl, rfl, hS⟩
      case round =>
        clear hS
        obtain ⟨a, ha, rfl, rfl, hS⟩ := hrel
        by_cases hla : a < 2
        · have hla' : (a : Int) < 2 := by omega
          have hwa : IntKind.i64.wrap ((a : Int) + 1) = (a : Int) + 1 := by
            rw [IntKind.wrap_i64]
            omega
          go_wp2_with fail
          replace hS : GS A g 760 4 w wr (32 * 4 + 64 * 4 * a + 32 * 0) 640 (640 + 60 * a) := hS
          go_loopw [6, 9] (fun v6 i wr => ∃ k : Nat, k ≤ 4 ∧ v6 = .bool true ∧ i = .int .i64 (k : Int) ∧ GS A g 760 4 w wr (32 * 4 + 64 * 4 * a + 32 * k) 640 (640 + 60 * a)) (fun _ i _ => 4 - (intOf i).toNat)
          case atStart => exact ⟨0, Nat.zero_le _, rfl, rfl, hS⟩
          case round =>
            clear hS
            obtain ⟨k, hk, rfl, rfl, hS⟩ := hrel
            by_cases hlt : k < 4
            · obtain ⟨P, HP⟩ : ∃ P : Nat, Hid (P = 32 * 4 + 64 * 4 * a + 32 * k) := ⟨_, hide' rfl⟩
              rw [← HP.out] at hS
              have hlt' : (k : Int) < 4 := by omega
              have hw : IntKind.i64.wrap ((k : Int) + 1) = (k : Int) + 1 := by
                rw [IntKind.wrap_i64]
                omega
              have pl := hO.leaf 4 a k (I64.small (by decide) (by decide)) (I64.small (by omega) (by omega)) (I64.small (by omega) (by omega))
              rw [show gmLeaf 4 a k = (P : Int) from by rw [HP.out]; unfold gmLeaf; rw [if_pos ⟨by decide, by omega, by omega, by omega⟩]; omega] at pl
              have c0 := hS.c0
              go_wp2_with fail
              refine (pl _).mono ?_
              clear pl c0
              rintro e u1 ⟨rfl, hb⟩
              replace hS := hS.quiet hb
              have hm := hS.mark_p 32 (by have := HP.out; omega) (by decide) (by decide)
              clear hS hb
              go_wp2_with fail
              refine hm.mono ?_
              clear hm
              rintro e u2 ⟨rfl, hS⟩
              go_wp2
              go_roundw
              case rel => exact ⟨k + 1, by omega, rfl, by go_num, by rw [show 32 * 4 + 64 * 4 * a + 32 * (k + 1) = P + 32 from by rw [HP.out]; omega]; exact hS⟩
              case measure => simp [intOf]; omega
            · have hlt' : ¬ (k : Int) < 4 := by omega
              obtain rfl : k = 4 := by omega
              have hw2 : IntKind.i64.wrap (2 * 4) = 8 := by decide
              go_wp2_with fail
              replace hS : GS A g 760 4 w wr (32 * 4 + 64 * 4 * a + 32 * 4 + 16 * 0) 640 (640 + 60 * a) := hS
              go_loopw [6, 10] (fun v6 i wr => ∃ k : Nat, k ≤ 8 ∧ v6 = .bool true ∧ i = .int .i64 (k : Int) ∧ GS A g 760 4 w wr (32 * 4 + 64 * 4 * a + 32 * 4 + 16 * k) 640 (640 + 60 * a)) (fun _ i _ => 8 - (intOf i).toNat)
              case atStart => exact ⟨0, Nat.zero_le _, rfl, rfl, hS⟩
              case round =>
                clear hS
                obtain ⟨k, hk, rfl, rfl, hS⟩ := hrel
                by_cases hlt : k < 8
                · obtain ⟨P, HP⟩ : ∃ P : Nat, Hid (P = 32 * 4 + 64 * 4 * a + 32 * 4 + 16 * k) := ⟨_, hide' rfl⟩
                  rw [← HP.out] at hS
                  have hlt' : (k : Int) < 8 := by omega
                  have hw : IntKind.i64.wrap ((k : Int) + 1) = (k : Int) + 1 := by
                    rw [IntKind.wrap_i64]
                    omega
                  have pl := hO.node 4 a k (I64.small (by decide) (by decide)) (I64.small (by omega) (by omega)) (I64.small (by omega) (by omega))
                  rw [show gmNode 4 a k = (P : Int) from by rw [HP.out]; unfold gmNode; rw [if_pos ⟨by decide, by omega, by omega, by omega⟩]; omega] at pl
                  have c0 := hS.c0
                  go_wp2_with fail
                  refine (pl _).mono ?_
                  clear pl c0
                  rintro e u1 ⟨rfl, hb⟩
                  replace hS := hS.quiet hb
                  have hm := hS.mark_p 16 (by have := HP.out; omega) (by decide) (by decide)
                  clear hS hb
                  go_wp2_with fail
                  refine hm.mono ?_
                  clear hm
                  rintro e u2 ⟨rfl, hS⟩
                  go_wp2
                  go_roundw
                  case rel => exact ⟨k + 1, by omega, rfl, by go_num, by rw [show 32 * 4 + 64 * 4 * a + 32 * 4 + 16 * (k + 1) = P + 16 from by rw [HP.out]; omega]; exact hS⟩
                  case measure => simp [intOf]; omega
                · have hlt' : ¬ (k : Int) < 8 := by omega
                  obtain rfl : k = 8 := by omega
                  obtain ⟨P, HP⟩ : ∃ P : Nat, Hid (P = 640 + 60 * a) := ⟨_, hide' rfl⟩
                  rw [← HP.out] at hS
                  have pl := hO.rec_ 4 a (I64.small (by decide) (by decide)) (I64.small (by omega) (by omega))
                  rw [show gmRec 4 a = (P : Int) from by rw [HP.out]; unfold gmRec; rw [if_pos ⟨by decide, by omega⟩]; omega] at pl
                  have c0 := hS.c0
                  go_wp2_with fail
                  refine (pl _).mono ?_
                  clear pl c0
                  rintro e u1 ⟨rfl, hb⟩
                  replace hS := hS.quiet hb
                  have hm := hS.mark_q 60 (by omega) (by have := HP.out; omega) (by have := HP.out; omega) (by decide)
                  clear hS hb
                  go_wp2_with fail
                  refine hm.mono ?_
                  clear hm
                  rintro e u2 ⟨rfl, hS⟩
                  go_wp2
                  go_roundw
                  case rel => exact ⟨a + 1, by omega, rfl, by go_num, by rw [show 32 * 4 + 64 * 4 * (a + 1) = 32 * 4 + 64 * 4 * a + 32 * 4 + 16 * 8 from by omega, show 640 + 60 * (a + 1) = P + 60 from by rw [HP.out]; omega]; exact hS⟩
                  case measure => simp [intOf]; omega
        · have hla' : ¬ (a : Int) < 2 := by omega
          obtain rfl : a = 2 := by omega
          replace hS : GS A g 760 4 w wr 640 640 760 := hS
          go_wp2_with fail
          go_loopw [6, 11] (fun v6 i wr => ∃ k : Nat, k ≤ 760 ∧ v6 = .bool true ∧ i = .int .i64 (k : Int) ∧ GS A g 760 4 w wr 640 640 760) (fun _ i _ => 760 - (intOf i).toNat)
          case atStart => exact ⟨0, Nat.zero_le _, rfl, rfl, hS⟩
          case round =>
            clear hS
            obtain ⟨k, hk, rfl, rfl, hS⟩ := hrel
            by_cases hlt : k < 760
            · have hlt' : (k : Int) < 760 := by omega
              have hw : IntKind.i64.wrap ((k : Int) + 1) = (k : Int) + 1 := by
                rw [IntKind.wrap_i64]
                omega
              have c1 : wr.cell? ⟨g, k, none⟩ = some (.int .i64 1) := by
                have := hS.row.cell (i := k) hlt
                rw [show fS 640 640 760 k = 1 from by unfold fS; rw [if_pos (by omega)]] at this
                exact this
              go_wp2
              go_roundw
              case rel => exact ⟨k + 1, by omega, rfl, by go_num, hS⟩
              case measure => simp [intOf]; omega
            · have hlt' : ¬ (k : Int) < 760 := by omega
              go_wp2_with fail
              refine (hkn _).mono ?_
              rintro e u1 ⟨rfl, hb⟩
              replace hS := hS.quiet hb
              go_wp2
              go_ret
              exact ⟨rfl, hA ▸ hS.hB⟩
set_option maxHeartbeats 600000 in
theorem gmapart8 (hO : GmAll) (w : World) : Calls Try.prog 4 #[.int .i64 3] w fun e w' => e = .returned (.bool true) ∧ Below w.heap.size w w' := by
  have hsz := hO.size 8 (I64.small (by decide) (by decide))
  rw [show gmSize 8 = 1400 from by decide] at hsz
  have hkn := gmknown hO
  have hmk : ∀ w : World, (Instr.makeSlice 32 (.int .i64 1400) (.int .i64 1400)).run Try.prog w = .ok (.slice (some ⟨w.heap.size, 0, none⟩) 1400 1400) (w.alloc (.cells (madeCells #[.int .i64 0] 1400) 3)) := make_ints 1400 (by decide)
  have hB : Below w.heap.size w (w.alloc (.cells #[.int .i64 8] 23)) := (Below.refl _ _).alloc (Nat.le_refl _) _
  have bx : CBox 23 (w.alloc (.cells #[.int .i64 8] 23)) w.heap.size #[.int .i64 ((8 : Nat) : Int)] := CBox.new _ _ _
  have c0 : (w.alloc (.cells #[.int .i64 8] 23)).cell? ⟨w.heap.size, 0, none⟩ = some (.int .i64 8) := CBox.cell bx 0
  go_enter Try.func4, Try.ntmps4
  go_wp2_with fail
  refine (hsz _).mono ?_
  rintro e u0 ⟨rfl, hb⟩
  replace hB := hB.trans (hb.mono hB.size)
  replace bx := bx.grown hb
  replace c0 : u0.cell? ⟨w.heap.size, 0, none⟩ = some (.int .i64 8) := CBox.cell bx 0
  clear hb
  go_wp2_with fail
  refine (hsz _).mono ?_
  rintro e u1 ⟨rfl, hb⟩
  replace hB := hB.trans (hb.mono hB.size)
  replace bx := bx.grown hb
  replace c0 : u1.cell? ⟨w.heap.size, 0, none⟩ = some (.int .i64 8) := CBox.cell bx 0
  clear hb
  go_wp2_with fail
  refine (hsz _).mono ?_
  rintro e u2 ⟨rfl, hb⟩
  replace hB := hB.trans (hb.mono hB.size)
  replace bx := bx.grown hb
  replace c0 : u2.cell? ⟨w.heap.size, 0, none⟩ = some (.int .i64 8) := CBox.cell bx 0
  clear hb
  have hbm : Below u2.heap.size u2 (u2.alloc (.cells (madeCells #[.int .i64 0] 1400) 3)) := (Below.refl _ _).alloc (Nat.le_refl _) _
  have hS : GS w.heap.size u2.heap.size 1400 8 w (u2.alloc (.cells (madeCells #[.int .i64 0] 1400) 3)) (0 + 32 * 0) 1280 1280 := ⟨CBox.grown bx hbm, (World.rowIs_made u2 (.int .i64 0) 1400 3).congr (fun j _ => by show _ = Value.int .i64 (fS 0 1280 1280 j); unfold fS; rw [if_neg (by omega)]), hB.trans (hbm.mono hB.size), Nat.ne_of_lt (CBox.lt bx), hB.size⟩
  go_wp2_with fail
  clear c0 bx hB hmk hsz hbm
  generalize u2.alloc (.cells (madeCells #[.int .i64 0] 1400) 3) = u3 at *
  generalize u2.heap.size = g at *
  generalize hA : w.heap.size = A at *
  go_loopw [6, 7] (fun v6 i wr => ∃ k : Nat, k ≤ 8 ∧ v6 = .bool true ∧ i = .int .i64 (k : Int) ∧ GS A g 1400 8 w wr (0 + 32 * k) 1280 1280) (fun _ i _ => 8 - (intOf i).toNat)
  case atStart => exact ⟨0, Nat.zero_le _, rfl, rfl, hS⟩
  case round =>
    clear hS
    obtain ⟨k, hk, rfl, rfl, hS⟩ := hrel
    by_cases hlt : k < 8
    · obtain ⟨P, HP⟩ : ∃ P : Nat, Hid (P = 0 + 32 * k) := ⟨_, hide' rfl⟩
      rw [← HP.out] at hS
      have hlt' : (k : Int) < 8 := by omega
      have hw : IntKind.i64.wrap ((k : Int) + 1) = (k : Int) + 1 := by
        rw [IntKind.wrap_i64]
        omega
      have pl := hO.data 8 k (I64.small (by decide) (by decide)) (I64.small (by omega) (by omega))
      rw [show gmData 8 k = (P : Int) from by rw [HP.out]; unfold gmData; rw [if_pos ⟨by decide, by omega, by omega⟩]; omega] at pl
      have c0 := hS.c0
      go_wp2_with fail
      refine (pl _).mono ?_
      clear pl c0
      rintro e u1 ⟨rfl, hb⟩
      replace hS := hS.quiet hb
      have hm := hS.mark_p 32 (by have := HP.out; omega) (by decide) (by decide)
      clear hS hb
      go_wp2_with fail
      refine hm.mono ?_
      clear hm
      rintro e u2 ⟨rfl, hS⟩
      go_wp2
      go_roundw
      case rel => exact ⟨k + 1, by omega, rfl, by go_num, by rw [show 0 + 32 * (k + 1) = P + 32 from by rw [HP.out]; omega]; exact hS⟩
      case measure => simp [intOf]; omega
    · have hlt' : ¬ (k : Int) < 8 := by omega
      obtain rfl : k = 8 := by omega
      go_wp2_with fail
      replace hS : GS A g 1400 8 w wr (32 * 8 + 64 * 8 * 0) 1280 (1280 + 60 * 0) := hS
      go_loopw [6, 8] (fun v6 i wr => ∃ a : Nat, a ≤ 2 ∧ v6 = .bool true ∧ i = .int .i64 (a : Int) ∧ GS A g 1400 8 w wr (32 * 8 + 64 * 8 * a) 1280 (1280 + 60 * a)) (fun _ i _ => 2 - (intOf i).toNat)
      case atStart => exact ⟨0, Nat.zero_le _, rfl, rfl, hS⟩
      case round =>
        clear hS
        obtain ⟨a, ha, rfl, rfl, hS⟩ := hrel
        by_cases hla : a < 2
        · have hla' : (a : Int) < 2 := by omega
          have hwa : IntKind.i64.wrap ((a : Int) + 1) = (a : Int) + 1 := by
            rw [IntKind.wrap_i64]
            omega
          go_wp2_with fail
          replace hS : GS A g 1400 8 w wr (32 * 8 + 64 * 8 * a + 32 * 0) 1280 (1280 + 60 * a) := hS
          go_loopw [6, 9] (fun v6 i wr => ∃ k : Nat, k ≤ 8 ∧ v6 = .bool true ∧ i = .int .i64 (k : Int) ∧ GS A g 1400 8 w wr (32 * 8 + 64 * 8 * a + 32 * k) 1280 (1280 + 60 * a)) (fun _ i _ => 8 - (intOf i).toNat)
          case atStart => exact ⟨0, Nat.zero_le _, rfl, rfl, hS⟩
          case round =>
            clear hS
            obtain ⟨k, hk, rfl, rfl, hS⟩ := hrel
            by_cases hlt : k < 8
            · obtain ⟨P, HP⟩ : ∃ P : Nat, Hid (P = 32 * 8 + 64 * 8 * a + 32 * k) := ⟨_, hide' rfl⟩
              rw [← HP.out] at hS
              have hlt' : (k : Int) < 8 := by omega
              have hw : IntKind.i64.wrap ((k : Int) + 1) = (k : Int) + 1 := by
                rw [IntKind.wrap_i64]
                omega
              have pl := hO.leaf 8 a k (I64.small (by decide) (by decide)) (I64.small (by omega) (by omega)) (I64.small (by omega) (by omega))
              rw [show gmLeaf 8 a k = (P : Int) from by rw [HP.out]; unfold gmLeaf; rw [if_pos ⟨by decide, by omega, by omega, by omega⟩]; omega] at pl
              have c0 := hS.c0
              go_wp2_with fail
              refine (pl _).mono ?_
              clear pl c0
              rintro e u1 ⟨rfl, hb⟩
              replace hS := hS.quiet hb
              have hm := hS.mark_p 32 (by have := HP.out; omega) (by decide) (by decide)
              clear hS hb
              go_wp2_with fail
              refine hm.mono ?_
              clear hm
              rintro e u2 ⟨rfl, hS⟩
              go_wp2
              go_roundw
              case rel => exact ⟨k + 1, by omega, rfl, by go_num, by rw [show 32 * 8 + 64 * 8 * a + 32 * (k + 1) = P + 32 from by rw [HP.out]; omega]; exact hS⟩
              case measure => simp [intOf]; omega
            · have hlt' : ¬ (k : Int) < 8 := by omega
              obtain rfl : k = 8 := by omega
              have hw2 : IntKind.i64.wrap (2 * 8) = 16 := by decide
              go_wp2_with fail
              replace hS : GS A g 1400 8 w wr (32 * 8 + 64 * 8 * a + 32 * 8 + 16 * 0) 1280 (1280 + 60 * a) := hS
              go_loopw [6, 10] (fun v6 i wr => ∃ k : Nat, k ≤ 16 ∧ v6 = .bool true ∧ i = .int .i64 (k : Int) ∧ GS A g 1400 8 w wr (32 * 8 + 64 * 8 * a + 32 * 8 + 16 * k) 1280 (1280 + 60 * a)) (fun _ i _ => 16 - (intOf i).toNat)
              case atStart => exact ⟨0, Nat.zero_le _, rfl, rfl, hS⟩
              case round =>
                clear hS
                obtain ⟨k, hk, rfl, rfl, hS⟩ := hrel
                by_cases hlt : k < 16
                · obtain ⟨P, HP⟩ : ∃ P : Nat, Hid (P = 32 * 8 + 64 * 8 * a + 32 * 8 + 16 * k) := ⟨_, hide' rfl⟩
                  rw [← HP.out] at hS
                  have hlt' : (k : Int) < 16 := by omega
                  have hw : IntKind.i64.wrap ((k : Int) + 1) = (k : Int) + 1 := by
                    rw [IntKind.wrap_i64]
                    omega
                  have pl := hO.node 8 a k (I64.small (by decide) (by decide)) (I64.small (by omega) (by omega)) (I64.small (by omega) (by omega))
                  rw [show gmNode 8 a k = (P : Int) from by rw [HP.out]; unfold gmNode; rw [if_pos ⟨by decide, by omega, by omega, by omega⟩]; omega] at pl
                  have c0 := hS.c0
                  go_wp2_with fail
                  refine (pl _).mono ?_
                  clear pl c0
                  rintro e u1 ⟨rfl, hb⟩
                  replace hS := hS.quiet hb
                  have hm := hS.mark_p 16 (by have := HP.out; omega) (by decide) (by decide)
                  clear hS hb
                  go_wp2_with fail
                  refine hm.mono ?_
                  clear hm
                  rintro e u2 ⟨rfl, hS⟩
                  go_wp2
                  go_roundw
                  case rel => exact ⟨k + 1, by omega, rfl, by go_num, by rw [show 32 * 8 + 64 * 8 * a + 32 * 8 + 16 * (k + 1) = P + 16 from by rw [HP.out]; omega]; exact hS⟩
                  case measure => simp [intOf]; omega
                · have hlt' : ¬ (k : Int) < 16 := by omega
                  obtain rfl : k = 16 := by omega
                  obtain ⟨P, HP⟩ : ∃ P : Nat, Hid (P = 1280 + 60 * a) := ⟨_, hide' rfl⟩
                  rw [← HP.out] at hS
                  have pl := hO.rec_ 8 a (I64.small (by decide) (by decide)) (I64.small (by omega) (by omega))
                  rw [show gmRec 8 a = (P : Int) from by rw [HP.out]; unfold gmRec; rw [if_pos ⟨by decide, by omega⟩]; omega] at pl
                  have c0 := hS.c0
                  go_wp2_with fail
                  refine (pl _).mono ?_
                  clear pl c0
                  rintro e u1 ⟨rfl, hb⟩
                  replace hS := hS.quiet hb
                  have hm := hS.mark_q 60 (by omega) (by have := HP.out; omega) (by have := HP.out; omega) (by decide)
                  clear hS hb
                  go_wp2_with fail
                  refine hm.mono ?_
                  clear hm
                  rintro e u2 ⟨rfl, hS⟩
                  go_wp2
                  go_roundw
                  case rel => exact ⟨a + 1, by omega, rfl, by go_num, by rw [show 32 * 8 + 64 * 8 * (a + 1) = 32 * 8 + 64 * 8 * a + 32 * 8 + 16 * 16 from by omega, show 1280 + 60 * (a + 1) = P + 60 from by rw [HP.out]; omega]; exact hS⟩
                  case measure => simp [intOf]; omega
        · have hla' : ¬ (a : Int) < 2 := by omega
          obtain rfl : a = 2 := by omega
          replace hS : GS A g 1400 8 w wr 1280 1280 1400 := hS
          go_wp2_with fail
          go_loopw [6, 11] (fun v6 i wr => ∃ k : Nat, k ≤ 1400 ∧ v6 = .bool true ∧ i = .int .i64 (k : Int) ∧ GS A g 1400 8 w wr 1280 1280 1400) (fun _ i _ => 1400 - (intOf i).toNat)
          case atStart => exact ⟨0, Nat.zero_le _, rfl, rfl, hS⟩
          case round =>
            clear hS
            obtain ⟨k, hk, rfl, rfl, hS⟩ := hrel
            by_cases hlt : k < 1400
            · have hlt' : (k : Int) < 1400 := by omega
              have hw : IntKind.i64.wrap ((k : Int) + 1) = (k : Int) + 1 := by
                rw [IntKind.wrap_i64]
                omega
              have c1 : wr.cell? ⟨g, k, none⟩ = some (.int .i64 1) := by
                have := hS.row.cell (i := k) hlt
                rw [show fS 1280 1280 1400 k = 1 from by unfold fS; rw [if_pos (by omega)]] at this
                exact this
              go_wp2
              go_roundw
              case rel => exact ⟨k + 1, by omega, rfl, by go_num, hS⟩
              case measure => simp [intOf]; omega
            · have hlt' : ¬ (k : Int) < 1400 := by omega
              go_wp2_with fail
              refine (hkn _).mono ?_
              rintro e u1 ⟨rfl, hb⟩
              replace hS := hS.quiet hb
              go_wp2
              go_ret
              exact ⟨rfl, hA ▸ hS.hB⟩
set_option maxHeartbeats 600000 in
theorem gmapart16 (hO : GmAll) (w : World) : Calls Try.prog 4 #[.int .i64 4] w fun e w' => e = .returned (.bool true) ∧ Below w.heap.size w w' := by
  have hsz := hO.size 16 (I64.small (by decide) (by decide))
  rw [show gmSize 16 = 2680 from by decide] at hsz
  have hkn := gmknown hO
  have hmk : ∀ w : World, (Instr.makeSlice 32 (.int .i64 2680) (.int .i64 2680)).run Try.prog w = .ok (.slice (some ⟨w.heap.size, 0, none⟩) 2680 2680) (w.alloc (.cells (madeCells #[.int .i64 0] 2680) 3)) := make_ints 2680 (by decide)
  have hB : Below w.heap.size w (w.alloc (.cells #[.int .i64 16] 23)) := (Below.refl _ _).alloc (Nat.le_refl _) _
  have bx : CBox 23 (w.alloc (.cells #[.int .i64 16] 23)) w.heap.size #[.int .i64 ((16 : Nat) : Int)] := CBox.new _ _ _
  have c0 : (w.alloc (.cells #[.int .i64 16] 23)).cell? ⟨w.heap.size, 0, none⟩ = some (.int .i64 16) := CBox.cell bx 0
  go_enter Try.func4, Try.ntmps4
  go_wp2_with fail
  refine (hsz _).mono ?_
  rintro e u0 ⟨rfl, hb⟩
  replace hB := hB.trans (hb.mono hB.size)
  replace bx := bx.grown hb
  replace c0 : u0.cell? ⟨w.heap.size, 0, none⟩ = some (.int .i64 16) := CBox.cell bx 0
  clear hb
  go_wp2_with fail
  refine (hsz _).mono ?_
  rintro e u1 ⟨rfl, hb⟩
  replace hB := hB.trans (hb.mono hB.size)
  replace bx := bx.grown hb
  replace c0 : u1.cell? ⟨w.heap.size, 0, none⟩ = some (.int .i64 16) := CBox.cell bx 0
  clear hb
  go_wp2_with fail
  refine (hsz _).mono ?_
  rintro e u2 ⟨rfl, hb⟩
  replace hB := hB.trans (hb.mono hB.size)
  replace bx := bx.grown hb
  replace c0 : u2.cell? ⟨w.heap.size, 0, none⟩ = some (.int .i64 16) := CBox.cell bx 0
  clear hb
  have hbm : Below u2.heap.size u2 (u2.alloc (.cells (madeCells #[.int .i64 0] 2680) 3)) := (Below.refl _ _).alloc (Nat.le_refl _) _
  have hS : GS w.heap.size u2.heap.size 2680 16 w (u2.alloc (.cells (madeCells #[.int .i64 0] 2680) 3)) (0 + 32 * 0) 2560 2560 := ⟨CBox.grown bx hbm, (World.rowIs_made u2 (.int .i64 0) 2680 3).congr (fun j _ => by show _ = Value.int .i64 (fS 0 2560 2560 j); unfold fS; rw [if_neg (by omega)]), hB.trans (hbm.mono hB.size), Nat.ne_of_lt (CBox.lt bx), hB.size⟩
  go_wp2_with fail
  clear c0 bx hB hmk hsz hbm
  generalize u2.alloc (.cells (madeCells #[.int .i64 0] 2680) 3) = u3 at *
  generalize u2.heap.size = g at *
  generalize hA : w.heap.size = A at *
  go_loopw [6, 7] (fun v6 i wr => ∃ k : Nat, k ≤ 16 ∧ v6 = .bool true ∧ i = .int .i64 (k : Int) ∧ GS A g 2680 16 w wr (0 + 32 * k) 2560 2560) (fun _ i _ => 16 - (intOf i).toNat)
  case atStart => exact ⟨0, Nat.zero_le _, rfl, rfl, hS⟩
  case round =>
    clear hS
    obtain ⟨k, hk, rfl, rfl, hS⟩ := hrel
    by_cases hlt : k < 16
    · obtain ⟨P, HP⟩ : ∃ P : Nat, Hid (P = 0 + 32 * k) := ⟨_, hide' rfl⟩
      rw [← HP.out] at hS
      have hlt' : (k : Int) < 16 := by omega
      have hw : IntKind.i64.wrap ((k : Int) + 1) = (k : Int) + 1 := by
        rw [IntKind.wrap_i64]
        omega
      have pl := hO.data 16 k (I64.small (by decide) (by decide)) (I64.small (by omega) (by omega))
      rw [show gmData 16 k = (P : Int) from by rw [HP.out]; unfold gmData; rw [if_pos ⟨by decide, by omega, by omega⟩]; omega] at pl
      have c0 := hS.c0
      go_wp2_with fail
      refine (pl _).mono ?_
      clear pl c0
      rintro e u1 ⟨rfl, hb⟩
      replace hS := hS.quiet hb
      have hm := hS.mark_p 32 (by have := HP.out; omega) (by decide) (by decide)
      clear hS hb
      go_wp2_with fail
      refine hm.mono ?_
      clear hm
      rintro e u2 ⟨rfl, hS⟩
      go_wp2
      go_roundw
      case rel => exact ⟨k + 1, by omega, rfl, by go_num, by rw [show 0 + 32 * (k + 1) = P + 32 from by rw [HP.out]; omega]; exact hS⟩
      case measure => simp [intOf]; omega
    · have hlt' : ¬ (k : Int) < 16 := by omega
      obtain rfl : k = 16 := by omega
      go_wp2_with fail
      replace hS : GS A g 2680 16 w wr (32 * 16 + 64 * 16 * 0) 2560 (2560 + 60 * 0) := hS
      go_loopw [6, 8] (fun v6 i wr => ∃ a : Nat, a ≤ 2 ∧ v6 = .bool true ∧ i = .int .i64 (a : Int) ∧ GS A g 2680 16 w wr (32 * 16 + 64 * 16 * a) 2560 (2560 + 60 * a)) (fun _ i _ => 2 - (intOf i).toNat)
      case atStart => exact ⟨0, Nat.zero_le _, rfl, rfl, hS⟩
      case round =>
        clear hS
        obtain ⟨a, ha, rfl, rfl, hS⟩ := hrel
        by_cases hla : a < 2
        · have hla' : (a : Int) < 2 := by omega
          have hwa : IntKind.i64.wrap ((a : Int) + 1) = (a : Int) + 1 := by
            rw [IntKind.wrap_i64]
            omega
          go_wp2_with fail
          replace hS : GS A g 2680 16 w wr (32 * 16 + 64 * 16 * a + 32 * 0) 2560 (2560 + 60 * a) := hS
          go_loopw [6, 9] (fun v6 i wr => ∃ k : Nat, k ≤ 16 ∧ v6 = .bool true ∧ i = .int .i64 (k : Int) ∧ GS A g 2680 16 w wr (32 * 16 + 64 * 16 * a + 32 * k) 2560 (2560 + 60 * a)) (fun _ i _ => 16 - (intOf i).toNat)
          case atStart => exact ⟨0, Nat.zero_le _, rfl, rfl, hS⟩
          case round =>
            clear hS
            obtain ⟨k, hk, rfl, rfl, hS⟩ := hrel
            by_cases hlt : k < 16
            · obtain ⟨P, HP⟩ : ∃ P : Nat, Hid (P = 32 * 16 + 64 * 16 * a + 32 * k) := ⟨_, hide' rfl⟩
              rw [← HP.out] at hS
              have hlt' : (k : Int) < 16 := by omega
              have hw : IntKind.i64.wrap ((k : Int) + 1) = (k : Int) + 1 := by
                rw [IntKind.wrap_i64]
                omega
              have pl := hO.leaf 16 a k (I64.small (by decide) (by decide)) (I64.small (by omega) (by omega)) (I64.small (by omega) (by omega))
              rw [show gmLeaf 16 a k = (P : Int) from by rw [HP.out]; unfold gmLeaf; rw [if_pos ⟨by decide, by omega, by omega, by omega⟩]; omega] at pl
              have c0 := hS.c0
              go_wp2_with fail
              refine (pl _).mono ?_
              clear pl c0
              rintro e u1 ⟨rfl, hb⟩
              replace hS := hS.quiet hb
              have hm := hS.mark_p 32 (by have := HP.out; omega) (by decide) (by decide)
              clear hS hb
              go_wp2_with fail
              refine hm.mono ?_
              clear hm
              rintro e u2 ⟨rfl, hS⟩
              go_wp2
              go_roundw
              case rel => exact ⟨k + 1, by omega, rfl, by go_num, by rw [show 32 * 16 + 64 * 16 * a + 32 * (k + 1) = P + 32 from by rw [HP.out]; omega]; exact hS⟩
              case measure => simp [intOf]; omega
            · have hlt' : ¬ (k : Int) < 16 := by omega
              obtain rfl : k = 16 := by omega
              have hw2 : IntKind.i64.wrap (2 * 16) = 32 := by decide
              go_wp2_with fail
              replace hS : GS A g 2680 16 w wr (32 * 16 + 64 * 16 * a + 32 * 16 + 16 * 0) 2560 (2560 + 60 * a) := hS
              go_loopw [6, 10] (fun v6 i wr => ∃ k : Nat, k ≤ 32 ∧ v6 = .bool true ∧ i = .int .i64 (k : Int) ∧ GS A g 2680 16 w wr (32 * 16 + 64 * 16 * a + 32 * 16 + 16 * k) 2560 (2560 + 60 * a)) (fun _ i _ => 32 - (intOf i).toNat)
              case atStart => exact ⟨0, Nat.zero_le _, rfl, rfl, hS⟩
              case round =>
                clear hS
                obtain ⟨k, hk, rfl, rfl, hS⟩ := hrel
                by_cases hlt : k < 32
                · obtain ⟨P, HP⟩ : ∃ P : Nat, Hid (P = 32 * 16 + 64 * 16 * a + 32 * 16 + 16 * k) := ⟨_, hide' rfl⟩
                  rw [← HP.out] at hS
                  have hlt' : (k : Int) < 32 := by omega
                  have hw : IntKind.i64.wrap ((k : Int) + 1) = (k : Int) + 1 := by
                    rw [IntKind.wrap_i64]
                    omega
                  have pl := hO.node 16 a k (I64.small (by decide) (by decide)) (I64.small (by omega) (by omega)) (I64.small (by omega) (by omega))
                  rw [show gmNode 16 a k = (P : Int) from by rw [HP.out]; unfold gmNode; rw [if_pos ⟨by decide, by omega, by omega, by omega⟩]; omega] at pl
                  have c0 := hS.c0
                  go_wp2_with fail
                  refine (pl _).mono ?_
                  clear pl c0
                  rintro e u1 ⟨rfl, hb⟩
                  replace hS := hS.quiet hb
                  have hm := hS.mark_p 16 (by have := HP.out; omega) (by decide) (by decide)
                  clear hS hb
                  go_wp2_with fail
                  refine hm.mono ?_
                  clear hm
                  rintro e u2 ⟨rfl, hS⟩
                  go_wp2
                  go_roundw
                  case rel => exact ⟨k + 1, by omega, rfl, by go_num, by rw [show 32 * 16 + 64 * 16 * a + 32 * 16 + 16 * (k + 1) = P + 16 from by rw [HP.out]; omega]; exact hS⟩
                  case measure => simp [intOf]; omega
                · have hlt' : ¬ (k : Int) < 32 := by omega
                  obtain rfl : k = 32 := by omega
                  obtain ⟨P, HP⟩ : ∃ P : Nat, Hid (P = 2560 + 60 * a) := ⟨_, hide' rfl⟩
                  rw [← HP.out] at hS
                  have pl := hO.rec_ 16 a (I64.small (by decide) (by decide)) (I64.small (by omega) (by omega))
                  rw [show gmRec 16 a = (P : Int) from by rw [HP.out]; unfold gmRec; rw [if_pos ⟨by decide, by omega⟩]; omega] at pl
                  have c0 := hS.c0
                  go_wp2_with fail
                  refine (pl _).mono ?_
                  clear pl c0
                  rintro e u1 ⟨rfl, hb⟩
                  replace hS := hS.quiet hb
                  have hm := hS.mark_q 60 (by omega) (by have := HP.out; omega) (by have := HP.out; omega) (by decide)
                  clear hS hb
                  go_wp2_with fail
                  refine hm.mono ?_
                  clear hm
                  rintro e u2 ⟨rfl, hS⟩
                  go_wp2
                  go_roundw
                  case rel => exact ⟨a + 1, by omega, rfl, by go_num, by rw [show 32 * 16 + 64 * 16 * (a + 1) = 32 * 16 + 64 * 16 * a + 32 * 16 + 16 * 32 from by omega, show 2560 + 60 * (a + 1) = P + 60 from by rw [HP.out]; omega]; exact hS⟩
                  case measure => simp [intOf]; omega
        · have hla' : ¬ (a : Int) < 2 := by omega
          obtain rfl : a = 2 := by omega
          replace hS : GS A g 2680 16 w wr 2560 2560 2680 := hS
          go_wp2_with fail
          go_loopw [6, 11] (fun v6 i wr => ∃ k : Nat, k ≤ 2680 ∧ v6 = .bool true ∧ i = .int .i64 (k : Int) ∧ GS A g 2680 16 w wr 2560 2560 2680) (fun _ i _ => 2680 - (intOf i).toNat)
          case atStart => exact ⟨0, Nat.zero_le _, rfl, rfl, hS⟩
          case round =>
            clear hS
            obtain ⟨k, hk, rfl, rfl, hS⟩ := hrel
            by_cases hlt : k < 2680
            · have hlt' : (k : Int) < 2680 := by omega
              have hw : IntKind.i64.wrap ((k : Int) + 1) = (k : Int) + 1 := by
                rw [IntKind.wrap_i64]
                omega
              have c1 : wr.cell? ⟨g, k, none⟩ = some (.int .i64 1) := by
                have := hS.row.cell (i := k) hlt
                rw [show fS 2560 2560 2680 k = 1 from by unfold fS; rw [if_pos (by omega)]] at this
                exact this
              go_wp2
              go_roundw
              case rel => exact ⟨k + 1, by omega, rfl, by go_num, hS⟩
              case measure => simp [intOf]; omega
            · have hlt' : ¬ (k : Int) < 2680 := by omega
              go_wp2_with fail
              refine (hkn _).mono ?_
              rintro e u1 ⟨rfl, hb⟩
              replace hS := hS.quiet hb
              go_wp2
              go_ret
              exact ⟨rfl, hA ▸ hS.hB⟩
theorem gmapart (hO : GmAll) (lg : Int) (w : World) : Calls Try.prog 4 #[.int .i64 lg] w fun e w' => e = .returned (.bool true) ∧ Below w.heap.size w w' := by
  by_cases h0 : lg < 2
  · go_enter Try.func4, Try.ntmps4
    go_wp2
    go_ret
    exact ⟨rfl, Below.refl _ _⟩
  by_cases h1 : lg > 4
  · go_enter Try.func4, Try.ntmps4
    go_wp2
    go_ret
    exact ⟨rfl, Below.refl _ _⟩
  rcases (show lg = 2 ∨ lg = 3 ∨ lg = 4 by omega) with rfl | rfl | rfl
  · exact gmapart4 hO w
  · exact gmapart8 hO w
  · exact gmapart16 hO w
end Go.Proofs.Ytfneckhjhjmopaa
