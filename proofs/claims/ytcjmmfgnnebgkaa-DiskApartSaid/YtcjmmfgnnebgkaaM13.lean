/- DskRef DskApa: texts laid together. -/
import Derived.Test.YtcjmmfgnnebgkaaM03

/- DiskRefuses' walk. -/
namespace Go.Proofs.Ytcjmmfgnnebgkaa
open Go.RowKit
set_option maxRecDepth 20000
variable {PI : (Nat → Prop) → World → Value → PSt → Prop} {DI : Option Addr → (Nat → Prop) → World → Value → DskSt → Prop}

theorem steps_at (hP : PowIs PI) (G : Nat → Prop) (v : Value) (k : Nat) {m : Int} (hm : (k : Int) = m) (w : World) (hI : PI G w v (true, none, k)) : Calls Try.prog 25 #[v] w fun e w' => e = .returned (.int .i64 m) ∧ Below w.heap.size w w' := by
  subst hm
  exact hP.steps G v (true, none, k) w hI
theorem drefuse_at (hO : DskIs PI DI) (p : Option Addr) (F : Nat → Prop) (v : Value) {st st' : DskSt} (b : Bool) (hs : st.refuse b = st') (w : World) (hI : DI p F w v st) :
    Calls Try.prog 20 #[v, .bool b] w fun e w' => ∃ F', e = .returned (.tuple #[]) ∧ KeptG (DI p) F w v F' w' st' := by
  subst hs
  exact hO.refuse p F v st b w hI
set_option maxHeartbeats 4000000 in
theorem drefuse_in (hP : PowIs PI) (hO : DskIs PI DI) (lba n1 c1 : Nat) (x1 : Option Addr) (xs1 : List Int) (h0 : lba < 32) (h1 : n1 ≤ 32) (b1 : Bytes xs1) (w : World) (s1 : SAt w x1 n1 xs1) :
    Calls Try.prog 5 #[.int .i64 (lba : Int), .slice x1 n1 c1] w fun e w' => e = .returned (.bool true) ∧ Below w.heap.size w w' := by
  have hmk := make32
  obtain ⟨A, hAe⟩ : ∃ A, blk (xs1.take 32) = A := ⟨_, rfl⟩
  have bA := hide' (blk_bytes (b1.take 32))
  rw [hAe] at bA
  go_enter Try.func5, Try.ntmps5
  go_wp2_with fail
  refine (hP.make _).mono ?_
  rintro e w1 ⟨u, G, rfl, hJ, hG, hb⟩
  obtain ⟨p, rfl⟩ := hP.base.ptr hJ
  have M0 : ObjIn PI w G (.pointer (some p)) (true, none, 0) w1 := ⟨hJ, hG, hb⟩
  clear hJ hG hb
  go_wp2_with fail
  refine (hO.make (some p) _).mono ?_
  rintro e w2 ⟨v, F, rfl, hI, hF, hb⟩
  obtain ⟨a, rfl⟩ := (hO.base _).ptr hI
  have M : DDev PI DI (some p) w F (.pointer (some a)) DskSt.new G 0 w2 := (M0.duo hP.base hI hF hb).swap
  clear hI hF hb M0
  replace M : DDev PI DI (some p) w F (.pointer (some a)) ⟨List.replicate 32 zblk, [], [], false⟩ G 0 w2 := M
  generalize List.replicate 32 zblk = Z at *
  go_wp2_with fail
  refine (drefuse_at hO (some p) F _ (st' := ⟨Z, [], [], true⟩) true rfl _ M.one).mono ?_
  rintro e w3 ⟨F3, rfl, hK⟩
  replace M := M.o1 hP.base hK
  clear hK
  go_wp2_with fail
  refine (bblock false xs1 x1 n1 c1 _ (s1.below M.hB)).mono ?_
  rintro e w4 ⟨rfl, hr, hb⟩
  have sA := row_sin hO hP M (Nat.le_refl _) hr (blk_len (by rw [List.length_take]; omega))
  replace M := M.quiet (hO.base _) hP.base hb
  clear hr hb
  clear sA
  go_wp2_with fail
  refine (hO.writeNo (some p) F3 _ ⟨Z, [], [], true⟩ lba _ 32 32 (Or.inr (Or.inr rfl)) _ M.one).mono ?_
  rintro e w5 ⟨F5, rfl, hK⟩
  replace M := M.o1 hP.base hK
  clear hK
  go_wp2_with fail
  refine (steps_at hP G _ 0 (m := 0) rfl _ M.two).mono ?_
  rintro e w6 ⟨rfl, hb⟩
  replace M := M.quiet (hO.base _) hP.base hb
  clear hb
  go_wp2_with fail
  refine (drefuse_at hO (some p) F5 _ (st' := ⟨Z, [], [], false⟩) false rfl _ M.one).mono ?_
  rintro e w7 ⟨F7, rfl, hK⟩
  replace M := M.o1 hP.base hK
  clear hK
  go_wp2_with fail
  refine (bblock false xs1 x1 n1 c1 _ (s1.below M.hB)).mono ?_
  rintro e w8 ⟨rfl, hr, hb⟩
  have sA := row_sin hO hP M (Nat.le_refl _) hr (blk_len (by rw [List.length_take]; omega))
  replace M := M.quiet (hO.base _) hP.base hb
  clear hr hb
  rw [hAe] at sA
  go_wp2_with fail
  refine (dwrite_at hO (some p) F7 G _ (st' := ⟨Z, [(lba, A)], [((lba : Int), A)], false⟩) lba 32 _ A rfl rfl h0 rfl (Nat.zero_le _) (by decide) ⟨by decide, by decide, fun e => by cases e⟩ bA.out _ M sA).mono ?_
  rintro e w9 ⟨F9, G9, rfl, hK⟩
  replace M := M.both hK
  clear hK sA
  go_wp2_with fail
  refine (hO.readNil 0 _).mono ?_
  rintro e w10 ⟨⟨zn, cn, rfl⟩, hb⟩
  replace M := M.quiet (hO.base _) hP.base hb
  clear hb
  go_wp2_with fail
  refine (hO.refuseNil true _).mono ?_
  rintro e w11 ⟨rfl, hb⟩
  replace M := M.quiet (hO.base _) hP.base hb
  clear hb
  go_wp2_with fail
  refine (hO.crashNil none 0 0 _).mono ?_
  rintro e w12 ⟨rfl, hb⟩
  replace M := M.quiet (hO.base _) hP.base hb
  clear hb
  go_wp2_with fail
  refine (steps_at hP G9 _ 1 (m := 1) rfl _ M.two).mono ?_
  rintro e w13 ⟨rfl, hb⟩
  replace M := M.quiet (hO.base _) hP.base hb
  clear hb
  go_wp2_with fail
  refine (hO.trace (some p) F9 _ ⟨Z, [(lba, A)], [((lba : Int), A)], false⟩ (by show 1 ≤ _; decide) _ M.one).mono ?_
  rintro e w14 ⟨zt, ct, F14, rfl, hK, -, -, -⟩
  replace M := M.o1 hP.base hK
  clear hK
  have hb : Below w14.heap.size w14 (w14.alloc (.cells (madeCells #[.int .u8 0] 32) 5)) := (Below.refl _ _).alloc (Nat.le_refl _) _
  replace M := M.quiet (hO.base _) hP.base hb
  clear hb
  go_wp2_with fail
  refine (hO.writeNil 0 _ 32 32 _).mono ?_
  rintro e w15 ⟨rfl, hb⟩
  replace M := M.quiet (hO.base _) hP.base hb
  clear hb
  clear hmk
  go_wp2_with fail
  refine (hO.barrierNil _).mono ?_
  rintro e w16 ⟨rfl, hb⟩
  replace M := M.quiet (hO.base _) hP.base hb
  clear hb
  go_wp2_with fail
  refine (hO.traceNil _).mono ?_
  rintro e w17 ⟨⟨zt, ct, rfl⟩, hb⟩
  replace M := M.quiet (hO.base _) hP.base hb
  clear hb
  go_wp2_with fail
  refine (dknown hP hO _).mono ?_
  rintro e w20 ⟨rfl, hb⟩
  replace M := M.quiet (hO.base _) hP.base hb
  go_wp2
  go_ret
  exact ⟨rfl, M.hB⟩
theorem drefuse_any (hP : PowIs PI) (hO : DskIs PI DI) (lba : Int) (n1 c1 : Nat) (x1 : Option Addr) (xs1 : List Int) (b1 : Bytes xs1) (w : World) (s1 : SAt w x1 n1 xs1) :
    Calls Try.prog 5 #[.int .i64 lba, .slice x1 n1 c1] w fun e w' => e = .returned (.bool true) ∧ Below w.heap.size w w' := by
  by_cases hok : (0 ≤ lba ∧ lba < 32) ∧ n1 ≤ 32
  · obtain ⟨⟨h0, h1⟩, h2⟩ := hok
    obtain ⟨lba, rfl⟩ : ∃ k : Nat, lba = k := ⟨lba.toNat, by omega⟩
    exact drefuse_in hP hO lba n1 c1 x1 xs1 (by omega) h2 b1 w s1
  have H1 := hide' hok
  clear hok s1 b1
  by_cases h0 : lba < 0
  · go_enter Try.func5, Try.ntmps5
    go_wp2
    go_ret
    exact ⟨rfl, Below.refl _ _⟩
  by_cases h1 : 32 ≤ lba
  · go_enter Try.func5, Try.ntmps5
    go_wp2
    go_ret
    exact ⟨rfl, Below.refl _ _⟩
  by_cases h2 : (32 : Int) < n1
  · go_enter Try.func5, Try.ntmps5
    go_wp2
    go_ret
    exact ⟨rfl, Below.refl _ _⟩
  exact absurd (show (0 ≤ lba ∧ lba < 32) ∧ n1 ≤ 32 from by omega) H1.out
end Go.Proofs.Ytcjmmfgnnebgkaa


/- DiskApart's walk. -/
namespace Go.Proofs.Ytcjmmfgnnebgkaa
open Go.RowKit
set_option maxRecDepth 20000
variable {PI : (Nat → Prop) → World → Value → PSt → Prop} {DI : Option Addr → (Nat → Prop) → World → Value → DskSt → Prop}

theorem cur_set (A : List Int) (lba i : Nat) (hi : i < 32) (hl : lba < 32) : (DskSt.mk (List.replicate 32 zblk) [(lba, A)] [((lba : Int), A)] false).cur i = if i = lba then A else zblk := by
  show ((List.replicate 32 zblk).set lba A).getD i [] = _
  rw [List.getD_eq_getElem?_getD, List.getElem?_set]
  by_cases e : lba = i
  · subst e
    simp [hl]
  · rw [if_neg e, if_neg (Ne.symm e), List.getElem?_replicate, if_pos hi]
    rfl
set_option maxHeartbeats 4000000 in
theorem dapart_in (hP : PowIs PI) (hO : DskIs PI DI) (lba n1 c1 : Nat) (x1 : Option Addr) (xs1 : List Int) (h0 : lba < 32) (h1 : n1 ≤ 32) (b1 : Bytes xs1) (w : World) (s1 : SAt w x1 n1 xs1) :
    Calls Try.prog 6 #[.int .i64 (lba : Int), .slice x1 n1 c1] w fun e w' => e = .returned (.bool true) ∧ Below w.heap.size w w' := by
  have hmk := make32
  obtain ⟨A, hAe⟩ : ∃ A, blk (xs1.take 32) = A := ⟨_, rfl⟩
  have bA := hide' (blk_bytes (b1.take 32))
  rw [hAe] at bA
  go_enter Try.func6, Try.ntmps6
  go_wp2_with fail
  refine (hP.make _).mono ?_
  rintro e w1 ⟨u, G, rfl, hJ, hG, hb⟩
  obtain ⟨p, rfl⟩ := hP.base.ptr hJ
  have M0 : ObjIn PI w G (.pointer (some p)) (true, none, 0) w1 := ⟨hJ, hG, hb⟩
  clear hJ hG hb
  go_wp2_with fail
  refine (hO.make (some p) _).mono ?_
  rintro e w2 ⟨v, F, rfl, hI, hF, hb⟩
  obtain ⟨a, rfl⟩ := (hO.base _).ptr hI
  have M : DDev PI DI (some p) w F (.pointer (some a)) DskSt.new G 0 w2 := (M0.duo hP.base hI hF hb).swap
  clear hI hF hb M0
  replace M : DDev PI DI (some p) w F (.pointer (some a)) ⟨List.replicate 32 zblk, [], [], false⟩ G 0 w2 := M
  go_wp2_with fail
  refine (bblock false xs1 x1 n1 c1 _ (s1.below M.hB)).mono ?_
  rintro e w3 ⟨rfl, hr, hb⟩
  have sA := row_sin hO hP M (Nat.le_refl _) hr (blk_len (by rw [List.length_take]; omega))
  replace M := M.quiet (hO.base _) hP.base hb
  clear hr hb
  rw [hAe] at sA
  have hcur := hide' (fun i hi => cur_set A lba i hi h0)
  go_wp2_with fail
  refine (dwrite_at hO (some p) F G _ (st' := ⟨List.replicate 32 zblk, [(lba, A)], [((lba : Int), A)], false⟩) lba 32 _ A rfl rfl h0 rfl (Nat.zero_le _) (by decide) ⟨by decide, by decide, fun e => by cases e⟩ bA.out _ M sA).mono ?_
  rintro e w4 ⟨F4, G9, rfl, hK⟩
  replace M := M.both hK
  clear hK sA
  generalize hS : DskSt.mk (List.replicate 32 zblk) [(lba, A)] [((lba : Int), A)] false = S at *
  clear hS
  go_wp2_with fail
  go_loopw [6] (fun i wr => ∃ (k : Nat) (F : Nat → Prop), k ≤ 32 ∧ i = .int .i64 (k : Int) ∧ DDev PI DI (some p) w F (.pointer (some a)) S G9 (0 + 1) wr) (fun i _ => 32 - (intOf i).toNat)
  case atStart => exact ⟨0, F4, by omega, rfl, M⟩
  case round =>
    clear M F F4
    obtain ⟨k, F, hk, rfl, M⟩ := hrel
    by_cases hlt : k < 32
    · have hlt' : (k : Int) < 32 := by omega
      have hw : IntKind.i64.wrap ((k : Int) + 1) = (k : Int) + 1 := by
        rw [IntKind.wrap_i64]
        omega
      by_cases he : k = lba
      · subst he
        go_wp2_with fail
        refine (dread_at hO (some p) F G9 _ k (ys := A) rfl (by exact (hcur.out k hlt).trans (if_pos rfl)) hlt _ M).mono ?_
        rintro e w5 ⟨z, cz, F5, rfl, hK, sx, -, -⟩
        replace sx := sx.newD hP.base M
        replace M := M.o1 hP.base hK
        clear hK
        have hb : Below w5.heap.size w5 (w5.alloc (.cells (madeCells #[.int .u8 0] 32) 5)) := (Below.refl _ _).alloc (Nat.le_refl _) _
        have hRw := Row.made w5 32
        replace M := M.quiet (hO.base _) hP.base hb
        replace sx := sx.off (Off.of_below (F := fun _ => False) hb) (fun _ _ _ h => h)
        clear hb
        clear hRw
        go_wp2_with fail
        refine (bblock false xs1 x1 n1 c1 _ (s1.below M.hB)).mono ?_
        rintro e w6 ⟨rfl, hr, hb⟩
        have sA := row_sin hO hP M (Nat.le_refl _) hr (blk_len (by rw [List.length_take]; omega))
        rw [hAe] at sA
        rw [show (w5.alloc (.cells (madeCells #[.int .u8 0] 32) 5)).heap.size = w5.heap.size + 1 from by simp] at sA
        replace M := M.quiet (hO.base _) hP.base hb
        replace sx := sx.off (Off.of_below (F := fun _ => False) hb) (fun _ _ _ h => h)
        clear hr hb
        have e0_ := fun c => sx.sat.conv (c := c)
        have e1_ := fun c => sA.sat.conv (c := c)
        have hss := str_self A
        go_wp2
        clear sA e0_ e1_ hss sx
        go_roundw
        case rel => exact ⟨k + 1, F5, by omega, by go_num, M⟩
        case measure => simp [intOf]; omega
      · have he' : ¬ (k : Int) = lba := by omega
        go_wp2_with fail
        refine (dread_at hO (some p) F G9 _ k (ys := zblk) rfl (by exact (hcur.out k hlt).trans (if_neg he)) hlt _ M).mono ?_
        rintro e w5 ⟨z, cz, F5, rfl, hK, sx, -, -⟩
        replace sx := sx.newD hP.base M
        replace M := M.o1 hP.base hK
        clear hK
        have hb : Below w5.heap.size w5 (w5.alloc (.cells (madeCells #[.int .u8 0] 32) 5)) := (Below.refl _ _).alloc (Nat.le_refl _) _
        have hRw := Row.made w5 32
        replace M := M.quiet (hO.base _) hP.base hb
        replace sx := sx.off (Off.of_below (F := fun _ => False) hb) (fun _ _ _ h => h)
        clear hb
        obtain ⟨zb, hzb⟩ : ∃ zb, zblk = zb := ⟨_, rfl⟩
        have sA := hRw.sat (n := 32) (by simp)
        rw [show List.replicate 32 (0 : Int) = zb from hzb] at sA
        rw [hzb] at sx
        clear hRw hzb
        have e0_ := fun c => sx.sat.conv (c := c)
        have e1_ := fun c => sA.conv (c := c)
        have hss := str_self zb
        go_wp2
        clear sA e0_ e1_ hss sx
        go_roundw
        case rel => exact ⟨k + 1, F5, by omega, by go_num, M⟩
        case measure => simp [intOf]; omega
    · have hlt' : ¬ (k : Int) < 32 := by omega
      go_wp2_with fail
      refine (dknown hP hO _).mono ?_
      rintro e w20 ⟨rfl, hb⟩
      replace M := M.quiet (hO.base _) hP.base hb
      go_wp2
      go_ret
      exact ⟨rfl, M.hB⟩
theorem dapart_any (hP : PowIs PI) (hO : DskIs PI DI) (lba : Int) (n1 c1 : Nat) (x1 : Option Addr) (xs1 : List Int) (b1 : Bytes xs1) (w : World) (s1 : SAt w x1 n1 xs1) :
    Calls Try.prog 6 #[.int .i64 lba, .slice x1 n1 c1] w fun e w' => e = .returned (.bool true) ∧ Below w.heap.size w w' := by
  by_cases hok : (0 ≤ lba ∧ lba < 32) ∧ n1 ≤ 32
  · obtain ⟨⟨h0, h1⟩, h2⟩ := hok
    obtain ⟨lba, rfl⟩ : ∃ k : Nat, lba = k := ⟨lba.toNat, by omega⟩
    exact dapart_in hP hO lba n1 c1 x1 xs1 (by omega) h2 b1 w s1
  have H1 := hide' hok
  clear hok s1 b1
  by_cases h0 : lba < 0
  · go_enter Try.func6, Try.ntmps6
    go_wp2
    go_ret
    exact ⟨rfl, Below.refl _ _⟩
  by_cases h1 : 32 ≤ lba
  · go_enter Try.func6, Try.ntmps6
    go_wp2
    go_ret
    exact ⟨rfl, Below.refl _ _⟩
  by_cases h2 : (32 : Int) < n1
  · go_enter Try.func6, Try.ntmps6
    go_wp2
    go_ret
    exact ⟨rfl, Below.refl _ _⟩
  exact absurd (show (0 ≤ lba ∧ lba < 32) ∧ n1 ≤ 32 from by omega) H1.out
end Go.Proofs.Ytcjmmfgnnebgkaa
