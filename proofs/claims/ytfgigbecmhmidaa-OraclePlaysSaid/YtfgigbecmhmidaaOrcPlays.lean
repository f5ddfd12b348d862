/- OraclePlays' walk. -/
import Derived.Test.YtfgigbecmhmidaaOrcPlaysA
import Derived.Test.YtfgigbecmhmidaaRefOSum
import Derived.Test.YtfgigbecmhmidaaRefOOpen
import Derived.Test.YtfgigbecmhmidaaRefOTwice
import Derived.Test.YtfgigbecmhmidaaRefOSame
namespace Go.Proofs.Ytfgigbecmhmidaa
open Go.RowKit

variable {Inv : (Nat → Prop) → World → Value → OSt → Prop}
theorem roseal_at (F : Nat → Prop) (b : Nat) (L : List Iss) (S : List (List Int)) (key : BitVec 64 × BitVec 64) (nn : Nn) {k1 k2 n1 n2 n3 : Int} (hk1 : nv key.1 = k1) (hk2 : nv key.2 = k2) (hn1 : nv32 nn.1 = n1) (hn2 : nv32 nn.2.1 = n2) (hn3 : nv nn.2.2 = n3) (xs ys : List Int) (x y : Option Addr) (nx ny c d : Nat) (hnx : nx ≤ 4000) (hny : ny ≤ 4000) (hL : L.length ≤ 50000) (bx : Bytes xs) (by_ : Bytes ys) (w : World) (hI : RInv F w b (L, S)) (sx : SIn (fun k => ¬ F k) w x nx xs) (sy : SIn (fun k => ¬ F k) w y ny ys) {i : Int} (hi : (L.length : Int) + 1 = i) :
    Calls Try.prog 12 #[.pointer (some ⟨b, 0, none⟩), .agg #[.int .u64 k1, .int .u64 k2], .agg #[.int .u32 n1, .int .u32 n2, .int .u64 n3], .slice x nx c, .slice y ny d] w fun e w' => ∃ z cz F', e = .returned (.tuple #[.agg #[.slice z ny cz, .int .u64 18446744073709551615, .int .u64 i], .bool true]) ∧ RInv F' w' b (L ++ [⟨key, nn, xs, ys⟩], S) ∧ (∀ k, F' k → F k ∨ w.heap.size ≤ k) ∧ Off F w w' ∧ SIn F' w' z ny (outB (L.length + 1) ny) ∧ Fit z ny cz := by
  subst hk1 hk2 hn1 hn2 hn3 hi
  exact roseal F b L S key nn xs ys x y nx ny c d hnx hny hL bx by_ w hI sx sy
theorem roopen_yes (F : Nat → Prop) (b : Nat) (st : OSt) (q : Ask) (i0 : Nat) {k1 k2 n1 n2 n3 t1 t2 : Int} (hk1 : nv q.key.1 = k1) (hk2 : nv q.key.2 = k2) (hn1 : nv32 q.non.1 = n1) (hn2 : nv32 q.non.2.1 = n2) (hn3 : nv q.non.2.2 = n3) (ht1 : nv q.tag.1 = t1) (ht2 : nv q.tag.2 = t2) {hs bs ds : List Int} (hhs : q.head = hs) (hbs : q.bytes = bs) (hds : (st.1.getD i0 default).data = ds) {l : Nat} (hl : ds.length = l) (x y : Option Addr) (n m c d : Nat) (hL : st.1.length ≤ 50000) (bx : Bytes hs) (by_ : Bytes bs) (hit : Hit st.1 q i0) (w : World) (hI : RInv F w b st) (sx : SAt w x n hs) (sy : SAt w y m bs) :
    Calls Try.prog 15 #[.pointer (some ⟨b, 0, none⟩), .agg #[.int .u64 k1, .int .u64 k2], .agg #[.int .u32 n1, .int .u32 n2, .int .u64 n3], .slice x n c, .agg #[.slice y m d, .int .u64 t1, .int .u64 t2]] w fun e w' => ∃ u cu, e = .returned (.tuple #[.slice u l cu, .bool true]) ∧ SAt w' u l ds ∧ Below w.heap.size w w' := by
  subst hk1 hk2 hn1 hn2 hn3 ht1 ht2 hhs hbs hds hl
  exact (ropen_yes F b st q x y n m c d hL bx by_ i0 hit w hI sx sy).mono fun e w' ⟨u, cu, h1, h2, h3⟩ => ⟨u, cu, h1, h2.sat, h3⟩
theorem roopen_no (F : Nat → Prop) (b : Nat) (st : OSt) (q : Ask) {k1 k2 n1 n2 n3 t1 t2 : Int} (hk1 : nv q.key.1 = k1) (hk2 : nv q.key.2 = k2) (hn1 : nv32 q.non.1 = n1) (hn2 : nv32 q.non.2.1 = n2) (hn3 : nv q.non.2.2 = n3) (ht1 : nv q.tag.1 = t1) (ht2 : nv q.tag.2 = t2) {hs bs : List Int} (hhs : q.head = hs) (hbs : q.bytes = bs) (x y : Option Addr) (n m c d : Nat) (hL : st.1.length ≤ 50000) (bx : Bytes hs) (by_ : Bytes bs) (hno : ∀ i, ¬ Hit st.1 q i) (w : World) (hI : RInv F w b st) (sx : SAt w x n hs) (sy : SAt w y m bs) :
    Calls Try.prog 15 #[.pointer (some ⟨b, 0, none⟩), .agg #[.int .u64 k1, .int .u64 k2], .agg #[.int .u32 n1, .int .u32 n2, .int .u64 n3], .slice x n c, .agg #[.slice y m d, .int .u64 t1, .int .u64 t2]] w fun e w' => e = .returned (.tuple #[.slice none 0 0, .bool false]) ∧ Below w.heap.size w w' := by
  subst hk1 hk2 hn1 hn2 hn3 ht1 ht2 hhs hbs
  exact ropen_no F b st q x y n m c d hL bx by_ hno w hI sx sy
theorem osame_out (p : Nat) (hp : p < 1000) (z y : Option Addr) (n c d : Nat) (w : World) (sz : SAt w z n (outB (p + 1) n)) (sy : SAt w y n (outB (p + 1) n)) : Calls Try.prog 13 #[.agg #[.slice z n c, .int .u64 18446744073709551615, .int .u64 ((p : Int) + 1)], .agg #[.slice y n d, .int .u64 18446744073709551615, .int .u64 ((p : Int) + 1)]] w fun e w' => e = .returned (.bool true) ∧ Below w.heap.size w w' := by
  have h := rsame_any (tagI (p + 1)) (tagI (p + 1)) _ _ z y n n c d (outB_bytes _ _) (outB_bytes _ _) w sz sy
  rw [tagI_1, tagI_2 (p + 1) (by omega)] at h
  simpa using h
set_option maxRecDepth 10000 in
set_option maxHeartbeats 16000000 in
theorem plays_in (hO : OrcIs Inv) (L : List ActP) (x : Option Addr) (m c : Nat) (fx : Fit x m c) (w : World) (hl : ActsAt w x m L) :
    Calls Try.prog 3 #[.slice x m c] w fun e w' => e = .returned (.bool true) ∧ Below w.heap.size w w' := by
  have heq := eq32
  go_enter Try.func3, Try.ntmps3
  go_wp2_with fail
  refine (olong L x m c fx _ hl).mono ?_
  rintro e w0 ⟨rfl | ⟨rfl, hS⟩, hB⟩
  · go_wp2
    go_ret
    exact ⟨rfl, hB⟩
  have hm80 := hS.1
  go_wp2_with fail
  refine (hO.make _).mono ?_
  rintro e w1 ⟨o1, F1, rfl, hI, hF1, hb⟩
  obtain ⟨a1, rfl⟩ := hO.ptr hI
  replace hF1 : ∀ k, F1 k → w.heap.size ≤ k := fun k hk => Nat.le_trans hB.size (hF1 k hk)
  replace hB := hB.trans (hb.mono hB.size)
  clear hb
  have M0 : PSt Inv w a1 w1.heap.size F1 (fun k => k = w1.heap.size) ([], []) ([], []) (w1.alloc (.cells #[.slice none 0 0, .slice none 0 0] 30)) := ⟨hO.below hI ((Below.refl _ _).alloc (Nat.le_refl _) _), rinv_new w1, fun k hk e => by have := hO.lt hI k hk; omega, hF1, fun k hk => by have := hB.size; omega, hB.trans (((Below.refl w1.heap.size w1).alloc (Nat.le_refl _) _).mono hB.size)⟩
  clear hI hF1 hB
  go_wp2_with fail
  generalize w1.alloc (.cells #[.slice none 0 0, .slice none 0 0] 30) = W2 at *
  generalize w1.heap.size = bx at *
  go_loopw [5] (fun i wr => ∃ (k : Nat) (F G : Nat → Prop) (st : OSt), k ≤ m ∧ i = .int .i64 (k : Int) ∧ PSt Inv w a1 bx F G st st wr ∧ st.1.length ≤ k ∧ st.2.length ≤ k ∧ Hid (∀ y ∈ st.1, y.data.length ≤ 100)) (fun i _ => m - (intOf i).toNat)
  case atStart => exact ⟨0, F1, _, ([], []), Nat.zero_le _, rfl, M0, Nat.le_refl _, Nat.le_refl _, fun y hy => by cases hy⟩
  case round =>
    clear M0 F1
    obtain ⟨k, F, G, st, hk, rfl, M, hl1, hl2, HL1⟩ := hrel
    by_cases hlt : k < m
    · obtain ⟨b, o, rfl, hbl, hrow⟩ := hl.2 (by omega)
      have hr := hrow k hlt
      have hsh := hS.2 k hlt
      obtain ⟨⟨kd, key, nn, hs, ds, num, by_⟩, HA⟩ : ∃ a, Hid (L.getD k default = a) := ⟨_, rfl⟩
      rw [HA.out] at hr hsh
      clear HA hrow
      obtain ⟨h, hc, d, dc, hcell, bh, bd, sh, sd, fh, fd⟩ := hr
      dsimp only at bh bd sh sd fh fd hsh
      obtain ⟨nh, HH⟩ : ∃ nh, Hid (hs.length = nh) := ⟨_, rfl⟩
      obtain ⟨nd, HD⟩ : ∃ nd, Hid (ds.length = nd) := ⟨_, rfl⟩
      have g0 : wr.cell? ⟨b, o + k * 10 + 0, none⟩ = some (.int .i64 kd) := by
        have := (M.hB.cell (p := ⟨b, o + k * 10 + 0, none⟩) hbl).trans (hcell 0 _ rfl)
        exact this
      have g1 : wr.cell? ⟨b, o + k * 10 + 1, none⟩ = some (.int .u64 (nv key.1)) := by
        have := (M.hB.cell (p := ⟨b, o + k * 10 + 1, none⟩) hbl).trans (hcell 1 _ rfl)
        exact this
      have g2 : wr.cell? ⟨b, o + k * 10 + 2, none⟩ = some (.int .u64 (nv key.2)) := by
        have := (M.hB.cell (p := ⟨b, o + k * 10 + 2, none⟩) hbl).trans (hcell 2 _ rfl)
        exact this
      have g3 : wr.cell? ⟨b, o + k * 10 + 3, none⟩ = some (.int .u32 (nv32 nn.1)) := by
        have := (M.hB.cell (p := ⟨b, o + k * 10 + 3, none⟩) hbl).trans (hcell 3 _ rfl)
        exact this
      have g4 : wr.cell? ⟨b, o + k * 10 + 4, none⟩ = some (.int .u32 (nv32 nn.2.1)) := by
        have := (M.hB.cell (p := ⟨b, o + k * 10 + 4, none⟩) hbl).trans (hcell 4 _ rfl)
        exact this
      have g5 : wr.cell? ⟨b, o + k * 10 + 5, none⟩ = some (.int .u64 (nv nn.2.2)) := by
        have := (M.hB.cell (p := ⟨b, o + k * 10 + 5, none⟩) hbl).trans (hcell 5 _ rfl)
        exact this
      have g6 : wr.cell? ⟨b, o + k * 10 + 6, none⟩ = some (.slice h nh hc) := by
        have := (M.hB.cell (p := ⟨b, o + k * 10 + 6, none⟩) hbl).trans (hcell 6 _ rfl)
        rw [HH.out] at this
        exact this
      have g7 : wr.cell? ⟨b, o + k * 10 + 7, none⟩ = some (.slice d nd dc) := by
        have := (M.hB.cell (p := ⟨b, o + k * 10 + 7, none⟩) hbl).trans (hcell 7 _ rfl)
        rw [HD.out] at this
        exact this
      have g8 : wr.cell? ⟨b, o + k * 10 + 8, none⟩ = some (.int .i64 num) := by
        have := (M.hB.cell (p := ⟨b, o + k * 10 + 8, none⟩) hbl).trans (hcell 8 _ rfl)
        exact this
      have g9 : wr.cell? ⟨b, o + k * 10 + 9, none⟩ = some (.int .u64 (nv by_)) := by
        have := (M.hB.cell (p := ⟨b, o + k * 10 + 9, none⟩) hbl).trans (hcell 9 _ rfl)
        exact this
      rw [HH.out] at sh fh hsh
      rw [HD.out] at sd fd hsh
      rw [Nat.add_zero] at g0
      clear hcell
      have aB := ABox.new wr kd key nn h nh hc d nd dc num by_
      have hA := M.newF hO
      have hb : Below wr.heap.size wr (wr.alloc (.cells #[.int .i64 kd, .int .u64 (nv key.1), .int .u64 (nv key.2), .int .u32 (nv32 nn.1), .int .u32 (nv32 nn.2.1), .int .u64 (nv nn.2.2), .slice h nh hc, .slice d nd dc, .int .i64 num, .int .u64 (nv by_)] 39)) := (Below.refl _ _).alloc (Nat.le_refl _) _
      have M1 := M.quiet hO hb
      have hGlt0 := M.rin.lt
      have hGlt : ∀ k, G k → k < (wr.alloc (.cells #[.int .i64 kd, .int .u64 (nv key.1), .int .u64 (nv key.2), .int .u32 (nv32 nn.1), .int .u32 (nv32 nn.2.1), .int .u64 (nv nn.2.2), .slice h nh hc, .slice d nd dc, .int .i64 num, .int .u64 (nv by_)] 39)).heap.size := fun k hk => Nat.lt_of_lt_of_le (hGlt0 k hk) hb.size
      clear hb M hGlt0
      have M := M1
      clear M1
      have ak := aB.c0
      by_cases hk1 : kd = 1
      · subst hk1
        go_wp2_with fail
        generalize wr.alloc (.cells #[.int .i64 1, .int .u64 (nv key.1), .int .u64 (nv key.2), .int .u32 (nv32 nn.1), .int .u32 (nv32 nn.2.1), .int .u64 (nv nn.2.2), .slice h nh hc, .slice d nd dc, .int .i64 num, .int .u64 (nv by_)] 39) = w1 at *
        generalize wr.heap.size = A at *
        clear ak g0 g1 g2 g3 g4 g5 g6 g7 g8 g9
        have a0_ := aB.c0
        have a1_ := aB.c1
        have a2_ := aB.c2
        have a3_ := aB.c3
        have a4_ := aB.c4
        have a5_ := aB.c5
        have a6_ := aB.c6
        have a7_ := aB.c7
        have a8_ := aB.c8
        have a9_ := aB.c9
        go_wp2_with fail
        clear a0_ a1_ a2_ a3_ a4_ a5_ a6_ a7_ a8_ a9_
        refine (oseal_at hO F _ st.1 st.2 key nn rfl rfl rfl rfl rfl hs ds h d nh nd hc dc (by omega) (by omega) (by omega) bh bd fh fd _ M.inv (M.inF sh) (M.inF sd) (i := ((st.1.length : Int) + 1)) rfl).mono ?_
        rintro e w2 ⟨z, cz, F2, rfl, hK, sz, fz⟩
        have hA2 : ¬ F2 A := fun e => (hK.sub A e).elim hA.1 (fun e => by have := aB.lt; omega)
        replace aB : ABox _ A 1 key nn h nh hc d nd dc num by_ := off_block aB hK.off (hA.1)
        have hz2 := hK.off.size
        replace M := M.o hK
        clear hK
        have bS := SBox.new w2 (.slice z nd cz) 18446744073709551615 ((st.1.length : Int) + 1)
        have hb : Below w2.heap.size w2 (w2.alloc (.cells #[.slice z nd cz, .int .u64 18446744073709551615, .int .u64 ((st.1.length : Int) + 1)] 41)) := (Below.refl _ _).alloc (Nat.le_refl _) _
        have hS2 := M.newF hO
        replace M := M.quiet hO hb
        replace aB := aB.grown hb
        replace sz := (sz.mono (G' := fun k => w1.heap.size ≤ k ∧ k < w2.heap.size) (fun k h1 h2 => ⟨h2.1, h1⟩)).off (Off.of_below (F := fun _ => False) hb) (fun _ _ _ h => h)
        clear hb
        have a0_ := aB.c0
        have a1_ := aB.c1
        have a2_ := aB.c2
        have a3_ := aB.c3
        have a4_ := aB.c4
        have a5_ := aB.c5
        have a6_ := aB.c6
        have a7_ := aB.c7
        have a8_ := aB.c8
        have a9_ := aB.c9
        go_wp2_with fail
        clear a0_ a1_ a2_ a3_ a4_ a5_ a6_ a7_ a8_ a9_
        generalize w2.alloc (.cells #[.slice z nd cz, .int .u64 18446744073709551615, .int .u64 ((st.1.length : Int) + 1)] 41) = w3 at *
        generalize hB2 : w2.heap.size = B2 at *
        refine (roseal_at G bx st.1 st.2 key nn rfl rfl rfl rfl rfl hs ds h d nh nd hc dc (by omega) (by omega) (by omega) bh bd _ M.rin (M.inG sh) (M.inG sd) (i := ((st.1.length : Int) + 1)) rfl).mono ?_
        rintro e w4 ⟨y, cy, G2, rfl, hR, hsub, hoff, sy, fy⟩
        have hGw : ∀ k, w1.heap.size ≤ k → k < B2 → ¬ G k := fun k h1 h2 h3 => by have := hGlt k h3; omega
        replace sz := sz.off hoff (fun k _ h => hGw k h.1 h.2)
        replace bS : SBox _ B2 (.slice z nd cz) 18446744073709551615 ((st.1.length : Int) + 1) := off_block bS hoff (hS2.2)
        replace M := M.x hO hR hsub hoff
        clear hR hsub hoff
        have bT := SBox.new w4 (.slice y nd cy) 18446744073709551615 ((st.1.length : Int) + 1)
        have hb : Below w4.heap.size w4 (w4.alloc (.cells #[.slice y nd cy, .int .u64 18446744073709551615, .int .u64 ((st.1.length : Int) + 1)] 41)) := (Below.refl _ _).alloc (Nat.le_refl _) _
        replace M := M.quiet hO hb
        replace bS := bS.grown hb
        replace sz := sz.off (Off.of_below (F := fun _ => False) hb) (fun _ _ _ h => h)
        replace sy := sy.off (Off.of_below (F := fun _ => False) hb) (fun _ _ _ h => h)
        clear hb
        have q0 := bS.c0
        have q1 := bS.c1
        have q2 := bS.c2
        have q3 := bT.c0
        have q4 := bT.c1
        have q5 := bT.c2
        go_wp2_with fail
        clear q0 q1 q2 q3 q4 q5
        refine (osame_out (st.1.length) (by omega) _ _ _ _ _ _ sz.sat sy.sat).mono ?_
        rintro e w6 ⟨rfl, hb⟩
        replace M := M.quiet hO hb
        go_wp2
        go_roundw
        case rel =>
          refine ⟨k + 1, F2, G2, (st.1 ++ [⟨key, nn, hs, ds⟩], st.2), by omega, by go_num, M, by simpa using hl1, by dsimp only; omega, fun y hy => ?_⟩
          rcases List.mem_append.1 hy with hy | hy
          · exact HL1.out y hy
          · obtain rfl := List.mem_singleton.1 hy
            have := HD.out
            dsimp only
            omega
        case measure => simp [intOf]; omega
      · by_cases hk2 : kd = 2
        · subst hk2
          have hs1 : (wr.alloc (.cells #[.int .i64 2, .int .u64 (nv key.1), .int .u64 (nv key.2), .int .u32 (nv32 nn.1), .int .u32 (nv32 nn.2.1), .int .u64 (nv nn.2.2), .slice h nh hc, .slice d nd dc, .int .i64 num, .int .u64 (nv by_)] 39)).heap.size = wr.heap.size + 1 := World.size_alloc ..
          go_wp2_with fail
          generalize wr.alloc (.cells #[.int .i64 2, .int .u64 (nv key.1), .int .u64 (nv key.2), .int .u32 (nv32 nn.1), .int .u32 (nv32 nn.2.1), .int .u64 (nv nn.2.2), .slice h nh hc, .slice d nd dc, .int .i64 num, .int .u64 (nv by_)] 39) = w1 at *
          generalize wr.heap.size = A at *
          clear ak g0 g1 g2 g3 g4 g5 g6 g7 g8 g9
          have bS := SBox.new w1 (.slice d nd dc) 0 0
          have hb : Below w1.heap.size w1 (w1.alloc (.cells #[.slice d nd dc, .int .u64 0, .int .u64 0] 41)) := (Below.refl _ _).alloc (Nat.le_refl _) _
          have hB1 := M.newF hO
          have hAlt := aB.lt
          have hwB1 := M.hB.size
          replace M := M.quiet hO hb
          replace aB := aB.grown hb
          clear hb hGlt
          generalize w1.alloc (.cells #[.slice d nd dc, .int .u64 0, .int .u64 0] 41) = w2 at *
          rw [hs1] at bS hB1 hAlt hwB1
          clear hs1
          generalize A + 1 = B1 at *
          have hFlt := hO.lt M.inv
          have hGlt := M.rin.lt
          have hB1lt := bS.lt
          have hw2 := M.hB.size
          refine wp_region_held_drew (S := fun w' => Below w2.heap.size w2 w') (by kernel_rfl) (Below.refl _ _).drew (fun hHeld => ?_)
          refine takeL 0 93 (v := ?_) rfl rfl (by kernel_rfl) (by kernel_rfl) (by kernel_rfl) (fun _ _ _ h => h) (by rfl) hHeld (fun w hSw => ?_) ?_
          rotate_left 1
          · (try dsimp only at hSw)
            clear hSw
            go_simp
            try with_reducible rfl
          simp only [List.set_cons_succ, List.set_cons_zero]
          refine takeL 1 94 (v := ?_) rfl rfl (by kernel_rfl) (by kernel_rfl) (by kernel_rfl) (fun _ _ _ h => h) (by rfl) hHeld (fun w hSw => ?_) ?_
          rotate_left 1
          · (try dsimp only at hSw)
            have hx_ := aB.grown hSw
            have e1_ := hx_.c1
            have e2_ := hx_.c2
            clear hx_
            clear hSw
            go_simp
            try with_reducible rfl
          simp only [List.set_cons_succ, List.set_cons_zero]
          refine takeL 2 95 (v := ?_) rfl rfl (by kernel_rfl) (by kernel_rfl) (by kernel_rfl) (fun _ _ _ h => h) (by rfl) hHeld (fun w hSw => ?_) ?_
          rotate_left 1
          · (try dsimp only at hSw)
            clear hSw
            go_simp
            try with_reducible rfl
          simp only [List.set_cons_succ, List.set_cons_zero]
          refine takeL 3 96 (v := ?_) rfl rfl (by kernel_rfl) (by kernel_rfl) (by kernel_rfl) (fun _ _ _ h => h) (by rfl) hHeld (fun w hSw => ?_) ?_
          rotate_left 1
          · (try dsimp only at hSw)
            have hx_ := aB.grown hSw
            have e3_ := hx_.c3
            have e4_ := hx_.c4
            have e5_ := hx_.c5
            clear hx_
            clear hSw
            go_simp
            try with_reducible rfl
          simp only [List.set_cons_succ, List.set_cons_zero]
          refine takeL 4 97 (v := ?_) rfl rfl (by kernel_rfl) (by kernel_rfl) (by kernel_rfl) (fun _ _ _ h => h) (by rfl) hHeld (fun w hSw => ?_) ?_
          rotate_left 1
          · (try dsimp only at hSw)
            clear hSw
            go_simp
            try with_reducible rfl
          simp only [List.set_cons_succ, List.set_cons_zero]
          refine takeL 5 98 (v := ?_) rfl rfl (by kernel_rfl) (by kernel_rfl) (by kernel_rfl) (fun _ _ _ h => h) (by rfl) hHeld (fun w hSw => ?_) ?_
          rotate_left 1
          · (try dsimp only at hSw)
            have hx_ := aB.grown hSw
            have e6_ := hx_.c6
            clear hx_
            clear hSw
            go_simp
            try with_reducible rfl
          simp only [List.set_cons_succ, List.set_cons_zero]
          refine startM (Gr := fun a b => Below a.heap.size a b) (slot := playSlot) (A := playA w2.heap.size) (dep := fun _ => []) [6, 7] [(3, #[true, true, true, true, true, true, true, true, false, false, false], [6, 7])] (fun e he i hi => by simp only [List.mem_cons, List.not_mem_nil, or_false] at he; subst he; exact hi) (Below.refl _ _) (by kernel_rfl) (by kernel_rfl) (fun _ _ _ h k => h.trans (k.mono h.size)) (fun w' h => below_drew h) (by decide) ?_ (by kernel_rfl) (playA_stay _) ?_ ?_
          · intro i hi
            simp only [List.mem_cons, List.not_mem_nil, or_false] at hi
            rcases hi with rfl | rfl <;> simp [playSlot]
          · intro i hi
            simp only [List.mem_cons, List.not_mem_nil, or_false] at hi
            rcases hi with rfl | rfl
            · refine ⟨_, rfl, fun l t' w' K hr hm => ⟨wanted_plain rfl _, fun hK => ?_⟩⟩
              refine wp_allocL (k := 12) rfl rfl (alloc_pair w') ?_
              exact hK _ _ ((Below.refl _ _).alloc (Nat.le_refl _) _) ⟨_, List.getElem?_set_self (by rw [hm.len]; simp [playSlot]), _, rfl, hm.gr.size, Box.new _ _ _⟩
            · refine ⟨_, rfl, fun l t' w' K hr hm => ⟨wanted_plain rfl _, fun hK => ?_⟩⟩
              refine wp_allocL (k := 13) rfl rfl (alloc_nonce w') ?_
              exact hK _ _ ((Below.refl _ _).alloc (Nat.le_refl _) _) ⟨_, List.getElem?_set_self (by rw [hm.len]; simp [playSlot]), _, rfl, hm.gr.size, NBox.new _ (0#32, 0#32, 0#64)⟩
          intro e he vs w3 hg hA0
          simp only [List.mem_cons, List.not_mem_nil, or_false] at he
          subst he
          obtain ⟨v12, e12, b12, rfl, hb12g, bK⟩ := hA0 6 (by decide)
          obtain ⟨v13, e13, b13, rfl, hb13g, bN⟩ := hA0 7 (by decide)
          have e12' : vs 6 = .pointer (some ⟨b12, 0, none⟩) := Option.some.inj e12
          have e13' : vs 7 = .pointer (some ⟨b13, 0, none⟩) := Option.some.inj e13
          clear e12 e13 hA0
          simp only [List.foldl_cons, List.foldl_nil, playSlot, List.set_cons_succ, List.set_cons_zero, e12', e13']
          clear e12' e13'
          have hHeld : Below w2.heap.size w2 w3 := below_drew hg
          replace M := M.quiet hO hHeld
          replace aB := aB.grown hHeld
          replace bS := bS.grown hHeld
          clear hg
          have hb12 : ¬ F b12 ∧ ¬ G b12 := ⟨fun e => by have := hFlt b12 e; omega, fun e => by have := hGlt b12 e; omega⟩
          have hb13 : ¬ F b13 ∧ ¬ G b13 := ⟨fun e => by have := hFlt b13 e; omega, fun e => by have := hGlt b13 e; omega⟩
          have hwb12 : w.heap.size ≤ b12 := by omega
          have hwb13 : w.heap.size ≤ b13 := by omega
          have n23 : b12 ≠ b13 := fun e => by subst e; unfold Box at bK; unfold NBox at bN; rw [bK] at bN; simp at bN
          have q0 := bK.c0
          have q1 := bK.c1
          have f0 := bK.frozen 0
          have f1 := bK.frozen 1
          refine onlyL 8 rfl (by kernel_rfl) (by rfl) (fun K hK => ?_)
          go_wp2_with fail
          clear q0 f0 q1 f1
          have hot : Off (fun k => k = b12) w3 ((w3.setCell ⟨b12, 0, none⟩ (.int .u64 (nv key.1))).setCell ⟨b12, 1, none⟩ (.int .u64 (nv key.2))) := (((Off.refl (fun k => k = b12) w3).setCell (p := ⟨b12, 0, none⟩) (Or.inl rfl) (.int .u64 (nv key.1))).setCell (p := ⟨b12, 1, none⟩) (Or.inl rfl) (.int .u64 (nv key.2)))
          replace bK := bK.put2 (nv key.1) (nv key.2)
          replace hHeld : Below w2.heap.size w2 ((w3.setCell ⟨b12, 0, none⟩ (.int .u64 (nv key.1))).setCell ⟨b12, 1, none⟩ (.int .u64 (nv key.2))) := hHeld.trans (hot.below (fun k h => by omega) hHeld.size)
          refine hK.out _ _ hHeld (fun _ => ?_)
          clear hK K
          replace M := M.off hO hot (fun k h e => by subst e; exact hb12.1 h) (fun k h e => by subst e; exact hb12.2 h) (fun k e => by subst e; exact hwb12)
          replace bN : NBox _ b13 (0#32, 0#32, 0#64) := off_block bN hot (fun e => by omega)
          replace aB : ABox _ A 2 key nn h nh hc d nd dc num by_ := off_block aB hot (fun e => by omega)
          replace bS : SBox _ B1 (.slice d nd dc) 0 0 := off_block bS hot (fun e => by omega)
          clear hot
          generalize ((w3.setCell ⟨b12, 0, none⟩ (.int .u64 (nv key.1))).setCell ⟨b12, 1, none⟩ (.int .u64 (nv key.2))) = w4 at *
          have q0 := bN.c0
          have q1 := bN.c1
          have q2 := bN.c2
          have f0 := bN.frozen 0
          have f1 := bN.frozen 1
          have f2 := bN.frozen 2
          refine onlyL 9 rfl (by kernel_rfl) (by rfl) (fun K hK => ?_)
          go_wp2_with fail
          clear q0 f0 q1 f1 q2 f2
          have hot : Off (fun k => k = b13) w4 (((w4.setCell ⟨b13, 0, none⟩ (.int .u32 (nv32 nn.1))).setCell ⟨b13, 1, none⟩ (.int .u32 (nv32 nn.2.1))).setCell ⟨b13, 2, none⟩ (.int .u64 (nv nn.2.2))) := ((((Off.refl (fun k => k = b13) w4).setCell (p := ⟨b13, 0, none⟩) (Or.inl rfl) (.int .u32 (nv32 nn.1))).setCell (p := ⟨b13, 1, none⟩) (Or.inl rfl) (.int .u32 (nv32 nn.2.1))).setCell (p := ⟨b13, 2, none⟩) (Or.inl rfl) (.int .u64 (nv nn.2.2)))
          replace bN := bN.put3' nn
          replace hHeld : Below w2.heap.size w2 (((w4.setCell ⟨b13, 0, none⟩ (.int .u32 (nv32 nn.1))).setCell ⟨b13, 1, none⟩ (.int .u32 (nv32 nn.2.1))).setCell ⟨b13, 2, none⟩ (.int .u64 (nv nn.2.2))) := hHeld.trans (hot.below (fun k h => by omega) hHeld.size)
          refine hK.out _ _ hHeld (fun _ => ?_)
          clear hK K
          replace M := M.off hO hot (fun k h e => by subst e; exact hb13.1 h) (fun k h e => by subst e; exact hb13.2 h) (fun k e => by subst e; exact hwb13)
          replace bK : Box _ b12 (nv key.1) (nv key.2) := off_block bK hot (fun e => by omega)
          replace aB : ABox _ A 2 key nn h nh hc d nd dc num by_ := off_block aB hot (fun e => by omega)
          replace bS : SBox _ B1 (.slice d nd dc) 0 0 := off_block bS hot (fun e => by omega)
          clear hot
          generalize (((w4.setCell ⟨b13, 0, none⟩ (.int .u32 (nv32 nn.1))).setCell ⟨b13, 1, none⟩ (.int .u32 (nv32 nn.2.1))).setCell ⟨b13, 2, none⟩ (.int .u64 (nv nn.2.2))) = w5 at *
          refine takeA 10 14 98 rfl rfl rfl (by kernel_rfl) (by kernel_rfl) (by kernel_rfl) (fun _ _ _ h => h) (by rfl) hHeld rfl ?_
          simp only [List.set_cons_succ, List.set_cons_zero]
          refine wpAnyH_done (by kernel_rfl) ?_ _
          clear hHeld
          obtain ⟨FL, FS, vL, vS, hR, hiff, hltG⟩ := M.rin
          obtain ⟨yL, cL, rfl, hcL, hrd⟩ := irow_rd hR.iss
          have hc0 := hR.box.c0
          have hbxlt := hR.box.lt
          go_wp2_with fail
          refine wp_region_held_drew (S := fun w' => Below w5.heap.size w5 w') (by kernel_rfl) (Below.refl _ _).drew (fun hHeld => ?_)
          refine takeL 0 99 (v := ?_) rfl rfl (by kernel_rfl) (by kernel_rfl) (by kernel_rfl) (fun _ _ _ h => h) (by rfl) hHeld (fun w hSw => ?_) ?_
          rotate_left 1
          · (try dsimp only at hSw)
            clear hSw
            go_simp
            try with_reducible rfl
          simp only [List.set_cons_succ, List.set_cons_zero]
          refine takeL 1 100 (v := ?_) rfl rfl (by kernel_rfl) (by kernel_rfl) (by kernel_rfl) (fun _ _ _ h => h) (by rfl) hHeld (fun w hSw => ?_) ?_
          rotate_left 1
          · (try dsimp only at hSw)
            have hx_ := aB.grown hSw
            have e8_ := hx_.c8
            clear hx_
            clear hSw
            go_simp
            try with_reducible rfl
          simp only [List.set_cons_succ, List.set_cons_zero]
          by_cases hn0 : num < 0
          · have hn1 : ¬ 0 ≤ num := by omega
            have hn2 : decide (0 ≤ num) = false := decide_eq_false hn1
            refine takeL 2 101 (v := ?_) rfl rfl (by kernel_rfl) (by kernel_rfl) (by kernel_rfl) (fun _ _ _ h => h) (by rfl) hHeld (fun w hSw => ?_) ?_
            rotate_left 1
            · (try dsimp only at hSw)
              clear hSw
              go_simp
              try with_reducible rfl
            simp only [List.set_cons_succ, List.set_cons_zero]
            refine takeM 3 102 101 rfl rfl rfl (by kernel_rfl) (by kernel_rfl) (by kernel_rfl) (fun _ _ _ h => h) (by rfl) hHeld rfl ?_
            simp only [List.set_cons_succ, List.set_cons_zero]
            refine takeN 4 103 rfl rfl (by kernel_rfl) (by kernel_rfl) (by kernel_rfl) (fun _ _ _ h => h) (by rfl) hHeld ?_
            simp only [List.set_cons_succ, List.set_cons_zero]
            refine takeN 5 104 rfl rfl (by kernel_rfl) (by kernel_rfl) (by kernel_rfl) (fun _ _ _ h => h) (by rfl) hHeld ?_
            simp only [List.set_cons_succ, List.set_cons_zero]
            refine takeN 6 105 rfl rfl (by kernel_rfl) (by kernel_rfl) (by kernel_rfl) (fun _ _ _ h => h) (by rfl) hHeld ?_
            simp only [List.set_cons_succ, List.set_cons_zero]
            refine takeN 7 106 rfl rfl (by kernel_rfl) (by kernel_rfl) (by kernel_rfl) (fun _ _ _ h => h) (by rfl) hHeld ?_
            simp only [List.set_cons_succ, List.set_cons_zero]
            refine takeN 8 107 rfl rfl (by kernel_rfl) (by kernel_rfl) (by kernel_rfl) (fun _ _ _ h => h) (by rfl) hHeld ?_
            simp only [List.set_cons_succ, List.set_cons_zero]
            refine takeN 9 108 rfl rfl (by kernel_rfl) (by kernel_rfl) (by kernel_rfl) (fun _ _ _ h => h) (by rfl) hHeld ?_
            simp only [List.set_cons_succ, List.set_cons_zero]
            refine takeN 10 109 rfl rfl (by kernel_rfl) (by kernel_rfl) (by kernel_rfl) (fun _ _ _ h => h) (by rfl) hHeld ?_
            simp only [List.set_cons_succ, List.set_cons_zero]
            refine takeN 11 110 rfl rfl (by kernel_rfl) (by kernel_rfl) (by kernel_rfl) (fun _ _ _ h => h) (by rfl) hHeld ?_
            simp only [List.set_cons_succ, List.set_cons_zero]
            refine takeL 12 111 (v := ?_) rfl rfl (by kernel_rfl) (by kernel_rfl) (by kernel_rfl) (fun _ _ _ h => h) (by rfl) hHeld (fun w hSw => ?_) ?_
            rotate_left 1
            · (try dsimp only at hSw)
              clear hSw
              go_simp
              try with_reducible rfl
            simp only [List.set_cons_succ, List.set_cons_zero]
            refine wpAnyH_done (by kernel_rfl) ?_ _
            clear hHeld hn2
            have hb : Below w5.heap.size w5 w5.drew := (Below.refl _ _).drew
            replace M := M.quiet hO hb
            replace aB := aB.grown hb
            replace bS := bS.grown hb
            replace bK := bK.grown hb
            replace bN := bN.grown hb
            replace hrd := hrd.below hb
            replace hc0 := (hb.cell (p := ⟨bx, 0, none⟩) hbxlt).trans hc0
            replace hbxlt : bx < w5.drew.heap.size := hbxlt
            clear hb hR hiff hltG
            generalize w5.drew = w6 at *
            have shF := M.inF sh
            have sbF := M.inF sd
            have bhq := bh
            have bbq := bd
            have fhq := fh
            have fbq := fd
            obtain ⟨q, HQ⟩ : ∃ q : Ask, Hid (q = ⟨key, nn, hs, ds, (0#64, 0#64)⟩) := ⟨_, rfl⟩
            have z0 : nv q.key.1 = nv key.1 := by rw [HQ.out]
            have z1 : nv q.key.2 = nv key.2 := by rw [HQ.out]
            have z2 : nv32 q.non.1 = nv32 nn.1 := by rw [HQ.out]
            have z3 : nv32 q.non.2.1 = nv32 nn.2.1 := by rw [HQ.out]
            have z4 : nv q.non.2.2 = nv nn.2.2 := by rw [HQ.out]
            have z5 : nv q.tag.1 = 0 := by rw [HQ.out]; rfl
            have z6 : nv q.tag.2 = 0 := by rw [HQ.out]; rfl
            have z8 : q.head = hs := by rw [HQ.out]
            have z9 : q.bytes = ds := by rw [HQ.out]
            have k0 := bK.c0
            have k1 := bK.c1
            have k2 := bN.c0
            have k3 := bN.c1
            have k4 := bN.c2
            have k5 := bS.c0
            have k6 := bS.c1
            have k7 := bS.c2
            go_wp2_with fail
            clear k0 k1 k2 k3 k4 k5 k6 k7
            by_cases hhit : ∃ i, Hit st.1 q i
            · obtain ⟨i0, hit⟩ := hhit
              obtain ⟨da, HDa⟩ : ∃ da, Hid ((st.1.getD i0 default).data = da) := ⟨_, rfl⟩
              obtain ⟨la, HLa⟩ : ∃ la, Hid (da.length = la) := ⟨_, rfl⟩
              refine (oopen_yes hO F _ st q i0 z0 z1 z2 z3 z4 z5 z6 z8 z9 HDa.out HLa.out _ _ _ _ _ _ (by omega) bhq bbq fhq fbq hit _ M.inv shF sbF).mono ?_
              rintro e w20 ⟨zo, co, F2, rfl, hK2, so⟩
              replace bS : SBox _ B1 (.slice d nd dc) 0 0 := off_block bS hK2.off hB1.1
              replace bK : Box _ b12 (nv key.1) (nv key.2) := off_block bK hK2.off hb12.1
              replace bN : NBox _ b13 nn := off_block bN hK2.off hb13.1
              have hw20 := hK2.off.size
              have sh2 := (shF.off hK2.off (fun k _ h => h)).sat
              have sb2 := (sbF.off hK2.off (fun k _ h => h)).sat
              replace M := M.o hK2
              clear hK2
              replace so := so.sat
              have k0 := bK.c0
              have k1 := bK.c1
              have k2 := bN.c0
              have k3 := bN.c1
              have k4 := bN.c2
              have k5 := bS.c0
              have k6 := bS.c1
              have k7 := bS.c2
              go_wp2_with fail
              clear k0 k1 k2 k3 k4 k5 k6 k7
              refine (roopen_yes G bx st q i0 z0 z1 z2 z3 z4 z5 z6 z8 z9 HDa.out HLa.out _ _ _ _ _ _ (by omega) bhq bbq hit _ M.rin sh2 sb2).mono ?_
              rintro e w21 ⟨uo, cu, rfl, su, hb⟩
              replace so := so.below hb
              replace M := M.quiet hO hb
              clear hb
              have e0_ := fun c => so.conv (c := c)
              have e1_ := fun c => su.conv (c := c)
              go_wp2
              go_roundw
              case rel => exact ⟨k + 1, F2, G, st, by omega, by go_num, M, by omega, by omega, HL1⟩
              case measure => simp [intOf]; omega
            · refine (oopen_no hO F _ st q z0 z1 z2 z3 z4 z5 z6 z8 z9 _ _ _ _ _ _ (by omega) bhq bbq fhq fbq (fun i h => hhit ⟨i, h⟩) _ M.inv shF sbF).mono ?_
              rintro e w20 ⟨zo, co, F2, rfl, hK2⟩
              replace bS : SBox _ B1 (.slice d nd dc) 0 0 := off_block bS hK2.off hB1.1
              replace bK : Box _ b12 (nv key.1) (nv key.2) := off_block bK hK2.off hb12.1
              replace bN : NBox _ b13 nn := off_block bN hK2.off hb13.1
              have sh2 := (shF.off hK2.off (fun k _ h => h)).sat
              have sb2 := (sbF.off hK2.off (fun k _ h => h)).sat
              replace M := M.o hK2
              clear hK2
              have k0 := bK.c0
              have k1 := bK.c1
              have k2 := bN.c0
              have k3 := bN.c1
              have k4 := bN.c2
              have k5 := bS.c0
              have k6 := bS.c1
              have k7 := bS.c2
              go_wp2_with fail
              clear k0 k1 k2 k3 k4 k5 k6 k7
              refine (roopen_no G bx st q z0 z1 z2 z3 z4 z5 z6 z8 z9 _ _ _ _ _ _ (by omega) bhq bbq (fun i h => hhit ⟨i, h⟩) _ M.rin sh2 sb2).mono ?_
              rintro e w21 ⟨rfl, hb⟩
              replace M := M.quiet hO hb
              clear hb
              have e0_ := fun w => conv_empty zo co w
              have e1_ := fun w => conv_empty none 0 w
              go_wp2
              go_roundw
              case rel => exact ⟨k + 1, F2, G, st, by omega, by go_num, M, by omega, by omega, HL1⟩
              case measure => simp [intOf]; omega
          · by_cases hn4 : num < (st.1.length : Int)
            · have hn2 : decide (0 ≤ num) = true := decide_eq_true (by omega)
              have hn3 : decide (num < (st.1.length : Int)) = true := decide_eq_true hn4
              refine takeL 2 101 (v := ?_) rfl rfl (by kernel_rfl) (by kernel_rfl) (by kernel_rfl) (fun _ _ _ h => h) (by rfl) hHeld (fun w hSw => ?_) ?_
              rotate_left 1
              · (try dsimp only at hSw)
                clear hSw
                go_simp
                try with_reducible rfl
              simp only [List.set_cons_succ, List.set_cons_zero]
              refine takeM 3 102 101 rfl rfl rfl (by kernel_rfl) (by kernel_rfl) (by kernel_rfl) (fun _ _ _ h => h) (by rfl) hHeld rfl ?_
              simp only [List.set_cons_succ, List.set_cons_zero]
              refine takeL 4 103 (v := ?_) rfl rfl (by kernel_rfl) (by kernel_rfl) (by kernel_rfl) (fun _ _ _ h => h) (by rfl) hHeld (fun w hSw => ?_) ?_
              rotate_left 1
              · (try dsimp only at hSw)
                clear hSw
                go_simp
                try with_reducible rfl
              simp only [List.set_cons_succ, List.set_cons_zero]
              refine takeL 5 104 (v := ?_) rfl rfl (by kernel_rfl) (by kernel_rfl) (by kernel_rfl) (fun _ _ _ h => h) (by rfl) hHeld (fun w hSw => ?_) ?_
              rotate_left 1
              · (try dsimp only at hSw)
                have hx_ := aB.grown hSw
                have e8_ := hx_.c8
                clear hx_
                clear hSw
                go_simp
                try with_reducible rfl
              simp only [List.set_cons_succ, List.set_cons_zero]
              refine takeM 6 105 4 rfl rfl rfl (by kernel_rfl) (by kernel_rfl) (by kernel_rfl) (fun _ _ _ h => h) (by rfl) hHeld rfl ?_
              simp only [List.set_cons_succ, List.set_cons_zero]
              refine takeL 7 106 (v := ?_) rfl rfl (by kernel_rfl) (by kernel_rfl) (by kernel_rfl) (fun _ _ _ h => h) (by rfl) hHeld (fun w hSw => ?_) ?_
              rotate_left 1
              · (try dsimp only at hSw)
                clear hSw
                go_simp
                try with_reducible rfl
              simp only [List.set_cons_succ, List.set_cons_zero]
              refine takeL 8 107 (v := ?_) rfl rfl (by kernel_rfl) (by kernel_rfl) (by kernel_rfl) (fun _ _ _ h => h) (by rfl) hHeld (fun w hSw => ?_) ?_
              rotate_left 1
              · (try dsimp only at hSw)
                clear hSw
                go_simp
                try with_reducible rfl
              simp only [List.set_cons_succ, List.set_cons_zero]
              refine takeL 9 108 (v := ?_) rfl rfl (by kernel_rfl) (by kernel_rfl) (by kernel_rfl) (fun _ _ _ h => h) (by rfl) hHeld (fun w hSw => ?_) ?_
              rotate_left 1
              · (try dsimp only at hSw)
                have e0_ := (hSw.cell (p := ⟨bx, 0, none⟩) hbxlt).trans hc0
                clear hSw
                go_simp
                try with_reducible rfl
              simp only [List.set_cons_succ, List.set_cons_zero]
              refine takeL 10 109 (v := ?_) rfl rfl (by kernel_rfl) (by kernel_rfl) (by kernel_rfl) (fun _ _ _ h => h) (by rfl) hHeld (fun w hSw => ?_) ?_
              rotate_left 1
              · (try dsimp only at hSw)
                clear hSw
                go_simp
                try with_reducible rfl
              simp only [List.set_cons_succ, List.set_cons_zero]
              refine takeL 11 110 (v := ?_) rfl rfl (by kernel_rfl) (by kernel_rfl) (by kernel_rfl) (fun _ _ _ h => h) (by rfl) hHeld (fun w hSw => ?_) ?_
              rotate_left 1
              · (try dsimp only at hSw)
                clear hSw
                go_simp
                try with_reducible rfl
              simp only [List.set_cons_succ, List.set_cons_zero]
              refine takeL 12 111 (v := ?_) rfl rfl (by kernel_rfl) (by kernel_rfl) (by kernel_rfl) (fun _ _ _ h => h) (by rfl) hHeld (fun w hSw => ?_) ?_
              rotate_left 1
              · (try dsimp only at hSw)
                clear hSw
                go_simp
                try with_reducible rfl
              simp only [List.set_cons_succ, List.set_cons_zero]
              refine wpAnyH_done (by kernel_rfl) ?_ _
              clear hHeld hn2 hn3
              have hb : Below w5.heap.size w5 w5.drew := (Below.refl _ _).drew
              replace M := M.quiet hO hb
              replace aB := aB.grown hb
              replace bS := bS.grown hb
              replace bK := bK.grown hb
              replace bN := bN.grown hb
              replace hrd := hrd.below hb
              replace hc0 := (hb.cell (p := ⟨bx, 0, none⟩) hbxlt).trans hc0
              replace hbxlt : bx < w5.drew.heap.size := hbxlt
              clear hb hR hiff hltG
              generalize w5.drew = w6 at *
              obtain ⟨i, hi⟩ : ∃ i : Nat, num = (i : Int) := ⟨num.toNat, by omega⟩
              subst hi
              have hil : i < st.1.length := by omega
              obtain ⟨FL, FS, vL, vS, hR, hiff, hltG⟩ := M.rin
              obtain ⟨g, cap, rfl, hcap, hgl, hr⟩ := iss_rows hR.iss (by omega)
              have hsm := hR.box.c0
              rw [hc0] at hsm
              simp at hsm
              obtain ⟨rfl, rfl⟩ := hsm
              obtain ⟨C, hin, hcells⟩ := hr i hil
              obtain ⟨⟨ky, ny, hy, dy⟩, HYi⟩ : ∃ a, Hid (st.1.getD i default = a) := ⟨_, rfl⟩
              rw [HYi.out] at hin hcells
              have hsG : SIn G w6 C.h hy.length hy := hin.hs.mono (fun k _ h => (hiff k).2 (Or.inr (Or.inl h.1)))
              have osG : SIn G w6 C.o dy.length (outB (i + 1) dy.length) := hin.os.mono (fun k _ h => (hiff k).2 (Or.inr (Or.inl h.1)))
              have bhq : Bytes hy := hin.hb
              have fhq : Fit C.h hy.length C.hc := hin.hl
              obtain ⟨nhy, HHy⟩ : ∃ nhy, Hid (hy.length = nhy) := ⟨_, rfl⟩
              obtain ⟨ndy, HDy⟩ : ∃ ndy, Hid (dy.length = ndy) := ⟨_, rfl⟩
              rw [HHy.out] at hsG fhq
              rw [HDy.out] at osG
              have hdl : ndy ≤ 100000 := by
                have h1 := HL1.out (st.1.getD i default) (by rw [List.getD_eq_getElem?_getD, List.getElem?_eq_getElem hil]; exact List.getElem_mem hil)
                rw [HYi.out] at h1
                have h2 := HDy.out
                dsimp only at h1
                omega
              have j0 : w6.cell? ⟨g, i * 10 + 0, none⟩ = some (.int .u64 (nv ky.1)) := by
                have := hcells 0 _ rfl
                exact this
              have j1 : w6.cell? ⟨g, i * 10 + 1, none⟩ = some (.int .u64 (nv ky.2)) := by
                have := hcells 1 _ rfl
                exact this
              have j2 : w6.cell? ⟨g, i * 10 + 2, none⟩ = some (.int .u32 (nv32 ny.1)) := by
                have := hcells 2 _ rfl
                exact this
              have j3 : w6.cell? ⟨g, i * 10 + 3, none⟩ = some (.int .u32 (nv32 ny.2.1)) := by
                have := hcells 3 _ rfl
                exact this
              have j4 : w6.cell? ⟨g, i * 10 + 4, none⟩ = some (.int .u64 (nv ny.2.2)) := by
                have := hcells 4 _ rfl
                exact this
              have j5 : w6.cell? ⟨g, i * 10 + 5, none⟩ = some (.slice C.h nhy C.hc) := by
                have := hcells 5 _ rfl
                rw [HHy.out] at this
                exact this
              have j6 : w6.cell? ⟨g, i * 10 + 6, none⟩ = some (.slice C.d ndy C.dc) := by
                have := hcells 6 _ rfl
                rw [HDy.out] at this
                exact this
              have j7 : w6.cell? ⟨g, i * 10 + 7, none⟩ = some (.slice C.o ndy C.oc) := by
                have := hcells 7 _ rfl
                rw [HDy.out] at this
                exact this
              have j8 : w6.cell? ⟨g, i * 10 + 8, none⟩ = some (.int .u64 18446744073709551615) := by
                have := hcells 8 _ rfl
                exact this
              have j9 : w6.cell? ⟨g, i * 10 + 9, none⟩ = some (.int .u64 ((i : Int) + 1)) := by
                have := hcells 9 _ rfl
                exact this
              rw [Nat.add_zero] at j0
              clear hin hcells hr hR hiff hltG HYi hrd
              go_wp2_with fail
              refine wp_region_held_drew (S := fun w' => Below w6.heap.size w6 w') (by kernel_rfl) (Below.refl _ _).drew (fun hHeld => ?_)
              refine takeM 0 112 4 rfl rfl rfl (by kernel_rfl) (by kernel_rfl) (by kernel_rfl) (fun _ _ _ h => h) (by rfl) hHeld rfl ?_
              simp only [List.set_cons_succ, List.set_cons_zero]
              refine takeL 1 113 (v := ?_) rfl rfl (by kernel_rfl) (by kernel_rfl) (by kernel_rfl) (fun _ _ _ h => h) (by rfl) hHeld (fun w hSw => ?_) ?_
              rotate_left 1
              · (try dsimp only at hSw)
                clear hSw
                go_simp
                try with_reducible rfl
              simp only [List.set_cons_succ, List.set_cons_zero]
              refine takeL 2 114 (v := ?_) rfl rfl (by kernel_rfl) (by kernel_rfl) (by kernel_rfl) (fun _ _ _ h => h) (by rfl) hHeld (fun w hSw => ?_) ?_
              rotate_left 1
              · (try dsimp only at hSw)
                clear hSw
                go_simp
                try with_reducible rfl
              simp only [List.set_cons_succ, List.set_cons_zero]
              refine takeL 3 115 (v := ?_) rfl rfl (by kernel_rfl) (by kernel_rfl) (by kernel_rfl) (fun _ _ _ h => h) (by rfl) hHeld (fun w hSw => ?_) ?_
              rotate_left 1
              · (try dsimp only at hSw)
                have e0_ := (hSw.cell (p := ⟨bx, 0, none⟩) hbxlt).trans hc0
                clear hSw
                go_simp
                try with_reducible rfl
              simp only [List.set_cons_succ, List.set_cons_zero]
              refine takeL 4 116 (v := ?_) rfl rfl (by kernel_rfl) (by kernel_rfl) (by kernel_rfl) (fun _ _ _ h => h) (by rfl) hHeld (fun w hSw => ?_) ?_
              rotate_left 1
              · (try dsimp only at hSw)
                clear hSw
                go_simp
                try with_reducible rfl
              simp only [List.set_cons_succ, List.set_cons_zero]
              refine takeL 5 117 (v := ?_) rfl rfl (by kernel_rfl) (by kernel_rfl) (by kernel_rfl) (fun _ _ _ h => h) (by rfl) hHeld (fun w hSw => ?_) ?_
              rotate_left 1
              · (try dsimp only at hSw)
                have hx_ := aB.grown hSw
                have e8_ := hx_.c8
                clear hx_
                clear hSw
                go_simp
                try with_reducible rfl
              simp only [List.set_cons_succ, List.set_cons_zero]
              refine takeL 6 118 (v := ?_) rfl rfl (by kernel_rfl) (by kernel_rfl) (by kernel_rfl) (fun _ _ _ h => h) (by rfl) hHeld (fun w hSw => ?_) ?_
              rotate_left 1
              · (try dsimp only at hSw)
                clear hSw
                go_simp
                try with_reducible rfl
              simp only [List.set_cons_succ, List.set_cons_zero]
              refine takeL 7 119 (v := ?_) rfl rfl (by kernel_rfl) (by kernel_rfl) (by kernel_rfl) (fun _ _ _ h => h) (by rfl) hHeld (fun w hSw => ?_) ?_
              rotate_left 1
              · (try dsimp only at hSw)
                have e0_ := (hSw.cell (p := ⟨g, i * 10, none⟩) hgl).trans j0
                have e1_ := (hSw.cell (p := ⟨g, i * 10 + 1, none⟩) hgl).trans j1
                have e2_ := (hSw.cell (p := ⟨g, i * 10 + 2, none⟩) hgl).trans j2
                have e3_ := (hSw.cell (p := ⟨g, i * 10 + 3, none⟩) hgl).trans j3
                have e4_ := (hSw.cell (p := ⟨g, i * 10 + 4, none⟩) hgl).trans j4
                have e5_ := (hSw.cell (p := ⟨g, i * 10 + 5, none⟩) hgl).trans j5
                have e6_ := (hSw.cell (p := ⟨g, i * 10 + 6, none⟩) hgl).trans j6
                have e7_ := (hSw.cell (p := ⟨g, i * 10 + 7, none⟩) hgl).trans j7
                have e8_ := (hSw.cell (p := ⟨g, i * 10 + 8, none⟩) hgl).trans j8
                have e9_ := (hSw.cell (p := ⟨g, i * 10 + 9, none⟩) hgl).trans j9
                clear hSw
                go_simp
                try with_reducible rfl
              simp only [List.set_cons_succ, List.set_cons_zero]
              have hb : Below w6.heap.size w6 w6.drew := (Below.refl _ _).drew
              replace M := M.quiet hO hb
              replace aB := aB.grown hb
              replace bS := bS.grown hb
              replace bK := bK.grown hb
              replace bN := bN.grown hb
              replace hsG := hsG.off (Off.of_below (F := fun _ => False) hb) (fun _ _ _ h => h)
              replace osG := osG.off (Off.of_below (F := fun _ => False) hb) (fun _ _ _ h => h)
              have hHd : Below w6.heap.size w6 w6.drew := hb
              clear hb hHeld
              generalize w6.drew = w7 at *
              have hz6 := hHd.size
              have lA := aB.lt
              have lS := bS.lt
              have lK := bK.lt
              have lN := bN.lt
              refine onlyL 8 rfl (by kernel_rfl) (by rfl) (fun K hK => ?_)
              go_wp2
              have zB := ZBox.new w7
              have hb : Below w7.heap.size w7 (w7.alloc (.cells #[.int .u64 0, .int .u64 0, .int .u32 0, .int .u32 0, .int .u64 0, .slice none 0 0, .slice none 0 0, .slice none 0 0, .int .u64 0, .int .u64 0] 46)) := (Below.refl _ _).alloc (Nat.le_refl _) _
              have hbI := M.newF hO
              have hwbI : w.heap.size ≤ w7.heap.size := M.hB.size
              replace M := M.quiet hO hb
              replace aB := aB.grown hb
              replace bS := bS.grown hb
              replace bK := bK.grown hb
              replace bN := bN.grown hb
              replace hsG := hsG.off (Off.of_below (F := fun _ => False) hb) (fun _ _ _ h => h)
              replace osG := osG.off (Off.of_below (F := fun _ => False) hb) (fun _ _ _ h => h)
              replace hHd : Below w6.heap.size w6 (w7.alloc (.cells #[.int .u64 0, .int .u64 0, .int .u32 0, .int .u32 0, .int .u64 0, .slice none 0 0, .slice none 0 0, .slice none 0 0, .int .u64 0, .int .u64 0] 46)) := hHd.trans (hb.mono hHd.size)
              have hz67 := hb.size
              clear hb
              refine hK.out _ _ hHd (fun hHeld => ?_)
              clear hK K hHeld
              generalize w7.alloc (.cells #[.int .u64 0, .int .u64 0, .int .u32 0, .int .u32 0, .int .u64 0, .slice none 0 0, .slice none 0 0, .slice none 0 0, .int .u64 0, .int .u64 0] 46) = w8 at *
              generalize w7.heap.size = bI at *
              have q0 := zB.c0
              have q1 := zB.c1
              have q2 := zB.c2
              have q3 := zB.c3
              have q4 := zB.c4
              have q5 := zB.c5
              have q6 := zB.c6
              have q7 := zB.c7
              have q8 := zB.c8
              have q9 := zB.c9
              have f0 := zB.frozen 0
              have f1 := zB.frozen 1
              have f2 := zB.frozen 2
              have f3 := zB.frozen 3
              have f4 := zB.frozen 4
              have f5 := zB.frozen 5
              have f6 := zB.frozen 6
              have f7 := zB.frozen 7
              have f8 := zB.frozen 8
              have f9 := zB.frozen 9
              refine onlyL 9 rfl (by kernel_rfl) (by rfl) (fun K hK => ?_)
              go_wp2_with fail
              clear q0 f0 q1 f1 q2 f2 q3 f3 q4 f4 q5 f5 q6 f6 q7 f7 q8 f8 q9 f9
              have hot : Off (fun k => k = bI) w8 ((((((((((w8.setCell ⟨bI, 0, none⟩ (.int .u64 (nv ky.1))).setCell ⟨bI, 1, none⟩ (.int .u64 (nv ky.2))).setCell ⟨bI, 2, none⟩ (.int .u32 (nv32 ny.1))).setCell ⟨bI, 3, none⟩ (.int .u32 (nv32 ny.2.1))).setCell ⟨bI, 4, none⟩ (.int .u64 (nv ny.2.2))).setCell ⟨bI, 5, none⟩ (.slice C.h nhy C.hc)).setCell ⟨bI, 6, none⟩ (.slice C.d ndy C.dc)).setCell ⟨bI, 7, none⟩ (.slice C.o ndy C.oc)).setCell ⟨bI, 8, none⟩ (.int .u64 18446744073709551615)).setCell ⟨bI, 9, none⟩ (.int .u64 ((i : Int) + 1))) := (((((((((((Off.refl (fun k => k = bI) w8).setCell (p := ⟨bI, 0, none⟩) (Or.inl rfl) (.int .u64 (nv ky.1))).setCell (p := ⟨bI, 1, none⟩) (Or.inl rfl) (.int .u64 (nv ky.2))).setCell (p := ⟨bI, 2, none⟩) (Or.inl rfl) (.int .u32 (nv32 ny.1))).setCell (p := ⟨bI, 3, none⟩) (Or.inl rfl) (.int .u32 (nv32 ny.2.1))).setCell (p := ⟨bI, 4, none⟩) (Or.inl rfl) (.int .u64 (nv ny.2.2))).setCell (p := ⟨bI, 5, none⟩) (Or.inl rfl) (.slice C.h nhy C.hc)).setCell (p := ⟨bI, 6, none⟩) (Or.inl rfl) (.slice C.d ndy C.dc)).setCell (p := ⟨bI, 7, none⟩) (Or.inl rfl) (.slice C.o ndy C.oc)).setCell (p := ⟨bI, 8, none⟩) (Or.inl rfl) (.int .u64 18446744073709551615)).setCell (p := ⟨bI, 9, none⟩) (Or.inl rfl) (.int .u64 ((i : Int) + 1)))
              have iB := zB.put ky ny C.h nhy C.hc C.d ndy C.dc C.o C.oc ((i : Int) + 1)
              replace hHd : Below w6.heap.size w6 ((((((((((w8.setCell ⟨bI, 0, none⟩ (.int .u64 (nv ky.1))).setCell ⟨bI, 1, none⟩ (.int .u64 (nv ky.2))).setCell ⟨bI, 2, none⟩ (.int .u32 (nv32 ny.1))).setCell ⟨bI, 3, none⟩ (.int .u32 (nv32 ny.2.1))).setCell ⟨bI, 4, none⟩ (.int .u64 (nv ny.2.2))).setCell ⟨bI, 5, none⟩ (.slice C.h nhy C.hc)).setCell ⟨bI, 6, none⟩ (.slice C.d ndy C.dc)).setCell ⟨bI, 7, none⟩ (.slice C.o ndy C.oc)).setCell ⟨bI, 8, none⟩ (.int .u64 18446744073709551615)).setCell ⟨bI, 9, none⟩ (.int .u64 ((i : Int) + 1))) := hHd.trans (hot.below (fun k h => by omega) hHd.size)
              refine hK.out _ _ hHd (fun _ => ?_)
              clear hK K zB
              replace M := M.off hO hot (fun k h e => by subst e; exact hbI.1 h) (fun k h e => by subst e; exact hbI.2 h) (fun k e => by subst e; exact hwbI)
              replace hsG := hsG.off hot (fun k _ h e => by subst e; exact hbI.2 h)
              replace osG := osG.off hot (fun k _ h e => by subst e; exact hbI.2 h)
              replace aB : ABox _ A 2 key nn h nh hc d nd dc (i : Int) by_ := off_block aB hot (fun e => by omega)
              replace bS : SBox _ B1 (.slice d nd dc) 0 0 := off_block bS hot (fun e => by omega)
              replace bK : Box _ b12 (nv key.1) (nv key.2) := off_block bK hot (fun e => by omega)
              replace bN : NBox _ b13 nn := off_block bN hot (fun e => by omega)
              clear hot
              generalize ((((((((((w8.setCell ⟨bI, 0, none⟩ (.int .u64 (nv ky.1))).setCell ⟨bI, 1, none⟩ (.int .u64 (nv ky.2))).setCell ⟨bI, 2, none⟩ (.int .u32 (nv32 ny.1))).setCell ⟨bI, 3, none⟩ (.int .u32 (nv32 ny.2.1))).setCell ⟨bI, 4, none⟩ (.int .u64 (nv ny.2.2))).setCell ⟨bI, 5, none⟩ (.slice C.h nhy C.hc)).setCell ⟨bI, 6, none⟩ (.slice C.d ndy C.dc)).setCell ⟨bI, 7, none⟩ (.slice C.o ndy C.oc)).setCell ⟨bI, 8, none⟩ (.int .u64 18446744073709551615)).setCell ⟨bI, 9, none⟩ (.int .u64 ((i : Int) + 1))) = w9 at *
              refine wpAnyH_done (by kernel_rfl) ?_ _
              clear hHd j0 j1 j2 j3 j4 j5 j6 j7 j8 j9
              go_wp2_with fail
              refine wp_region_held_drew (S := fun w' => Off (fun k => k = B1) w9 w') (by kernel_rfl) (Off.refl _ _).drew (fun hHeld => ?_)
              refine takeL 1 121 (v := ?_) rfl rfl (by kernel_rfl) (by kernel_rfl) (by kernel_rfl) (fun _ _ _ h => h) (by rfl) hHeld (fun w hSw => ?_) ?_
              rotate_left 1
              · (try dsimp only at hSw)
                clear hSw
                go_simp
                try with_reducible rfl
              simp only [List.set_cons_succ, List.set_cons_zero]
              refine takeL 2 122 (v := ?_) rfl rfl (by kernel_rfl) (by kernel_rfl) (by kernel_rfl) (fun _ _ _ h => h) (by rfl) hHeld (fun w hSw => ?_) ?_
              rotate_left 1
              · (try dsimp only at hSw)
                clear hSw
                go_simp
                try with_reducible rfl
              simp only [List.set_cons_succ, List.set_cons_zero]
              refine takeL 3 123 (v := ?_) rfl rfl (by kernel_rfl) (by kernel_rfl) (by kernel_rfl) (fun _ _ _ h => h) (by rfl) hHeld (fun w hSw => ?_) ?_
              rotate_left 1
              · (try dsimp only at hSw)
                have hx_ : IBox _ bI ky ny C.h nhy C.hc C.d ndy C.dc C.o C.oc ((i : Int) + 1) := off_block iB hSw (fun e => by omega)
                have e7_ := hx_.c7
                clear hx_
                clear hSw
                go_simp
                try with_reducible rfl
              simp only [List.set_cons_succ, List.set_cons_zero]
              refine takeL 5 125 (v := ?_) rfl rfl (by kernel_rfl) (by kernel_rfl) (by kernel_rfl) (fun _ _ _ h => h) (by rfl) hHeld (fun w hSw => ?_) ?_
              rotate_left 1
              · (try dsimp only at hSw)
                clear hSw
                go_simp
                try with_reducible rfl
              simp only [List.set_cons_succ, List.set_cons_zero]
              refine takeL 6 126 (v := ?_) rfl rfl (by kernel_rfl) (by kernel_rfl) (by kernel_rfl) (fun _ _ _ h => h) (by rfl) hHeld (fun w hSw => ?_) ?_
              rotate_left 1
              · (try dsimp only at hSw)
                clear hSw
                go_simp
                try with_reducible rfl
              simp only [List.set_cons_succ, List.set_cons_zero]
              refine takeL 7 127 (v := ?_) rfl rfl (by kernel_rfl) (by kernel_rfl) (by kernel_rfl) (fun _ _ _ h => h) (by rfl) hHeld (fun w hSw => ?_) ?_
              rotate_left 1
              · (try dsimp only at hSw)
                have hx_ : IBox _ bI ky ny C.h nhy C.hc C.d ndy C.dc C.o C.oc ((i : Int) + 1) := off_block iB hSw (fun e => by omega)
                have e8_ := hx_.c8
                have e9_ := hx_.c9
                clear hx_
                clear hSw
                go_simp
                try with_reducible rfl
              simp only [List.set_cons_succ, List.set_cons_zero]
              have hb : Below w9.heap.size w9 w9.drew := (Below.refl _ _).drew
              replace M := M.quiet hO hb
              replace aB := aB.grown hb
              replace bS := bS.grown hb
              replace bK := bK.grown hb
              replace bN := bN.grown hb
              replace hsG := hsG.off (Off.of_below (F := fun _ => False) hb) (fun _ _ _ h => h)
              replace osG := osG.off (Off.of_below (F := fun _ => False) hb) (fun _ _ _ h => h)
              replace iB := iB.grown hb
              have hHd : Off (fun k => k = B1) w9 w9.drew := (Off.refl _ _).drew
              clear hb hHeld
              generalize w9.drew = wa at *
              refine onlyL 0 rfl (by kernel_rfl) (by rfl) (fun K hK => ?_)
              go_wp2
              have hb : Below wa.heap.size wa (wa.alloc (.cells #[] 5)) := (Below.refl _ _).alloc (Nat.le_refl _) _
              have hlit : (wa.alloc (.cells #[] 5)).ownsRow wa.heap.size 5 1 (.slice (some ⟨wa.heap.size, 0, none⟩) 0 0) 0 [] := World.ownsRow_lit (base := wa.heap.size) (e := 5) (size := 1) wa #[] 0 (Nat.le_refl _) (by decide) rfl
              have lI := iB.lt
              have hFa := hO.lt M.inv
              have hGa := M.rin.lt
              have lA := aB.lt
              have lS := bS.lt
              have lK := bK.lt
              have lN := bN.lt
              replace M := M.quiet hO hb
              replace aB := aB.grown hb
              replace bS := bS.grown hb
              replace bK := bK.grown hb
              replace bN := bN.grown hb
              replace hsG := hsG.off (Off.of_below (F := fun _ => False) hb) (fun _ _ _ h => h)
              replace osG := osG.off (Off.of_below (F := fun _ => False) hb) (fun _ _ _ h => h)
              replace iB := iB.grown hb
              replace hHd := hHd.more hb
              have hzb := hb.size
              clear hb
              refine hK.out _ _ hHd (fun hHeld => ?_)
              clear hK K hHeld
              generalize wa.alloc (.cells #[] 5) = wb at *
              generalize wa.heap.size = Ba at *
              refine onlyL 4 rfl (by kernel_rfl) (by rfl) (fun K hK => ?_)
              refine wp_app0B (.tmp 120) (.tmp 123) rfl Ba Ba rfl hlit C.o ndy C.oc (outB (i + 1) ndy) rfl osG.sat hdl hzb (fun gr cr wc ow hb _ => ?_)
              rw [put_slot (k := 124) rfl]
              replace M := M.quiet hO hb
              replace aB := aB.grown hb
              replace bS := bS.grown hb
              replace bK := bK.grown hb
              replace bN := bN.grown hb
              replace hsG := hsG.off (Off.of_below (F := fun _ => False) hb) (fun _ _ _ h => h)
              replace iB := iB.grown hb
              replace hHd := hHd.more hb
              clear hb hlit osG
              refine hK.out _ _ hHd (fun hHeld => ?_)
              clear hK K
              simp only [List.set_cons_succ, List.set_cons_zero]
              refine takeL 8 128 (v := ?_) rfl rfl (by kernel_rfl) (by kernel_rfl) (by kernel_rfl) (fun _ _ _ h => h) (by rfl) hHeld (fun w hSw => ?_) ?_
              rotate_left 1
              · (try dsimp only at hSw)
                clear hSw
                go_simp
                try with_reducible rfl
              simp only [List.set_cons_succ, List.set_cons_zero]
              have hgr : Ba ≤ gr := own_block ow gr rfl
              obtain ⟨curr, hgrb⟩ := own_type ow (k := gr) rfl
              have ngS : gr ≠ B1 := by omega
              have q0 := bS.c0
              have q1 := bS.c1
              have q2 := bS.c2
              have f0 := bS.frozen 0
              have f1 := bS.frozen 1
              have f2 := bS.frozen 2
              refine onlyL 9 rfl (by kernel_rfl) (by rfl) (fun K hK => ?_)
              go_wp2_with fail
              clear q0 q1 q2 f0 f1 f2
              have hot : Off (fun k => k = B1) wc (((wc.setCell ⟨B1, 0, none⟩ (.slice (some ⟨gr, 0, none⟩) ndy cr)).setCell ⟨B1, 1, none⟩ (.int .u64 18446744073709551615)).setCell ⟨B1, 2, none⟩ (.int .u64 ((i : Int) + 1))) := ((((Off.refl (fun k => k = B1) wc).setCell (p := ⟨B1, 0, none⟩) (Or.inl rfl) (.slice (some ⟨gr, 0, none⟩) ndy cr)).setCell (p := ⟨B1, 1, none⟩) (Or.inl rfl) (.int .u64 18446744073709551615)).setCell (p := ⟨B1, 2, none⟩) (Or.inl rfl) (.int .u64 ((i : Int) + 1)))
              replace bS := bS.put3 (.slice (some ⟨gr, 0, none⟩) ndy cr) 18446744073709551615 ((i : Int) + 1)
              replace hHd : Off (fun k => k = B1) w9 (((wc.setCell ⟨B1, 0, none⟩ (.slice (some ⟨gr, 0, none⟩) ndy cr)).setCell ⟨B1, 1, none⟩ (.int .u64 18446744073709551615)).setCell ⟨B1, 2, none⟩ (.int .u64 ((i : Int) + 1))) := hHd.trans hot (fun k h => Or.inl h)
              refine hK.out _ _ hHd (fun _ => ?_)
              clear hK K
              replace M := M.off hO hot (fun k h e => by subst e; exact hB1.1 h) (fun k h e => by subst e; exact hB1.2 h) (fun k e => by subst e; exact hwB1)
              replace hsG := hsG.off hot (fun k _ h e => by subst e; exact hB1.2 h)
              replace ow := own_off ow hot (fun k hk e => by simp [Value.ownBlock] at hk; omega)
              replace aB : ABox _ A 2 key nn h nh hc d nd dc (i : Int) by_ := off_block aB hot (fun e => by omega)
              replace iB : IBox _ bI ky ny C.h nhy C.hc C.d ndy C.dc C.o C.oc ((i : Int) + 1) := off_block iB hot (fun e => by omega)
              replace bK : Box _ b12 (nv key.1) (nv key.2) := off_block bK hot (fun e => by omega)
              replace bN : NBox _ b13 nn := off_block bN hot (fun e => by omega)
              clear hot hHd
              generalize (((wc.setCell ⟨B1, 0, none⟩ (.slice (some ⟨gr, 0, none⟩) ndy cr)).setCell ⟨B1, 1, none⟩ (.int .u64 18446744073709551615)).setCell ⟨B1, 2, none⟩ (.int .u64 ((i : Int) + 1))) = wd at *
              refine wpAnyH_done (by kernel_rfl) ?_ _
              clear hHeld hgrb
              go_wp2_with fail
              refine wp_region_held_drew (S := fun w' => Off (fun k => k = b12 ∨ k = b13) wd w') (by kernel_rfl) (Off.refl _ _).drew (fun hHeld => ?_)
              refine takeL 0 129 (v := ?_) rfl rfl (by kernel_rfl) (by kernel_rfl) (by kernel_rfl) (fun _ _ _ h => h) (by rfl) hHeld (fun w hSw => ?_) ?_
              rotate_left 1
              · (try dsimp only at hSw)
                clear hSw
                go_simp
                try with_reducible rfl
              simp only [List.set_cons_succ, List.set_cons_zero]
              refine takeL 1 130 (v := ?_) rfl rfl (by kernel_rfl) (by kernel_rfl) (by kernel_rfl) (fun _ _ _ h => h) (by rfl) hHeld (fun w hSw => ?_) ?_
              rotate_left 1
              · (try dsimp only at hSw)
                have hx_ : IBox _ bI ky ny C.h nhy C.hc C.d ndy C.dc C.o C.oc ((i : Int) + 1) := off_block iB hSw (fun e => by omega)
                have e0_ := hx_.c0
                have e1_ := hx_.c1
                clear hx_
                clear hSw
                go_simp
                try with_reducible rfl
              simp only [List.set_cons_succ, List.set_cons_zero]
              refine takeL 2 131 (v := ?_) rfl rfl (by kernel_rfl) (by kernel_rfl) (by kernel_rfl) (fun _ _ _ h => h) (by rfl) hHeld (fun w hSw => ?_) ?_
              rotate_left 1
              · (try dsimp only at hSw)
                clear hSw
                go_simp
                try with_reducible rfl
              simp only [List.set_cons_succ, List.set_cons_zero]
              refine takeL 3 132 (v := ?_) rfl rfl (by kernel_rfl) (by kernel_rfl) (by kernel_rfl) (fun _ _ _ h => h) (by rfl) hHeld (fun w hSw => ?_) ?_
              rotate_left 1
              · (try dsimp only at hSw)
                have hx_ : IBox _ bI ky ny C.h nhy C.hc C.d ndy C.dc C.o C.oc ((i : Int) + 1) := off_block iB hSw (fun e => by omega)
                have e2_ := hx_.c2
                have e3_ := hx_.c3
                have e4_ := hx_.c4
                clear hx_
                clear hSw
                go_simp
                try with_reducible rfl
              simp only [List.set_cons_succ, List.set_cons_zero]
              refine takeL 4 133 (v := ?_) rfl rfl (by kernel_rfl) (by kernel_rfl) (by kernel_rfl) (fun _ _ _ h => h) (by rfl) hHeld (fun w hSw => ?_) ?_
              rotate_left 1
              · (try dsimp only at hSw)
                clear hSw
                go_simp
                try with_reducible rfl
              simp only [List.set_cons_succ, List.set_cons_zero]
              refine takeL 5 134 (v := ?_) rfl rfl (by kernel_rfl) (by kernel_rfl) (by kernel_rfl) (fun _ _ _ h => h) (by rfl) hHeld (fun w hSw => ?_) ?_
              rotate_left 1
              · (try dsimp only at hSw)
                have hx_ : IBox _ bI ky ny C.h nhy C.hc C.d ndy C.dc C.o C.oc ((i : Int) + 1) := off_block iB hSw (fun e => by omega)
                have e5_ := hx_.c5
                clear hx_
                clear hSw
                go_simp
                try with_reducible rfl
              simp only [List.set_cons_succ, List.set_cons_zero]
              have hb : Below wd.heap.size wd wd.drew := (Below.refl _ _).drew
              replace M := M.quiet hO hb
              replace aB := aB.grown hb
              replace bS := bS.grown hb
              replace bK := bK.grown hb
              replace bN := bN.grown hb
              replace hsG := hsG.off (Off.of_below (F := fun _ => False) hb) (fun _ _ _ h => h)
              replace iB := iB.grown hb
              replace ow := own_grown ow hb
              have hHd : Off (fun k => k = b12 ∨ k = b13) wd wd.drew := (Off.refl _ _).drew
              clear hb hHeld
              generalize wd.drew = we at *
              have q0 := bK.c0
              have q1 := bK.c1
              have f0 := bK.frozen 0
              have f1 := bK.frozen 1
              refine onlyL 6 rfl (by kernel_rfl) (by rfl) (fun K hK => ?_)
              go_wp2_with fail
              clear q0 f0 q1 f1
              have hot : Off (fun k => k = b12) we ((we.setCell ⟨b12, 0, none⟩ (.int .u64 (nv ky.1))).setCell ⟨b12, 1, none⟩ (.int .u64 (nv ky.2))) := (((Off.refl (fun k => k = b12) we).setCell (p := ⟨b12, 0, none⟩) (Or.inl rfl) (.int .u64 (nv ky.1))).setCell (p := ⟨b12, 1, none⟩) (Or.inl rfl) (.int .u64 (nv ky.2)))
              replace bK := bK.put2 (nv ky.1) (nv ky.2)
              replace hHd : Off (fun k => k = b12 ∨ k = b13) wd ((we.setCell ⟨b12, 0, none⟩ (.int .u64 (nv ky.1))).setCell ⟨b12, 1, none⟩ (.int .u64 (nv ky.2))) := hHd.trans hot (fun k h => Or.inl (Or.inl h))
              refine hK.out _ _ hHd (fun hHeld => ?_)
              clear hK K hHeld
              replace M := M.off hO hot (fun k h e => by subst e; exact hb12.1 h) (fun k h e => by subst e; exact hb12.2 h) (fun k e => by subst e; exact hwb12)
              replace hsG := hsG.off hot (fun k _ h e => by subst e; exact hb12.2 h)
              replace ow := own_off ow hot (fun k hk e => by simp [Value.ownBlock] at hk; omega)
              replace bN : NBox _ b13 nn := off_block bN hot (fun e => by omega)
              replace aB : ABox _ A 2 key nn h nh hc d nd dc (i : Int) by_ := off_block aB hot (fun e => by omega)
              replace bS : SBox _ B1 (.slice (some ⟨gr, 0, none⟩) ndy cr) 18446744073709551615 ((i : Int) + 1) := off_block bS hot (fun e => by omega)
              clear hot
              generalize ((we.setCell ⟨b12, 0, none⟩ (.int .u64 (nv ky.1))).setCell ⟨b12, 1, none⟩ (.int .u64 (nv ky.2))) = wf at *
              have q0 := bN.c0
              have q1 := bN.c1
              have q2 := bN.c2
              have f0 := bN.frozen 0
              have f1 := bN.frozen 1
              have f2 := bN.frozen 2
              refine onlyL 7 rfl (by kernel_rfl) (by rfl) (fun K hK => ?_)
              go_wp2_with fail
              clear q0 f0 q1 f1 q2 f2
              have hot : Off (fun k => k = b13) wf (((wf.setCell ⟨b13, 0, none⟩ (.int .u32 (nv32 ny.1))).setCell ⟨b13, 1, none⟩ (.int .u32 (nv32 ny.2.1))).setCell ⟨b13, 2, none⟩ (.int .u64 (nv ny.2.2))) := ((((Off.refl (fun k => k = b13) wf).setCell (p := ⟨b13, 0, none⟩) (Or.inl rfl) (.int .u32 (nv32 ny.1))).setCell (p := ⟨b13, 1, none⟩) (Or.inl rfl) (.int .u32 (nv32 ny.2.1))).setCell (p := ⟨b13, 2, none⟩) (Or.inl rfl) (.int .u64 (nv ny.2.2)))
              replace bN := bN.put3' ny
              replace hHd : Off (fun k => k = b12 ∨ k = b13) wd (((wf.setCell ⟨b13, 0, none⟩ (.int .u32 (nv32 ny.1))).setCell ⟨b13, 1, none⟩ (.int .u32 (nv32 ny.2.1))).setCell ⟨b13, 2, none⟩ (.int .u64 (nv ny.2.2))) := hHd.trans hot (fun k h => Or.inl (Or.inr h))
              refine hK.out _ _ hHd (fun hHeld => ?_)
              clear hK K hHeld
              replace M := M.off hO hot (fun k h e => by subst e; exact hb13.1 h) (fun k h e => by subst e; exact hb13.2 h) (fun k e => by subst e; exact hwb13)
              replace hsG := hsG.off hot (fun k _ h e => by subst e; exact hb13.2 h)
              replace ow := own_off ow hot (fun k hk e => by simp [Value.ownBlock] at hk; omega)
              replace bK : Box _ b12 (nv ky.1) (nv ky.2) := off_block bK hot (fun e => by omega)
              replace aB : ABox _ A 2 key nn h nh hc d nd dc (i : Int) by_ := off_block aB hot (fun e => by omega)
              replace bS : SBox _ B1 (.slice (some ⟨gr, 0, none⟩) ndy cr) 18446744073709551615 ((i : Int) + 1) := off_block bS hot (fun e => by omega)
              clear hot
              generalize (((wf.setCell ⟨b13, 0, none⟩ (.int .u32 (nv32 ny.1))).setCell ⟨b13, 1, none⟩ (.int .u32 (nv32 ny.2.1))).setCell ⟨b13, 2, none⟩ (.int .u64 (nv ny.2.2))) = wg at *
              have hHeld := hHd
              refine takeA 8 14 134 rfl rfl rfl (by kernel_rfl) (by kernel_rfl) (by kernel_rfl) (fun _ _ _ h => h) (by rfl) hHeld rfl ?_
              simp only [List.set_cons_succ, List.set_cons_zero]
              refine wpAnyH_done (by kernel_rfl) ?_ _
              clear hHeld hHd iB
              have HX : bits .xor .u64 ((i : Int) + 1) (nv by_) = nv ((tagI (i + 1)).2 ^^^ by_) := by
                have := nv_xor (tagI (i + 1)).2 by_
                rw [tagI_2 (i + 1) (by omega)] at this
                simpa using this
              have q23 := bS.c2
              have f23 := bS.frozen 2
              have a23 := aB.c9
              have hot : Off (fun k => k = B1) wg (wg.setCell ⟨B1, 2, none⟩ (.int .u64 (nv ((tagI (i + 1)).2 ^^^ by_)))) := Off.one _ _ _ _
              replace bS := bS.put2 (nv ((tagI (i + 1)).2 ^^^ by_))
              replace M := M.off hO hot (fun k h e => by subst e; exact hB1.1 h) (fun k h e => by subst e; exact hB1.2 h) (fun k e => by subst e; exact hwB1)
              replace hsG := hsG.off hot (fun k _ h e => by subst e; exact hB1.2 h)
              replace ow := own_off ow hot (fun k hk e => by simp [Value.ownBlock] at hk; omega)
              replace bK : Box _ b12 (nv ky.1) (nv ky.2) := off_block bK hot (fun e => by omega)
              replace bN : NBox _ b13 ny := off_block bN hot (fun e => by omega)
              have shF := hsG.mono (G' := fun k => ¬ F k) (fun k _ hg hf => M.dis k hf hg)
              obtain ⟨g9, c9, e9, hg9, hg9l, hg9c, hg9m, hat9⟩ := own_bytes (outB_length _ _) ow (fun e => by cases e)
              simp at e9
              obtain ⟨rfl, rfl⟩ := e9
              have sbF : SIn (fun k => ¬ F k) _ (some ⟨gr, 0, none⟩) ndy (outB (i + 1) ndy) := ⟨outB_length _ _, fun _ => ⟨gr, 0, rfl, hg9l, fun e => by have := hFa gr e; omega, hat9⟩⟩
              have bbq := outB_bytes (i + 1) ndy
              have fbq : Fit (some ⟨gr, 0, none⟩) ndy cr := ⟨hg9c, hg9m, fun e => by cases e⟩
              obtain ⟨q, HQ⟩ : ∃ q : Ask, Hid (q = ⟨ky, ny, hy, outB (i + 1) ndy, (18446744073709551615#64, (tagI (i + 1)).2 ^^^ by_)⟩) := ⟨_, rfl⟩
              have z0 : nv q.key.1 = nv ky.1 := by rw [HQ.out]
              have z1 : nv q.key.2 = nv ky.2 := by rw [HQ.out]
              have z2 : nv32 q.non.1 = nv32 ny.1 := by rw [HQ.out]
              have z3 : nv32 q.non.2.1 = nv32 ny.2.1 := by rw [HQ.out]
              have z4 : nv q.non.2.2 = nv ny.2.2 := by rw [HQ.out]
              have z5 : nv q.tag.1 = 18446744073709551615 := by rw [HQ.out]; rfl
              have z6 : nv q.tag.2 = nv ((tagI (i + 1)).2 ^^^ by_) := by rw [HQ.out]
              have z8 : q.head = hy := by rw [HQ.out]
              have z9 : q.bytes = outB (i + 1) ndy := by rw [HQ.out]
              have k0 := bK.c0
              have k1 := bK.c1
              have k2 := bN.c0
              have k3 := bN.c1
              have k4 := bN.c2
              have k5 := bS.c0
              have k6 := bS.c1
              have k7 := bS.c2
              go_wp2_with fail
              clear k0 k1 k2 k3 k4 k5 k6 k7
              clear q23 f23 a23 HX hot ow hat9 hsG
              generalize wg.setCell ⟨B1, 2, none⟩ (.int .u64 (nv ((tagI (i + 1)).2 ^^^ by_))) = wh at *
              by_cases hhit : ∃ i, Hit st.1 q i
              · obtain ⟨i0, hit⟩ := hhit
                obtain ⟨da, HDa⟩ : ∃ da, Hid ((st.1.getD i0 default).data = da) := ⟨_, rfl⟩
                obtain ⟨la, HLa⟩ : ∃ la, Hid (da.length = la) := ⟨_, rfl⟩
                refine (oopen_yes hO F _ st q i0 z0 z1 z2 z3 z4 z5 z6 z8 z9 HDa.out HLa.out _ _ _ _ _ _ (by omega) bhq bbq fhq fbq hit _ M.inv shF sbF).mono ?_
                rintro e w20 ⟨zo, co, F2, rfl, hK2, so⟩
                replace bS : SBox _ B1 (.slice (some ⟨gr, 0, none⟩) ndy cr) 18446744073709551615 (nv ((tagI (i + 1)).2 ^^^ by_)) := off_block bS hK2.off hB1.1
                replace bK : Box _ b12 (nv ky.1) (nv ky.2) := off_block bK hK2.off hb12.1
                replace bN : NBox _ b13 ny := off_block bN hK2.off hb13.1
                have hw20 := hK2.off.size
                have sh2 := (shF.off hK2.off (fun k _ h => h)).sat
                have sb2 := (sbF.off hK2.off (fun k _ h => h)).sat
                replace M := M.o hK2
                clear hK2
                replace so := so.sat
                have k0 := bK.c0
                have k1 := bK.c1
                have k2 := bN.c0
                have k3 := bN.c1
                have k4 := bN.c2
                have k5 := bS.c0
                have k6 := bS.c1
                have k7 := bS.c2
                go_wp2_with fail
                clear k0 k1 k2 k3 k4 k5 k6 k7
                refine (roopen_yes G bx st q i0 z0 z1 z2 z3 z4 z5 z6 z8 z9 HDa.out HLa.out _ _ _ _ _ _ (by omega) bhq bbq hit _ M.rin sh2 sb2).mono ?_
                rintro e w21 ⟨uo, cu, rfl, su, hb⟩
                replace so := so.below hb
                replace M := M.quiet hO hb
                clear hb
                have e0_ := fun c => so.conv (c := c)
                have e1_ := fun c => su.conv (c := c)
                go_wp2
                go_roundw
                case rel => exact ⟨k + 1, F2, G, st, by omega, by go_num, M, by omega, by omega, HL1⟩
                case measure => simp [intOf]; omega
              · refine (oopen_no hO F _ st q z0 z1 z2 z3 z4 z5 z6 z8 z9 _ _ _ _ _ _ (by omega) bhq bbq fhq fbq (fun i h => hhit ⟨i, h⟩) _ M.inv shF sbF).mono ?_
                rintro e w20 ⟨zo, co, F2, rfl, hK2⟩
                replace bS : SBox _ B1 (.slice (some ⟨gr, 0, none⟩) ndy cr) 18446744073709551615 (nv ((tagI (i + 1)).2 ^^^ by_)) := off_block bS hK2.off hB1.1
                replace bK : Box _ b12 (nv ky.1) (nv ky.2) := off_block bK hK2.off hb12.1
                replace bN : NBox _ b13 ny := off_block bN hK2.off hb13.1
                have sh2 := (shF.off hK2.off (fun k _ h => h)).sat
                have sb2 := (sbF.off hK2.off (fun k _ h => h)).sat
                replace M := M.o hK2
                clear hK2
                have k0 := bK.c0
                have k1 := bK.c1
                have k2 := bN.c0
                have k3 := bN.c1
                have k4 := bN.c2
                have k5 := bS.c0
                have k6 := bS.c1
                have k7 := bS.c2
                go_wp2_with fail
                clear k0 k1 k2 k3 k4 k5 k6 k7
                refine (roopen_no G bx st q z0 z1 z2 z3 z4 z5 z6 z8 z9 _ _ _ _ _ _ (by omega) bhq bbq (fun i h => hhit ⟨i, h⟩) _ M.rin sh2 sb2).mono ?_
                rintro e w21 ⟨rfl, hb⟩
                replace M := M.quiet hO hb
                clear hb
                have e0_ := fun w => conv_empty zo co w
                have e1_ := fun w => conv_empty none 0 w
                go_wp2
                go_roundw
                case rel => exact ⟨k + 1, F2, G, st, by omega, by go_num, M, by omega, by omega, HL1⟩
                case measure => simp [intOf]; omega
            · have hn2 : decide (0 ≤ num) = true := decide_eq_true (by omega)
              have hn3 : decide (num < (st.1.length : Int)) = false := decide_eq_false hn4
              refine takeL 2 101 (v := ?_) rfl rfl (by kernel_rfl) (by kernel_rfl) (by kernel_rfl) (fun _ _ _ h => h) (by rfl) hHeld (fun w hSw => ?_) ?_
              rotate_left 1
              · (try dsimp only at hSw)
                clear hSw
                go_simp
                try with_reducible rfl
              simp only [List.set_cons_succ, List.set_cons_zero]
              refine takeM 3 102 101 rfl rfl rfl (by kernel_rfl) (by kernel_rfl) (by kernel_rfl) (fun _ _ _ h => h) (by rfl) hHeld rfl ?_
              simp only [List.set_cons_succ, List.set_cons_zero]
              refine takeL 4 103 (v := ?_) rfl rfl (by kernel_rfl) (by kernel_rfl) (by kernel_rfl) (fun _ _ _ h => h) (by rfl) hHeld (fun w hSw => ?_) ?_
              rotate_left 1
              · (try dsimp only at hSw)
                clear hSw
                go_simp
                try with_reducible rfl
              simp only [List.set_cons_succ, List.set_cons_zero]
              refine takeL 5 104 (v := ?_) rfl rfl (by kernel_rfl) (by kernel_rfl) (by kernel_rfl) (fun _ _ _ h => h) (by rfl) hHeld (fun w hSw => ?_) ?_
              rotate_left 1
              · (try dsimp only at hSw)
                have hx_ := aB.grown hSw
                have e8_ := hx_.c8
                clear hx_
                clear hSw
                go_simp
                try with_reducible rfl
              simp only [List.set_cons_succ, List.set_cons_zero]
              refine takeM 6 105 4 rfl rfl rfl (by kernel_rfl) (by kernel_rfl) (by kernel_rfl) (fun _ _ _ h => h) (by rfl) hHeld rfl ?_
              simp only [List.set_cons_succ, List.set_cons_zero]
              refine takeL 7 106 (v := ?_) rfl rfl (by kernel_rfl) (by kernel_rfl) (by kernel_rfl) (fun _ _ _ h => h) (by rfl) hHeld (fun w hSw => ?_) ?_
              rotate_left 1
              · (try dsimp only at hSw)
                clear hSw
                go_simp
                try with_reducible rfl
              simp only [List.set_cons_succ, List.set_cons_zero]
              refine takeL 8 107 (v := ?_) rfl rfl (by kernel_rfl) (by kernel_rfl) (by kernel_rfl) (fun _ _ _ h => h) (by rfl) hHeld (fun w hSw => ?_) ?_
              rotate_left 1
              · (try dsimp only at hSw)
                clear hSw
                go_simp
                try with_reducible rfl
              simp only [List.set_cons_succ, List.set_cons_zero]
              refine takeL 9 108 (v := ?_) rfl rfl (by kernel_rfl) (by kernel_rfl) (by kernel_rfl) (fun _ _ _ h => h) (by rfl) hHeld (fun w hSw => ?_) ?_
              rotate_left 1
              · (try dsimp only at hSw)
                have e0_ := (hSw.cell (p := ⟨bx, 0, none⟩) hbxlt).trans hc0
                clear hSw
                go_simp
                try with_reducible rfl
              simp only [List.set_cons_succ, List.set_cons_zero]
              refine takeL 10 109 (v := ?_) rfl rfl (by kernel_rfl) (by kernel_rfl) (by kernel_rfl) (fun _ _ _ h => h) (by rfl) hHeld (fun w hSw => ?_) ?_
              rotate_left 1
              · (try dsimp only at hSw)
                clear hSw
                go_simp
                try with_reducible rfl
              simp only [List.set_cons_succ, List.set_cons_zero]
              refine takeL 11 110 (v := ?_) rfl rfl (by kernel_rfl) (by kernel_rfl) (by kernel_rfl) (fun _ _ _ h => h) (by rfl) hHeld (fun w hSw => ?_) ?_
              rotate_left 1
              · (try dsimp only at hSw)
                clear hSw
                go_simp
                try with_reducible rfl
              simp only [List.set_cons_succ, List.set_cons_zero]
              refine takeL 12 111 (v := ?_) rfl rfl (by kernel_rfl) (by kernel_rfl) (by kernel_rfl) (fun _ _ _ h => h) (by rfl) hHeld (fun w hSw => ?_) ?_
              rotate_left 1
              · (try dsimp only at hSw)
                clear hSw
                go_simp
                try with_reducible rfl
              simp only [List.set_cons_succ, List.set_cons_zero]
              refine wpAnyH_done (by kernel_rfl) ?_ _
              clear hHeld hn2 hn3
              have hb : Below w5.heap.size w5 w5.drew := (Below.refl _ _).drew
              replace M := M.quiet hO hb
              replace aB := aB.grown hb
              replace bS := bS.grown hb
              replace bK := bK.grown hb
              replace bN := bN.grown hb
              replace hrd := hrd.below hb
              replace hc0 := (hb.cell (p := ⟨bx, 0, none⟩) hbxlt).trans hc0
              replace hbxlt : bx < w5.drew.heap.size := hbxlt
              clear hb hR hiff hltG
              generalize w5.drew = w6 at *
              have shF := M.inF sh
              have sbF := M.inF sd
              have bhq := bh
              have bbq := bd
              have fhq := fh
              have fbq := fd
              obtain ⟨q, HQ⟩ : ∃ q : Ask, Hid (q = ⟨key, nn, hs, ds, (0#64, 0#64)⟩) := ⟨_, rfl⟩
              have z0 : nv q.key.1 = nv key.1 := by rw [HQ.out]
              have z1 : nv q.key.2 = nv key.2 := by rw [HQ.out]
              have z2 : nv32 q.non.1 = nv32 nn.1 := by rw [HQ.out]
              have z3 : nv32 q.non.2.1 = nv32 nn.2.1 := by rw [HQ.out]
              have z4 : nv q.non.2.2 = nv nn.2.2 := by rw [HQ.out]
              have z5 : nv q.tag.1 = 0 := by rw [HQ.out]; rfl
              have z6 : nv q.tag.2 = 0 := by rw [HQ.out]; rfl
              have z8 : q.head = hs := by rw [HQ.out]
              have z9 : q.bytes = ds := by rw [HQ.out]
              have k0 := bK.c0
              have k1 := bK.c1
              have k2 := bN.c0
              have k3 := bN.c1
              have k4 := bN.c2
              have k5 := bS.c0
              have k6 := bS.c1
              have k7 := bS.c2
              go_wp2_with fail
              clear k0 k1 k2 k3 k4 k5 k6 k7
              by_cases hhit : ∃ i, Hit st.1 q i
              · obtain ⟨i0, hit⟩ := hhit
                obtain ⟨da, HDa⟩ : ∃ da, Hid ((st.1.getD i0 default).data = da) := ⟨_, rfl⟩
                obtain ⟨la, HLa⟩ : ∃ la, Hid (da.length = la) := ⟨_, rfl⟩
                refine (oopen_yes hO F _ st q i0 z0 z1 z2 z3 z4 z5 z6 z8 z9 HDa.out HLa.out _ _ _ _ _ _ (by omega) bhq bbq fhq fbq hit _ M.inv shF sbF).mono ?_
                rintro e w20 ⟨zo, co, F2, rfl, hK2, so⟩
                replace bS : SBox _ B1 (.slice d nd dc) 0 0 := off_block bS hK2.off hB1.1
                replace bK : Box _ b12 (nv key.1) (nv key.2) := off_block bK hK2.off hb12.1
                replace bN : NBox _ b13 nn := off_block bN hK2.off hb13.1
                have hw20 := hK2.off.size
                have sh2 := (shF.off hK2.off (fun k _ h => h)).sat
                have sb2 := (sbF.off hK2.off (fun k _ h => h)).sat
                replace M := M.o hK2
                clear hK2
                replace so := so.sat
                have k0 := bK.c0
                have k1 := bK.c1
                have k2 := bN.c0
                have k3 := bN.c1
                have k4 := bN.c2
                have k5 := bS.c0
                have k6 := bS.c1
                have k7 := bS.c2
                go_wp2_with fail
                clear k0 k1 k2 k3 k4 k5 k6 k7
                refine (roopen_yes G bx st q i0 z0 z1 z2 z3 z4 z5 z6 z8 z9 HDa.out HLa.out _ _ _ _ _ _ (by omega) bhq bbq hit _ M.rin sh2 sb2).mono ?_
                rintro e w21 ⟨uo, cu, rfl, su, hb⟩
                replace so := so.below hb
                replace M := M.quiet hO hb
                clear hb
                have e0_ := fun c => so.conv (c := c)
                have e1_ := fun c => su.conv (c := c)
                go_wp2
                go_roundw
                case rel => exact ⟨k + 1, F2, G, st, by omega, by go_num, M, by omega, by omega, HL1⟩
                case measure => simp [intOf]; omega
              · refine (oopen_no hO F _ st q z0 z1 z2 z3 z4 z5 z6 z8 z9 _ _ _ _ _ _ (by omega) bhq bbq fhq fbq (fun i h => hhit ⟨i, h⟩) _ M.inv shF sbF).mono ?_
                rintro e w20 ⟨zo, co, F2, rfl, hK2⟩
                replace bS : SBox _ B1 (.slice d nd dc) 0 0 := off_block bS hK2.off hB1.1
                replace bK : Box _ b12 (nv key.1) (nv key.2) := off_block bK hK2.off hb12.1
                replace bN : NBox _ b13 nn := off_block bN hK2.off hb13.1
                have sh2 := (shF.off hK2.off (fun k _ h => h)).sat
                have sb2 := (sbF.off hK2.off (fun k _ h => h)).sat
                replace M := M.o hK2
                clear hK2
                have k0 := bK.c0
                have k1 := bK.c1
                have k2 := bN.c0
                have k3 := bN.c1
                have k4 := bN.c2
                have k5 := bS.c0
                have k6 := bS.c1
                have k7 := bS.c2
                go_wp2_with fail
                clear k0 k1 k2 k3 k4 k5 k6 k7
                refine (roopen_no G bx st q z0 z1 z2 z3 z4 z5 z6 z8 z9 _ _ _ _ _ _ (by omega) bhq bbq (fun i h => hhit ⟨i, h⟩) _ M.rin sh2 sb2).mono ?_
                rintro e w21 ⟨rfl, hb⟩
                replace M := M.quiet hO hb
                clear hb
                have e0_ := fun w => conv_empty zo co w
                have e1_ := fun w => conv_empty none 0 w
                go_wp2
                go_roundw
                case rel => exact ⟨k + 1, F2, G, st, by omega, by go_num, M, by omega, by omega, HL1⟩
                case measure => simp [intOf]; omega
        · skip
          go_wp2_with fail
          generalize wr.alloc (.cells #[.int .i64 kd, .int .u64 (nv key.1), .int .u64 (nv key.2), .int .u32 (nv32 nn.1), .int .u32 (nv32 nn.2.1), .int .u64 (nv nn.2.2), .slice h nh hc, .slice d nd dc, .int .i64 num, .int .u64 (nv by_)] 39) = w1 at *
          generalize wr.heap.size = A at *
          clear ak g0 g1 g2 g3 g4 g5 g6 g7 g8 g9
          refine wp_region_held_drew (S := fun w' => w'.cell? ⟨A, 7, none⟩ = some (.slice d nd dc)) (by kernel_rfl) aB.c7 (fun hHeld => ?_)
          refine takeM 0 41 3 rfl rfl rfl (by kernel_rfl) (by kernel_rfl) (by kernel_rfl) (fun _ _ _ h => h) (by rfl) hHeld rfl ?_
          simp only [List.set_cons_succ, List.set_cons_zero]
          refine takeL 1 42 (v := ?_) rfl rfl (by kernel_rfl) (by kernel_rfl) (by kernel_rfl) (fun _ _ _ h => h) (by rfl) hHeld (fun w hSw => ?_) ?_
          rotate_left 1
          · (try dsimp only at hSw)
            clear hSw
            go_simp
            try with_reducible rfl
          simp only [List.set_cons_succ, List.set_cons_zero]
          refine takeL 2 43 (v := ?_) rfl rfl (by kernel_rfl) (by kernel_rfl) (by kernel_rfl) (fun _ _ _ h => h) (by rfl) hHeld (fun w hSw => ?_) ?_
          rotate_left 1
          · (try dsimp only at hSw)
            have e0_ := hSw
            clear hSw
            go_simp
            try with_reducible rfl
          simp only [List.set_cons_succ, List.set_cons_zero]
          refine takeM 5 46 4 rfl rfl rfl (by kernel_rfl) (by kernel_rfl) (by kernel_rfl) (fun _ _ _ h => h) (by rfl) hHeld rfl ?_
          simp only [List.set_cons_succ, List.set_cons_zero]
          refine takeL 6 47 (v := ?_) rfl rfl (by kernel_rfl) (by kernel_rfl) (by kernel_rfl) (fun _ _ _ h => h) (by rfl) hHeld (fun w hSw => ?_) ?_
          rotate_left 1
          · (try dsimp only at hSw)
            clear hSw
            go_simp
            try with_reducible rfl
          simp only [List.set_cons_succ, List.set_cons_zero]
          refine takeL 7 48 (v := ?_) rfl rfl (by kernel_rfl) (by kernel_rfl) (by kernel_rfl) (fun _ _ _ h => h) (by rfl) hHeld (fun w hSw => ?_) ?_
          rotate_left 1
          · (try dsimp only at hSw)
            have e0_ := hSw
            clear hSw
            go_simp
            try with_reducible rfl
          simp only [List.set_cons_succ, List.set_cons_zero]
          replace M := M.quiet hO (Below.refl w1.heap.size w1).drew
          replace aB := aB.grown (Below.refl w1.heap.size w1).drew
          clear hGlt
          generalize w1.drew = wd at *
          have hb : Below wd.heap.size wd (wd.alloc (.cells #[.slice d nd dc] 37)) := (Below.refl _ _).alloc (Nat.le_refl _) _
          have lr := lin_one (G := fun k => ¬ F k) wd (M.newF hO).1 (M.inF sd) fd.1 fd.2.1 fd.2.2 bd
          refine onlyL 3 rfl (by kernel_rfl) (by rfl) (fun K hK => ?_)
          go_wp2
          replace M := M.quiet hO hb
          replace aB := aB.grown hb
          clear hb
          refine hK.out _ _ aB.c7 (fun hHeld => ?_)
          clear hK K
          generalize wd.alloc (.cells #[.slice d nd dc] 37) = w2 at *
          generalize wd.heap.size = B2 at *
          refine onlyL 4 rfl (by kernel_rfl) (by rfl) (fun K hK => ?_)
          go_wp2_with fail
          refine (osum_one hO F _ st ds _ (by rw [HD.out]; omega) (by omega) (by simp) _ M.inv lr).mono ?_
          rintro e w3 ⟨F2, rfl, hK2⟩
          have hA2 : ¬ F2 A := fun e => (hK2.sub A e).elim hA.1 (fun e => by have := aB.lt; omega)
          replace aB : ABox _ A kd key nn h nh hc d nd dc num by_ := off_block aB hK2.off (hA.1)
          replace M := M.o hK2
          clear hK2 lr
          refine hK.out _ _ aB.c7 (fun hHeld => ?_)
          clear hK K
          refine onlyL 8 rfl (by kernel_rfl) (by rfl) (fun K hK => ?_)
          go_wp2_with fail
          refine (rosum G bx st.1 st.2 ds d nd dc (by omega) bd _ M.rin (M.inG sd)).mono ?_
          rintro e w4 ⟨rfl, G2, hR, hsub, hoff⟩
          replace aB : ABox _ A kd key nn h nh hc d nd dc num by_ := off_block aB hoff (hA.2)
          replace M := M.x hO hR hsub hoff
          clear hR hsub hoff
          refine hK.out _ _ aB.c7 (fun hHeld => ?_)
          clear hK K
          refine takeL 9 50 (v := ?_) rfl rfl (by kernel_rfl) (by kernel_rfl) (by kernel_rfl) (fun _ _ _ h => h) (by rfl) hHeld (fun w hSw => ?_) ?_
          rotate_left 1
          · (try dsimp only at hSw)
            clear hSw
            go_simp
            try with_reducible rfl
          simp only [List.set_cons_succ, List.set_cons_zero]
          refine wpAnyH_done (by kernel_rfl) ?_ _
          go_wp2
          go_roundw
          case rel => exact ⟨k + 1, F2, G2, (st.1, sumSt st.2 ds), by omega, by go_num, M, by dsimp only; omega, by have := sumSt_len st.2 ds; dsimp only; omega, HL1⟩
          case measure => simp [intOf]; omega
    · obtain rfl : k = m := by omega
      obtain ⟨FL, FS, vL, vS, hR, hiff, hltG⟩ := M.rin
      obtain ⟨yL, cL, rfl, hcL, hrd⟩ := irow_rd hR.iss
      have hbG : G bx := (hiff bx).2 (Or.inl rfl)
      have hbF : ¬ F bx := fun h => M.dis bx h hbG
      have hc0 := hR.box.c0
      have hblt := hR.box.lt
      go_wp2_with fail
      refine wp_region_held_drew (S := fun w' => w'.cell? ⟨bx, 0, none⟩ = some (.slice yL st.1.length cL)) (by kernel_rfl) hc0 (fun hHeld => ?_)
      refine takeM 0 171 3 rfl rfl rfl (by kernel_rfl) (by kernel_rfl) (by kernel_rfl) (fun _ _ _ h => h) (by rfl) hHeld rfl ?_
      simp only [List.set_cons_succ, List.set_cons_zero]
      refine takeL 1 172 (v := ?_) rfl rfl (by kernel_rfl) (by kernel_rfl) (by kernel_rfl) (fun _ _ _ h => h) (by rfl) hHeld (fun w hSw => ?_) ?_
      rotate_left 1
      · (try dsimp only at hSw)
        clear hSw
        go_simp
        try with_reducible rfl
      simp only [List.set_cons_succ, List.set_cons_zero]
      refine takeM 2 173 172 rfl rfl rfl (by kernel_rfl) (by kernel_rfl) (by kernel_rfl) (fun _ _ _ h => h) (by rfl) hHeld rfl ?_
      simp only [List.set_cons_succ, List.set_cons_zero]
      refine takeM 3 174 3 rfl rfl rfl (by kernel_rfl) (by kernel_rfl) (by kernel_rfl) (fun _ _ _ h => h) (by rfl) hHeld rfl ?_
      simp only [List.set_cons_succ, List.set_cons_zero]
      refine takeM 5 176 4 rfl rfl rfl (by kernel_rfl) (by kernel_rfl) (by kernel_rfl) (fun _ _ _ h => h) (by rfl) hHeld rfl ?_
      simp only [List.set_cons_succ, List.set_cons_zero]
      refine takeL 6 177 (v := ?_) rfl rfl (by kernel_rfl) (by kernel_rfl) (by kernel_rfl) (fun _ _ _ h => h) (by rfl) hHeld (fun w hSw => ?_) ?_
      rotate_left 1
      · (try dsimp only at hSw)
        clear hSw
        go_simp
        try with_reducible rfl
      simp only [List.set_cons_succ, List.set_cons_zero]
      refine takeL 7 178 (v := ?_) rfl rfl (by kernel_rfl) (by kernel_rfl) (by kernel_rfl) (fun _ _ _ h => h) (by rfl) hHeld (fun w hSw => ?_) ?_
      rotate_left 1
      · (try dsimp only at hSw)
        clear hSw
        go_simp
        try with_reducible rfl
      simp only [List.set_cons_succ, List.set_cons_zero]
      refine takeL 8 179 (v := ?_) rfl rfl (by kernel_rfl) (by kernel_rfl) (by kernel_rfl) (fun _ _ _ h => h) (by rfl) hHeld (fun w hSw => ?_) ?_
      rotate_left 1
      · (try dsimp only at hSw)
        have e0_ := hSw
        clear hSw
        go_simp
        try with_reducible rfl
      simp only [List.set_cons_succ, List.set_cons_zero]
      have hb : Below wr.heap.size wr wr.drew := (Below.refl _ _).drew
      replace M := M.quiet hO hb
      replace hrd := hrd.below hb
      clear hb
      have hblt2 : bx < wr.drew.heap.size := hblt
      generalize wr.drew = w1 at *
      clear hblt
      refine onlyL 4 rfl (by kernel_rfl) (by rfl) (fun K hK => ?_)
      go_wp2_with fail
      refine (hO.issued F _ st (by omega) _ M.inv).mono ?_
      rintro e w2 ⟨z, cz, F2, rfl, hK2, rd, hcz, _⟩
      have hHeld2 : w2.cell? ⟨bx, 0, none⟩ = some (.slice yL st.1.length cL) := (hK2.off.cell (p := ⟨bx, 0, none⟩) hblt2 hbF).trans hHeld
      have hbF2 : ¬ F2 bx := fun e => (hK2.sub bx e).elim hbF (fun e => by omega)
      have hblt3 := Nat.lt_of_lt_of_le hblt2 hK2.off.size
      have hR2 := (M.o hK2).rin
      obtain ⟨FL2, FS2, vL2, vS2, hRR, _, _⟩ := hR2
      obtain ⟨yL2, cL2, rfl, _, hrd2⟩ := irow_rd hRR.iss
      have hsame := hRR.box.c0
      rw [hHeld2] at hsame
      simp at hsame
      obtain ⟨rfl, rfl⟩ := hsame
      replace M := M.o hK2
      have rd2 := rd.rd
      clear hK2 rd hrd hRR
      refine hK.out _ _ hHeld2 (fun hHeld => ?_)
      clear hK K hHeld2
      refine onlyL 9 rfl (by kernel_rfl) (by rfl) (fun K hK => ?_)
      go_wp2_with fail
      refine (rosame st.1 z yL _ cz cL (by omega) _ rd2 hrd2).mono ?_
      rintro e w3 ⟨rfl, hb⟩
      have hHeld3 : w3.cell? ⟨bx, 0, none⟩ = some (.slice yL st.1.length cL) := (hb.cell (p := ⟨bx, 0, none⟩) hblt3).trans hHeld
      have hblt4 := Nat.lt_of_lt_of_le hblt3 hb.size
      replace M := M.quiet hO hb
      clear hb rd2 hrd2
      refine hK.out _ _ hHeld3 (fun hHeld => ?_)
      clear hK K hHeld3
      refine takeL 10 181 (v := ?_) rfl rfl (by kernel_rfl) (by kernel_rfl) (by kernel_rfl) (fun _ _ _ h => h) (by rfl) hHeld (fun w hSw => ?_) ?_
      rotate_left 1
      · (try dsimp only at hSw)
        clear hSw
        go_simp
        try with_reducible rfl
      simp only [List.set_cons_succ, List.set_cons_zero]
      refine takeM 11 182 181 rfl rfl rfl (by kernel_rfl) (by kernel_rfl) (by kernel_rfl) (fun _ _ _ h => h) (by rfl) hHeld rfl ?_
      simp only [List.set_cons_succ, List.set_cons_zero]
      refine takeM 12 183 3 rfl rfl rfl (by kernel_rfl) (by kernel_rfl) (by kernel_rfl) (fun _ _ _ h => h) (by rfl) hHeld rfl ?_
      simp only [List.set_cons_succ, List.set_cons_zero]
      refine takeM 14 185 4 rfl rfl rfl (by kernel_rfl) (by kernel_rfl) (by kernel_rfl) (fun _ _ _ h => h) (by rfl) hHeld rfl ?_
      simp only [List.set_cons_succ, List.set_cons_zero]
      obtain ⟨tw, htw⟩ : ∃ tw : Bool, tw = true ↔ Two st.1 := by
        by_cases h : Two st.1
        · exact ⟨true, fun _ => h, fun _ => rfl⟩
        · exact ⟨false, fun e => (by cases e), fun e => absurd e h⟩
      refine onlyL 13 rfl (by kernel_rfl) (by rfl) (fun K hK => ?_)
      go_wp2_with fail
      refine (hO.twice F2 _ st tw (by omega) htw _ M.inv).mono ?_
      rintro e w4 ⟨F3, rfl, hK2⟩
      have hHeld4 : w4.cell? ⟨bx, 0, none⟩ = some (.slice yL st.1.length cL) := (hK2.off.cell (p := ⟨bx, 0, none⟩) hblt4 hbF2).trans hHeld
      have hblt5 := Nat.lt_of_lt_of_le hblt4 hK2.off.size
      replace M := M.o hK2
      clear hK2
      refine hK.out _ _ hHeld4 (fun hHeld => ?_)
      clear hK K hHeld4
      refine onlyL 15 rfl (by kernel_rfl) (by rfl) (fun K hK => ?_)
      go_wp2_with fail
      refine (rtwice G bx st (by omega) tw htw _ M.rin).mono ?_
      rintro e w5 ⟨rfl, hb⟩
      have hHeld5 : w5.cell? ⟨bx, 0, none⟩ = some (.slice yL st.1.length cL) := (hb.cell (p := ⟨bx, 0, none⟩) hblt5).trans hHeld
      have hblt6 := Nat.lt_of_lt_of_le hblt5 hb.size
      replace M := M.quiet hO hb
      clear hb htw
      refine hK.out _ _ hHeld5 (fun hHeld => ?_)
      clear hK K hHeld5
      refine takeL 16 187 (v := ?_) rfl rfl (by kernel_rfl) (by kernel_rfl) (by kernel_rfl) (fun _ _ _ h => h) (by rfl) hHeld (fun w hSw => ?_) ?_
      rotate_left 1
      · (try dsimp only at hSw)
        clear hSw
        go_simp
        try with_reducible rfl
      simp only [List.set_cons_succ, List.set_cons_zero]
      refine takeL 17 188 (v := ?_) rfl rfl (by kernel_rfl) (by kernel_rfl) (by kernel_rfl) (fun _ _ _ h => h) (by rfl) hHeld (fun w hSw => ?_) ?_
      rotate_left 1
      · (try dsimp only at hSw)
        clear hSw
        go_simp
        try with_reducible rfl
      simp only [List.set_cons_succ, List.set_cons_zero]
      refine takeM 18 189 188 rfl rfl rfl (by kernel_rfl) (by kernel_rfl) (by kernel_rfl) (fun _ _ _ h => h) (by rfl) hHeld rfl ?_
      simp only [List.set_cons_succ, List.set_cons_zero]
      refine onlyL 19 rfl (by kernel_rfl) (by rfl) (fun K hK => ?_)
      go_wp2_with fail
      refine (oknown hO _).mono ?_
      rintro e w6 ⟨rfl, hb⟩
      have hHeld6 : w6.cell? ⟨bx, 0, none⟩ = some (.slice yL st.1.length cL) := (hb.cell (p := ⟨bx, 0, none⟩) hblt6).trans hHeld
      replace M := M.quiet hO hb
      refine hK.out _ _ hHeld6 (fun hHeld => ?_)
      clear hK K hHeld6
      refine takeL 20 191 (v := ?_) rfl rfl (by kernel_rfl) (by kernel_rfl) (by kernel_rfl) (fun _ _ _ h => h) (by rfl) hHeld (fun w hSw => ?_) ?_
      rotate_left 1
      · (try dsimp only at hSw)
        clear hSw
        go_simp
        try with_reducible rfl
      simp only [List.set_cons_succ, List.set_cons_zero]
      refine takeA 21 2 191 rfl rfl rfl (by kernel_rfl) (by kernel_rfl) (by kernel_rfl) (fun _ _ _ h => h) (by rfl) hHeld rfl ?_
      simp only [List.set_cons_succ, List.set_cons_zero]
      refine wpAnyH_done (by kernel_rfl) ?_ _
      go_wp2
      go_ret
      exact ⟨rfl, M.hB⟩
end Go.Proofs.Ytfgigbecmhmidaa
