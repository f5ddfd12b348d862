/- KeysPlays' walk. -/
import Derived.Test.YtcfbdbjonmjplaaKeyKnown
import Derived.Test.YtcfbdbjonmjplaaRefKeyE
import Derived.Test.YtcfbdbjonmjplaaRefKeyK
import Derived.Test.YtcfbdbjonmjplaaViewKA
import Derived.Test.YtcfbdbjonmjplaaEqP
import Derived.Test.YtcfbdbjonmjplaaRegion
namespace Go.Proofs.Ytcfbdbjonmjplaa
open Go.RowKit
set_option maxRecDepth 20000
variable {PI : (Nat → Prop) → World → Value → PSt → Prop} {KI : Option Addr → (Nat → Prop) → World → Value → KSt → Prop}
/-- The document's keys with their power. -/
abbrev RKP (p : Option Addr) : (Nat → Prop) → World → Value → KP → Prop := PairI (RKInv p) RPInv (.pointer p)
theorem URow.ein {w : World} {g n cap lo : Nat} (h : URow w g n cap lo) : EIn w (some ⟨g, 0, none⟩) n lo := fun _ => ⟨g, 0, rfl, h.lt, fun i hi => by rw [Nat.zero_add]; exact h.cell hi⟩
theorem rk_parts {p : Option Addr} {H : Nat → Prop} {w : World} {bx : Nat} {s : KP} (h : RKP p H w (.pointer (some ⟨bx, 0, none⟩)) s) : ∃ g n cap, Hid (n + s.1.2.1 = s.1.2.2 + 1) ∧ CBox 44 w bx #[.pointer p, .int .u64 (nv s.1.1), .slice (some ⟨g, 0, none⟩) n cap] ∧ URow w g n cap s.1.2.1 := by
  obtain ⟨F, G, ⟨b, g, n, cap, hn, e, hc, _, hu, _⟩, _⟩ := h
  obtain rfl : bx = b := by simpa using e
  exact ⟨g, n, cap, hn, hc, hu⟩
theorem rkadd_at (p : Option Addr) (H : Nat → Prop) (v : Value) {s s' : KP} {r : Bool} (h : dAdd s = (r, s')) (h1 : KOk s.1) (h2 : s.2.2.2 ≤ 1000000) (w : World) (hI : RKP p H w v s) : Calls Try.prog 11 #[v] w fun e w' => ∃ H', e = .returned (.bool r) ∧ KeptG (RKP p) H w v H' w' s' := by
  obtain ⟨F, G, a, b, c, d⟩ := hI
  have e1 : r = (pSpend s.2).1 := congrArg Prod.fst h.symm
  have e2 : s' = (dAdd s).2 := congrArg Prod.snd h.symm
  subst e1 e2
  exact (rkadd p F G v s.1 s.2 h1 h2 w a b c).mono (by rintro e w' ⟨F', G', rfl, hK⟩; exact ⟨_, rfl, hK.pair d⟩)
theorem rkerase_at (p : Option Addr) (H : Nat → Prop) (v : Value) {s s' : KP} {r : Bool} {n : Nat} {z : Int} (hz : (n : Int) = z) (hn : U32 n) (h : dErase s n = (r, s')) (h1 : KOk s.1) (h2 : s.2.2.2 ≤ 1000000) (w : World) (hI : RKP p H w v s) : Calls Try.prog 13 #[v, .int .u32 z] w fun e w' => ∃ H', e = .returned (.bool r) ∧ KeptG (RKP p) H w v H' w' s' := by
  obtain ⟨F, G, a, b, c, d⟩ := hI
  have e1 : r = (pSpend s.2).1 := congrArg Prod.fst h.symm
  have e2 : s' = (dErase s n).2 := congrArg Prod.snd h.symm
  subst e1 e2 hz
  exact (rkerase p F G v s.1 s.2 n hn h1 h2 w a b c).mono (by rintro e w' ⟨F', G', rfl, hK⟩; exact ⟨_, rfl, hK.pair d⟩)
theorem rkcurrent_at (p : Option Addr) (H : Nat → Prop) (v : Value) (s : KP) (h1 : KOk s.1) (w : World) (hI : RKP p H w v s) : Calls Try.prog 19 #[v] w fun e w' => e = .returned (.int .u32 (s.1.2.2 : Int)) ∧ Below w.heap.size w w' := by
  obtain ⟨F, G, a, b, c, d⟩ := hI
  exact rkcurrent p F v s.1 h1 w a
theorem rkkey_at (p : Option Addr) (H : Nat → Prop) (v : Value) (s : KP) {n : Nat} {z : Int} (hz : (n : Int) = z) (hn : U32 n) (h1 : KOk s.1) (w : World) (hI : RKP p H w v s) : Calls Try.prog 23 #[v, .int .u32 z] w fun e w' => e = .returned (.tuple #[.agg #[.int .u64 (nv (kKey s.1 n).1), .int .u64 (nv (kKey s.1 n).2)], .bool (kHas s.1 n)]) ∧ Below w.heap.size w w' := by
  obtain ⟨F, G, a, b, c, d⟩ := hI
  subst hz
  exact rkkey p F v s.1 n h1 hn w a
theorem kback_at (hW : PowIs PI) (hO : KeysIs PI KI) (p : Option Addr) (H : Nat → Prop) (v : Value) (s : KP) (w : World) (hI : KPI PI KI p H w v s) : Calls Try.prog 16 #[.pointer p] w fun e w' => ∃ H', e = .returned (.tuple #[]) ∧ KeptG (KPI PI KI p) H w v H' w' (s.1, pBack s.2) := by
  obtain ⟨F, G, a, b, c, d⟩ := hI
  exact (hW.back G _ s.2 w b).mono (by rintro e w' ⟨G', rfl, hK⟩; exact ⟨_, rfl, hK.pair2 (hO.base p) a c d⟩)
theorem kfuse_at (hW : PowIs PI) (hO : KeysIs PI KI) (p : Option Addr) (H : Nat → Prop) (v : Value) (s : KP) (n : Int) (hn : n ≤ 9223372036854775807) (w : World) (hI : KPI PI KI p H w v s) : Calls Try.prog 14 #[.pointer p, .int .i64 n] w fun e w' => ∃ H', e = .returned (.tuple #[]) ∧ KeptG (KPI PI KI p) H w v H' w' (s.1, pFuse s.2 n) := by
  obtain ⟨F, G, a, b, c, d⟩ := hI
  exact (hW.fuse G _ s.2 n hn w b).mono (by rintro e w' ⟨G', rfl, hK⟩; exact ⟨_, rfl, hK.pair2 (hO.base p) a c d⟩)
theorem rkback_at (p : Option Addr) (H : Nat → Prop) (v : Value) (s : KP) (w : World) (hI : RKP p H w v s) : Calls Try.prog 17 #[.pointer p] w fun e w' => ∃ H', e = .returned (.tuple #[]) ∧ KeptG (RKP p) H w v H' w' (s.1, pBack s.2) := by
  obtain ⟨F, G, a, b, c, d⟩ := hI
  exact (rback G _ s.2 w b).mono (by rintro e w' ⟨G', rfl, hK⟩; exact ⟨_, rfl, hK.pair2 (rkbase p) a c d⟩)
theorem rkfuse_at (p : Option Addr) (H : Nat → Prop) (v : Value) (s : KP) (n : Int) (hn : n ≤ 9223372036854775807) (w : World) (hI : RKP p H w v s) : Calls Try.prog 15 #[.pointer p, .int .i64 n] w fun e w' => ∃ H', e = .returned (.tuple #[]) ∧ KeptG (RKP p) H w v H' w' (s.1, pFuse s.2 n) := by
  obtain ⟨F, G, a, b, c, d⟩ := hI
  exact (rfuse G _ s.2 n hn w b).mono (by rintro e w' ⟨G', rfl, hK⟩; exact ⟨_, rfl, hK.pair2 (rkbase p) a c d⟩)
set_option maxHeartbeats 1000000 in
/-- Two rows of epochs that are one. -/
theorem ksame {x y : Option Addr} {n n' lo c d : Nat} (h0 : 0 < n) (hn : n' = n) {w0 : World} (hx : EIn w0 x n' lo) (hy : EIn w0 y n lo) (hs : n ≤ 1000000) : Calls Try.prog 20 #[.slice x n' c, .slice y n d] w0 fun e w' => e = .returned (.bool true) ∧ Below w0.heap.size w0 w' := by
  subst hn
  obtain ⟨b1, o1, rfl, hb1, hc1⟩ := hx h0
  obtain ⟨b2, o2, rfl, hb2, hc2⟩ := hy h0
  clear hx hy h0
  go_enter Try.func20, Try.ntmps20
  go_wp2_with fail
  go_loopw [5] (fun i wr => ∃ k : Nat, k ≤ n' ∧ i = .int .i64 (k : Int) ∧ Below w0.heap.size w0 wr) (fun i _ => n' - (intOf i).toNat)
  case atStart => exact ⟨0, Nat.zero_le _, rfl, Below.refl _ _⟩
  case round =>
    obtain ⟨k, hk, rfl, hB⟩ := hrel
    by_cases hlt : k < n'
    · have hlt' : (k : Int) < n' := by omega
      have hw : IntKind.i64.wrap ((k : Int) + 1) = (k : Int) + 1 := by
        rw [IntKind.wrap_i64]
        omega
      have d1 := (hB.cell (p := ⟨b1, o1 + k, none⟩) hb1).trans (hc1 k hlt)
      have d2 := (hB.cell (p := ⟨b2, o2 + k, none⟩) hb2).trans (hc2 k hlt)
      generalize ((lo + k : Nat) : Int) = z at *
      go_wp2
      go_region
      have hB' := hB.drew
      go_wp2
      go_roundw
      case rel => exact ⟨k + 1, by omega, by go_num, hB'⟩
      case measure => simp [intOf]; omega
    · have hlt' : ¬ (k : Int) < n' := by omega
      go_wp2
      go_ret
      exact ⟨rfl, hB⟩
set_option maxHeartbeats 16000000 in
theorem kplays (hW : PowIs PI) (hO : KeysIs PI KI) (sd : BitVec 64) (x : Option Addr) (m c0 : Nat) (A : List (Int × Nat × Int)) (w : World) (f1 : m ≤ c0 ∧ c0 ≤ maxLen ∧ (x = none → m = 0 ∧ c0 = 0)) (s1 : RowsAt 3 KActR w x m A) :
    Calls Try.prog 3 #[.int .u64 (nv sd), .slice x m c0] w fun e w' => e = .returned (.bool true) ∧ Below w.heap.size w w' := by
  by_cases hm : 150 < m
  · have h1 : (150 : Int) < m := by omega
    go_enter Try.func3, Try.ntmps3
    go_wp2
    go_ret
    exact ⟨rfl, Below.refl _ _⟩
  have h1 : ¬ (150 : Int) < m := by omega
  have HM : Hid (m ≤ 150) := hide' (by omega)
  have heq := eq32
  go_enter Try.func3, Try.ntmps3
  go_wp2_with fail
  refine (hW.make _).mono ?_
  rintro e w1 ⟨v, G, rfl, hI, hG, hB⟩
  obtain ⟨a, rfl⟩ := hW.base.ptr hI
  have M0 : ObjIn PI w G (.pointer (some a)) (true, none, 0) w1 := ⟨hI, hG, hB⟩
  clear hI hG hB h1 hm
  have hN := CBox.new 28 w1 #[.bool false, .bool false, .int .i64 0, .int .i64 0]
  have M1 : Duo PI RPInv w G (.pointer (some a)) (true, none, 0) (fun k => k = w1.heap.size) (.pointer (some ⟨w1.heap.size, 0, none⟩)) (true, none, 0) (w1.alloc (.cells #[.bool false, .bool false, .int .i64 0, .int .i64 0] 28)) :=
    M0.duo hW.base ⟨_, rfl, ⟨false, 0, hN, hide' rfl⟩, fun _ => Iff.rfl⟩ (fun k hk => hk ▸ Nat.le_refl _) ((Below.refl _ _).alloc (Nat.le_refl _) _)
  clear hN M0
  go_wp2_with fail
  generalize w1.heap.size = bq at *
  generalize w1.alloc (.cells #[.bool false, .bool false, .int .i64 0, .int .i64 0] 28) = w2 at *
  refine (hO.make (some a) sd _).mono ?_
  rintro e w3 ⟨v, F, rfl, hI, hF, hB⟩
  obtain ⟨c, rfl⟩ := (hO.base _).ptr hI
  have M2 := (M1.pairOne hW.base rpbase hI hF hB).swap
  clear hI hF hB M1
  go_wp2_with fail
  refine (rkmake (some ⟨bq, 0, none⟩) sd _).mono ?_
  rintro e w4 ⟨v, F2, rfl, hI, hF, hB⟩
  obtain ⟨bx, hv⟩ : ∃ bx, v = .pointer (some ⟨bx, 0, none⟩) := by
    obtain ⟨b, _, _, _, _, e, _⟩ := hI
    exact ⟨b, e⟩
  subst hv
  have M := (M2.pairOne rpbase (pairbase (hO.base _) hW.base _) hI hF hB).swap
  clear hI hF hB M2
  go_wp2_with fail
  go_loopw [9] (fun i wr => ∃ (k : Nat) (H1 H2 : Nat → Prop) (s : KP), k ≤ m ∧ KBd k s ∧ i = .int .i64 (k : Int) ∧ Duo (KPI PI KI (some a)) (RKP (some ⟨bq, 0, none⟩)) w H1 (.pointer (some c)) s H2 (.pointer (some ⟨bx, 0, none⟩)) s wr) (fun i _ => m - (intOf i).toNat)
  case atStart => exact ⟨0, _, _, ((sd, 1, 1), (true, none, 0)), by omega, ⟨Nat.le_refl 1, Nat.le_refl 1, Nat.le_refl 1, Nat.le_refl 0⟩, rfl, M⟩
  case round =>
    clear M
    obtain ⟨k, H1, H2, s0, hk, hbd0, rfl, M⟩ := hrel
    by_cases hlt : k < m
    · have hlt' : (k : Int) < m := by omega
      have hw : IntKind.i64.wrap ((k : Int) + 1) = (k : Int) + 1 := by
        have := HM.out
        rw [IntKind.wrap_i64]
        omega
      have hk1000 : k + 1 ≤ 1000 := by
        have := HM.out
        omega
      have hok := hbd0.ok (Nat.le_of_succ_le hk1000)
      have hpw := hbd0.pw (Nat.le_of_succ_le hk1000)
      obtain ⟨b, o0, rfl, hb0, kd, be, nm, hbe, hnm, hc0, hc1, hc2⟩ := kact_at s1 hlt
      have hs0 := (M.hB.cell (p := ⟨b, o0 + k * 3, none⟩) hb0).trans hc0
      have HC1 := hide' hc1
      have HC2 := hide' hc2
      have HNM := hide' hnm
      clear hc0 hc1 hc2 hnm
      by_cases hk1 : kd = 1
      · subst hk1
        obtain ⟨r, s, hr⟩ : ∃ r s', dAdd s0 = (r, s') := ⟨_, _, rfl⟩
        have hbd := dAdd_bd hbd0
        rw [hr] at hbd
        dsimp only at hbd
        go_wp2_with fail
        refine (kadd_at hO (some a) H1 _ hr hok hpw _ M.one).mono ?_
        rintro e w5 ⟨H3, rfl, hK⟩
        replace M := M.o1 (pairbase (rkbase _) rpbase _) hK
        clear hK hs0
        go_wp2_with fail
        refine (rkadd_at _ H2 _ hr hok hpw _ M.two).mono ?_
        rintro e wr ⟨H4, rfl, hK⟩
        replace M := M.o2 (pairbase (hO.base _) hW.base _) hK
        clear hK hok hpw hbd0 hr s0
        have hok := hbd.ok hk1000
        have hsm : s.1.2.2 + 1 - s.1.2.1 ≤ 1000000 := by
          have h1 := hbd.2.2.1
          omega
        go_wp2_with fail
        obtain ⟨g, n, cap, hn, bX, hU⟩ := rk_parts M.two
        have hpos : 0 < n := by
          have h1 := hn.out
          have h2 := hok.2.1
          omega
        replace M := M.quiet (pairbase (hO.base _) hW.base _) (pairbase (rkbase _) rpbase _) (Below.refl _ _).drew
        have hS0 : Below wr.heap.size wr wr.drew := (Below.refl _ _).drew
        refine wp_region_held_drew (S := fun w' => Below wr.heap.size wr w') (by kernel_rfl) (Below.refl _ _).drew (fun hHeld => ?_)
        refine takeM 0 86 7 rfl rfl rfl (by kernel_rfl) (by kernel_rfl) (by kernel_rfl) (fun _ _ _ h => h) (by rfl) hHeld rfl ?_
        simp only [List.set_cons_succ, List.set_cons_zero]
        refine takeM 2 88 8 rfl rfl rfl (by kernel_rfl) (by kernel_rfl) (by kernel_rfl) (fun _ _ _ h => h) (by rfl) hHeld rfl ?_
        simp only [List.set_cons_succ, List.set_cons_zero]
        refine onlyL 1 rfl (by kernel_rfl) (by rfl) (fun K hK => ?_)
        go_wp2_with fail
        refine (kcurrent_at hO (some a) _ _ _ hok _ M.one).mono ?_
        rintro x wq1 ⟨rfl, hb⟩
        have hB0 := hS0.trans (hb.mono hS0.size)
        replace M := M.quiet (pairbase (hO.base _) hW.base _) (pairbase (rkbase _) rpbase _) hb
        clear hHeld hS0 hb
        refine hK.out _ _ hB0 (fun hHeld => ?_)
        clear hK K
        have hS0 := hB0
        clear hB0
        refine onlyL 3 rfl (by kernel_rfl) (by rfl) (fun K hK => ?_)
        go_wp2_with fail
        refine (rkcurrent_at _ _ _ _ hok _ M.two).mono ?_
        rintro x wq3 ⟨rfl, hb⟩
        have hB0 := hS0.trans (hb.mono hS0.size)
        replace M := M.quiet (pairbase (hO.base _) hW.base _) (pairbase (rkbase _) rpbase _) hb
        clear hHeld hS0 hb
        refine hK.out _ _ hB0 (fun hHeld => ?_)
        clear hK K
        have hS0 := hB0
        clear hB0
        refine takeL 4 90 (v := .bool false) rfl rfl (by kernel_rfl) (by kernel_rfl) (by kernel_rfl) (fun _ _ _ h => h) (by rfl) hHeld (fun w hSw => ?_) ?_
        · clear hSw
          go_simp
        simp only [List.set_cons_succ, List.set_cons_zero]
        refine takeM 5 91 90 rfl rfl rfl (by kernel_rfl) (by kernel_rfl) (by kernel_rfl) (fun _ _ _ h => h) (by rfl) hHeld rfl ?_
        simp only [List.set_cons_succ, List.set_cons_zero]
        refine takeM 6 92 7 rfl rfl rfl (by kernel_rfl) (by kernel_rfl) (by kernel_rfl) (fun _ _ _ h => h) (by rfl) hHeld rfl ?_
        simp only [List.set_cons_succ, List.set_cons_zero]
        refine takeM 8 94 8 rfl rfl rfl (by kernel_rfl) (by kernel_rfl) (by kernel_rfl) (fun _ _ _ h => h) (by rfl) hHeld rfl ?_
        simp only [List.set_cons_succ, List.set_cons_zero]
        refine takeL 9 95 (v := ?_) rfl rfl (by kernel_rfl) (by kernel_rfl) (by kernel_rfl) (fun _ _ _ h => h) (by rfl) hHeld (fun w hSw => ?_) ?_
        rotate_left 1
        · (try dsimp only at hSw)
          clear hSw
          go_simp
          try with_reducible rfl
        simp only [List.set_cons_succ, List.set_cons_zero]
        refine takeL 10 96 (v := ?_) rfl rfl (by kernel_rfl) (by kernel_rfl) (by kernel_rfl) (fun _ _ _ h => h) (by rfl) hHeld (fun w hSw => ?_) ?_
        rotate_left 1
        · (try dsimp only at hSw)
          clear hSw
          go_simp
          try with_reducible rfl
        simp only [List.set_cons_succ, List.set_cons_zero]
        refine takeL 11 97 (v := ?_) rfl rfl (by kernel_rfl) (by kernel_rfl) (by kernel_rfl) (fun _ _ _ h => h) (by rfl) hHeld (fun w hSw => ?_) ?_
        rotate_left 1
        · (try dsimp only at hSw)
          have e0_ := (bX.grown hSw).cell 2
          clear hSw
          go_simp
          try with_reducible rfl
        simp only [List.set_cons_succ, List.set_cons_zero]
        refine onlyL 7 rfl (by kernel_rfl) (by rfl) (fun K hK => ?_)
        go_wp2_with fail
        refine (kepochs_at hO (some a) _ _ _ hok _ M.one).mono ?_
        rintro x wq7 ⟨z, cz, rfl, hE, hb⟩
        have hU7 := hU.stay ((hS0.trans (hb.mono hS0.size)).block _ hU.lt)
        have hB0 := hS0.trans (hb.mono hS0.size)
        replace M := M.quiet (pairbase (hO.base _) hW.base _) (pairbase (rkbase _) rpbase _) hb
        clear hHeld hS0 hb
        refine hK.out _ _ hB0 (fun hHeld => ?_)
        clear hK K
        have hS0 := hB0
        clear hB0
        have hn7 : s.1.2.2 + 1 - s.1.2.1 = n := by
          have h1 := hn.out
          omega
        have hsn : n ≤ 1000000 := by omega
        have hy7 := hU7.ein
        have HS7 := ksame (c := cz) (d := cap) hpos hn7 hE hy7 hsn
        clear hy7 hsn hn7
        refine onlyL 12 rfl (by kernel_rfl) (by rfl) (fun K hK => ?_)
        go_wp2_with fail
        refine (HS7).mono ?_
        rintro x wq12 ⟨rfl, hb⟩
        have hB0 := hS0.trans (hb.mono hS0.size)
        replace M := M.quiet (pairbase (hO.base _) hW.base _) (pairbase (rkbase _) rpbase _) hb
        clear hHeld hS0 hb
        refine hK.out _ _ hB0 (fun hHeld => ?_)
        clear hK K
        have hS0 := hB0
        clear hB0
        refine takeL 13 99 (v := .bool false) rfl rfl (by kernel_rfl) (by kernel_rfl) (by kernel_rfl) (fun _ _ _ h => h) (by rfl) hHeld (fun w hSw => ?_) ?_
        · clear hSw
          go_simp
        simp only [List.set_cons_succ, List.set_cons_zero]
        refine takeL 14 100 (v := .bool false) rfl rfl (by kernel_rfl) (by kernel_rfl) (by kernel_rfl) (fun _ _ _ h => h) (by rfl) hHeld (fun w hSw => ?_) ?_
        · clear hSw
          go_simp
        simp only [List.set_cons_succ, List.set_cons_zero]
        refine wpAnyH_done (by kernel_rfl) ?_ _
        clear hS0 hE hU7 hU bX hpos hn HS7
        go_wp2_with fail
        go_loopw [10] (fun i wr => ∃ e : Nat, e ≤ 6 ∧ i = .int .u32 (e : Int) ∧ Duo (KPI PI KI (some a)) (RKP (some ⟨bq, 0, none⟩)) w H3 (.pointer (some c)) s H4 (.pointer (some ⟨bx, 0, none⟩)) s wr) (fun i _ => 6 - (intOf i).toNat)
        case atStart => exact ⟨0, by omega, rfl, M⟩
        case round =>
          clear M
          obtain ⟨e, he, rfl, M⟩ := hrel
          by_cases he6 : e < 6
          · have he6' : (e : Int) < 6 := by omega
            have hwe : IntKind.u32.wrap ((e : Int) + 1) = (e : Int) + 1 := by
              rw [IntKind.wrap_u32]
              omega
            have hue : U32 e := U32.small (by omega)
            go_wp2_with fail
            refine (kkey_at hO (some a) _ _ _ (n := e) rfl hue hok _ M.one).mono ?_
            rintro x wa ⟨rfl, hb⟩
            replace M := M.quiet (pairbase (hO.base _) hW.base _) (pairbase (rkbase _) rpbase _) hb
            clear hb
            obtain ⟨k1, hk1⟩ : ∃ z, nv (kKey s.1 e).1 = z := ⟨_, rfl⟩
            obtain ⟨k2, hk2⟩ : ∃ z, nv (kKey s.1 e).2 = z := ⟨_, rfl⟩
            obtain ⟨hh, hk3⟩ : ∃ z, kHas s.1 e = z := ⟨_, rfl⟩
            rw [hk1, hk2, hk3]
            have HK1 := hide' hk1
            have HK2 := hide' hk2
            have HK3 := hide' hk3
            clear hk1 hk2 hk3
            have bA := Box.new wa k1 k2
            have hb : Below wa.heap.size wa (wa.alloc (.cells #[.int .u64 k1, .int .u64 k2] 46)) := (Below.refl _ _).alloc (Nat.le_refl _) _
            replace M := M.quiet (pairbase (hO.base _) hW.base _) (pairbase (rkbase _) rpbase _) hb
            clear hb
            go_wp2_with fail
            generalize wa.alloc (.cells #[.int .u64 k1, .int .u64 k2] 46) = wb at *
            generalize wa.heap.size = ba at *
            refine (rkkey_at _ _ _ _ (n := e) rfl hue hok _ M.two).mono ?_
            rintro x wc ⟨rfl, hb⟩
            replace M := M.quiet (pairbase (hO.base _) hW.base _) (pairbase (rkbase _) rpbase _) hb
            replace bA := bA.grown hb
            clear hb
            rw [HK1.out, HK2.out, HK3.out]
            have bB := Box.new wc k1 k2
            have hb : Below wc.heap.size wc (wc.alloc (.cells #[.int .u64 k1, .int .u64 k2] 46)) := (Below.refl _ _).alloc (Nat.le_refl _) _
            replace M := M.quiet (pairbase (hO.base _) hW.base _) (pairbase (rkbase _) rpbase _) hb
            replace bA := bA.grown hb
            have a0 := bA.c0
            have a1 := bA.c1
            have b0 := bB.c0
            have b1 := bB.c1
            clear hb bA bB
            go_wp2
            go_roundw
            case rel => exact ⟨e + 1, by omega, by go_num, M⟩
            case measure => simp [intOf]; omega
          · have he6' : ¬ (e : Int) < 6 := by omega
            go_wp2
            go_roundw
            case rel => exact ⟨k + 1, _, _, s, by omega, hbd, by go_num, M⟩
            case measure => simp [intOf]; omega
      by_cases hk2 : kd = 2
      · subst hk2
        obtain ⟨r, s, hr⟩ : ∃ r s', dErase s0 be = (r, s') := ⟨_, _, rfl⟩
        have hbd := dErase_bd hbd0 be
        rw [hr] at hbd
        dsimp only at hbd
        go_wp2_with fail
        refine wp_region_held_drew (S := fun w' => Below w.heap.size w w') (by kernel_rfl) M.hB.drew (fun hHeld => ?_)
        refine takeM 0 55 7 rfl rfl rfl (by kernel_rfl) (by kernel_rfl) (by kernel_rfl) (fun _ _ _ h => h) (by rfl) hHeld rfl ?_
        simp only [List.set_cons_succ, List.set_cons_zero]
        refine takeM 1 56 1 rfl rfl rfl (by kernel_rfl) (by kernel_rfl) (by kernel_rfl) (fun _ _ _ h => h) (by rfl) hHeld rfl ?_
        simp only [List.set_cons_succ, List.set_cons_zero]
        refine takeM 2 57 9 rfl rfl rfl (by kernel_rfl) (by kernel_rfl) (by kernel_rfl) (fun _ _ _ h => h) (by rfl) hHeld rfl ?_
        simp only [List.set_cons_succ, List.set_cons_zero]
        refine takeL 3 58 (v := ?_) rfl rfl (by kernel_rfl) (by kernel_rfl) (by kernel_rfl) (fun _ _ _ h => h) (by rfl) hHeld (fun w hSw => ?_) ?_
        rotate_left 1
        · (try dsimp only at hSw)
          clear hSw
          go_simp
          try with_reducible rfl
        simp only [List.set_cons_succ, List.set_cons_zero]
        refine takeL 4 59 (v := ?_) rfl rfl (by kernel_rfl) (by kernel_rfl) (by kernel_rfl) (fun _ _ _ h => h) (by rfl) hHeld (fun w hSw => ?_) ?_
        rotate_left 1
        · (try dsimp only at hSw)
          clear hSw
          go_simp
          try with_reducible rfl
        simp only [List.set_cons_succ, List.set_cons_zero]
        refine takeL 5 60 (v := ?_) rfl rfl (by kernel_rfl) (by kernel_rfl) (by kernel_rfl) (fun _ _ _ h => h) (by rfl) hHeld (fun w hSw => ?_) ?_
        rotate_left 1
        · (try dsimp only at hSw)
          have e0_ := (hSw.cell (p := ⟨b, o0 + k * 3 + 1, none⟩) hb0).trans HC1.out
          clear hSw
          go_simp
          try with_reducible rfl
        simp only [List.set_cons_succ, List.set_cons_zero]
        refine takeM 7 62 8 rfl rfl rfl (by kernel_rfl) (by kernel_rfl) (by kernel_rfl) (fun _ _ _ h => h) (by rfl) hHeld rfl ?_
        simp only [List.set_cons_succ, List.set_cons_zero]
        refine takeM 8 63 1 rfl rfl rfl (by kernel_rfl) (by kernel_rfl) (by kernel_rfl) (fun _ _ _ h => h) (by rfl) hHeld rfl ?_
        simp only [List.set_cons_succ, List.set_cons_zero]
        refine takeM 9 64 9 rfl rfl rfl (by kernel_rfl) (by kernel_rfl) (by kernel_rfl) (fun _ _ _ h => h) (by rfl) hHeld rfl ?_
        simp only [List.set_cons_succ, List.set_cons_zero]
        refine takeL 10 65 (v := ?_) rfl rfl (by kernel_rfl) (by kernel_rfl) (by kernel_rfl) (fun _ _ _ h => h) (by rfl) hHeld (fun w hSw => ?_) ?_
        rotate_left 1
        · (try dsimp only at hSw)
          clear hSw
          go_simp
          try with_reducible rfl
        simp only [List.set_cons_succ, List.set_cons_zero]
        refine takeL 11 66 (v := ?_) rfl rfl (by kernel_rfl) (by kernel_rfl) (by kernel_rfl) (fun _ _ _ h => h) (by rfl) hHeld (fun w hSw => ?_) ?_
        rotate_left 1
        · (try dsimp only at hSw)
          clear hSw
          go_simp
          try with_reducible rfl
        simp only [List.set_cons_succ, List.set_cons_zero]
        refine takeL 12 67 (v := ?_) rfl rfl (by kernel_rfl) (by kernel_rfl) (by kernel_rfl) (fun _ _ _ h => h) (by rfl) hHeld (fun w hSw => ?_) ?_
        rotate_left 1
        · (try dsimp only at hSw)
          have e0_ := (hSw.cell (p := ⟨b, o0 + k * 3 + 1, none⟩) hb0).trans HC1.out
          clear hSw
          go_simp
          try with_reducible rfl
        simp only [List.set_cons_succ, List.set_cons_zero]
        replace M := M.quiet (pairbase (hO.base _) hW.base _) (pairbase (rkbase _) rpbase _) (Below.refl _ _).drew
        refine onlyL 6 rfl (by kernel_rfl) (by rfl) (fun K hK => ?_)
        go_wp2_with fail
        refine (kerase_at hO (some a) H1 _ rfl hbe hr hok hpw _ M.one).mono ?_
        rintro e w5 ⟨H3, rfl, hKp⟩
        replace M := M.o1 (pairbase (rkbase _) rpbase _) hKp
        clear hKp hHeld
        refine hK.out _ _ M.hB (fun hHeld => ?_)
        clear hK K
        refine onlyL 13 rfl (by kernel_rfl) (by rfl) (fun K hK => ?_)
        go_wp2_with fail
        refine (rkerase_at _ H2 _ rfl hbe hr hok hpw _ M.two).mono ?_
        rintro e wr ⟨H4, rfl, hKp⟩
        replace M := M.o2 (pairbase (hO.base _) hW.base _) hKp
        clear hKp hHeld
        refine hK.out _ _ M.hB (fun hHeld => ?_)
        clear hK K
        refine takeL 14 69 (v := .bool false) rfl rfl (by kernel_rfl) (by kernel_rfl) (by kernel_rfl) (fun _ _ _ h => h) (by rfl) hHeld (fun w hSw => ?_) ?_
        · clear hSw
          go_simp
        simp only [List.set_cons_succ, List.set_cons_zero]
        refine wpAnyH_done (by kernel_rfl) ?_ _
        clear hok hpw hbd0 hr s0
        have hok := hbd.ok hk1000
        have hsm : s.1.2.2 + 1 - s.1.2.1 ≤ 1000000 := by
          have h1 := hbd.2.2.1
          omega
        go_wp2_with fail
        obtain ⟨g, n, cap, hn, bX, hU⟩ := rk_parts M.two
        have hpos : 0 < n := by
          have h1 := hn.out
          have h2 := hok.2.1
          omega
        replace M := M.quiet (pairbase (hO.base _) hW.base _) (pairbase (rkbase _) rpbase _) (Below.refl _ _).drew
        have hS0 : Below wr.heap.size wr wr.drew := (Below.refl _ _).drew
        refine wp_region_held_drew (S := fun w' => Below wr.heap.size wr w') (by kernel_rfl) (Below.refl _ _).drew (fun hHeld => ?_)
        refine takeM 0 86 7 rfl rfl rfl (by kernel_rfl) (by kernel_rfl) (by kernel_rfl) (fun _ _ _ h => h) (by rfl) hHeld rfl ?_
        simp only [List.set_cons_succ, List.set_cons_zero]
        refine takeM 2 88 8 rfl rfl rfl (by kernel_rfl) (by kernel_rfl) (by kernel_rfl) (fun _ _ _ h => h) (by rfl) hHeld rfl ?_
        simp only [List.set_cons_succ, List.set_cons_zero]
        refine onlyL 1 rfl (by kernel_rfl) (by rfl) (fun K hK => ?_)
        go_wp2_with fail
        refine (kcurrent_at hO (some a) _ _ _ hok _ M.one).mono ?_
        rintro x wq1 ⟨rfl, hb⟩
        have hB0 := hS0.trans (hb.mono hS0.size)
        replace M := M.quiet (pairbase (hO.base _) hW.base _) (pairbase (rkbase _) rpbase _) hb
        clear hHeld hS0 hb
        refine hK.out _ _ hB0 (fun hHeld => ?_)
        clear hK K
        have hS0 := hB0
        clear hB0
        refine onlyL 3 rfl (by kernel_rfl) (by rfl) (fun K hK => ?_)
        go_wp2_with fail
        refine (rkcurrent_at _ _ _ _ hok _ M.two).mono ?_
        rintro x wq3 ⟨rfl, hb⟩
        have hB0 := hS0.trans (hb.mono hS0.size)
        replace M := M.quiet (pairbase (hO.base _) hW.base _) (pairbase (rkbase _) rpbase _) hb
        clear hHeld hS0 hb
        refine hK.out _ _ hB0 (fun hHeld => ?_)
        clear hK K
        have hS0 := hB0
        clear hB0
        refine takeL 4 90 (v := .bool false) rfl rfl (by kernel_rfl) (by kernel_rfl) (by kernel_rfl) (fun _ _ _ h => h) (by rfl) hHeld (fun w hSw => ?_) ?_
        · clear hSw
          go_simp
        simp only [List.set_cons_succ, List.set_cons_zero]
        refine takeM 5 91 90 rfl rfl rfl (by kernel_rfl) (by kernel_rfl) (by kernel_rfl) (fun _ _ _ h => h) (by rfl) hHeld rfl ?_
        simp only [List.set_cons_succ, List.set_cons_zero]
        refine takeM 6 92 7 rfl rfl rfl (by kernel_rfl) (by kernel_rfl) (by kernel_rfl) (fun _ _ _ h => h) (by rfl) hHeld rfl ?_
        simp only [List.set_cons_succ, List.set_cons_zero]
        refine takeM 8 94 8 rfl rfl rfl (by kernel_rfl) (by kernel_rfl) (by kernel_rfl) (fun _ _ _ h => h) (by rfl) hHeld rfl ?_
        simp only [List.set_cons_succ, List.set_cons_zero]
        refine takeL 9 95 (v := ?_) rfl rfl (by kernel_rfl) (by kernel_rfl) (by kernel_rfl) (fun _ _ _ h => h) (by rfl) hHeld (fun w hSw => ?_) ?_
        rotate_left 1
        · (try dsimp only at hSw)
          clear hSw
          go_simp
          try with_reducible rfl
        simp only [List.set_cons_succ, List.set_cons_zero]
        refine takeL 10 96 (v := ?_) rfl rfl (by kernel_rfl) (by kernel_rfl) (by kernel_rfl) (fun _ _ _ h => h) (by rfl) hHeld (fun w hSw => ?_) ?_
        rotate_left 1
        · (try dsimp only at hSw)
          clear hSw
          go_simp
          try with_reducible rfl
        simp only [List.set_cons_succ, List.set_cons_zero]
        refine takeL 11 97 (v := ?_) rfl rfl (by kernel_rfl) (by kernel_rfl) (by kernel_rfl) (fun _ _ _ h => h) (by rfl) hHeld (fun w hSw => ?_) ?_
        rotate_left 1
        · (try dsimp only at hSw)
          have e0_ := (bX.grown hSw).cell 2
          clear hSw
          go_simp
          try with_reducible rfl
        simp only [List.set_cons_succ, List.set_cons_zero]
        refine onlyL 7 rfl (by kernel_rfl) (by rfl) (fun K hK => ?_)
        go_wp2_with fail
        refine (kepochs_at hO (some a) _ _ _ hok _ M.one).mono ?_
        rintro x wq7 ⟨z, cz, rfl, hE, hb⟩
        have hU7 := hU.stay ((hS0.trans (hb.mono hS0.size)).block _ hU.lt)
        have hB0 := hS0.trans (hb.mono hS0.size)
        replace M := M.quiet (pairbase (hO.base _) hW.base _) (pairbase (rkbase _) rpbase _) hb
        clear hHeld hS0 hb
        refine hK.out _ _ hB0 (fun hHeld => ?_)
        clear hK K
        have hS0 := hB0
        clear hB0
        have hn7 : s.1.2.2 + 1 - s.1.2.1 = n := by
          have h1 := hn.out
          omega
        have hsn : n ≤ 1000000 := by omega
        have hy7 := hU7.ein
        have HS7 := ksame (c := cz) (d := cap) hpos hn7 hE hy7 hsn
        clear hy7 hsn hn7
        refine onlyL 12 rfl (by kernel_rfl) (by rfl) (fun K hK => ?_)
        go_wp2_with fail
        refine (HS7).mono ?_
        rintro x wq12 ⟨rfl, hb⟩
        have hB0 := hS0.trans (hb.mono hS0.size)
        replace M := M.quiet (pairbase (hO.base _) hW.base _) (pairbase (rkbase _) rpbase _) hb
        clear hHeld hS0 hb
        refine hK.out _ _ hB0 (fun hHeld => ?_)
        clear hK K
        have hS0 := hB0
        clear hB0
        refine takeL 13 99 (v := .bool false) rfl rfl (by kernel_rfl) (by kernel_rfl) (by kernel_rfl) (fun _ _ _ h => h) (by rfl) hHeld (fun w hSw => ?_) ?_
        · clear hSw
          go_simp
        simp only [List.set_cons_succ, List.set_cons_zero]
        refine takeL 14 100 (v := .bool false) rfl rfl (by kernel_rfl) (by kernel_rfl) (by kernel_rfl) (fun _ _ _ h => h) (by rfl) hHeld (fun w hSw => ?_) ?_
        · clear hSw
          go_simp
        simp only [List.set_cons_succ, List.set_cons_zero]
        refine wpAnyH_done (by kernel_rfl) ?_ _
        clear hS0 hE hU7 hU bX hpos hn HS7
        go_wp2_with fail
        go_loopw [10] (fun i wr => ∃ e : Nat, e ≤ 6 ∧ i = .int .u32 (e : Int) ∧ Duo (KPI PI KI (some a)) (RKP (some ⟨bq, 0, none⟩)) w H3 (.pointer (some c)) s H4 (.pointer (some ⟨bx, 0, none⟩)) s wr) (fun i _ => 6 - (intOf i).toNat)
        case atStart => exact ⟨0, by omega, rfl, M⟩
        case round =>
          clear M
          obtain ⟨e, he, rfl, M⟩ := hrel
          by_cases he6 : e < 6
          · have he6' : (e : Int) < 6 := by omega
            have hwe : IntKind.u32.wrap ((e : Int) + 1) = (e : Int) + 1 := by
              rw [IntKind.wrap_u32]
              omega
            have hue : U32 e := U32.small (by omega)
            go_wp2_with fail
            refine (kkey_at hO (some a) _ _ _ (n := e) rfl hue hok _ M.one).mono ?_
            rintro x wa ⟨rfl, hb⟩
            replace M := M.quiet (pairbase (hO.base _) hW.base _) (pairbase (rkbase _) rpbase _) hb
            clear hb
            obtain ⟨k1, hk1⟩ : ∃ z, nv (kKey s.1 e).1 = z := ⟨_, rfl⟩
            obtain ⟨k2, hk2⟩ : ∃ z, nv (kKey s.1 e).2 = z := ⟨_, rfl⟩
            obtain ⟨hh, hk3⟩ : ∃ z, kHas s.1 e = z := ⟨_, rfl⟩
            rw [hk1, hk2, hk3]
            have HK1 := hide' hk1
            have HK2 := hide' hk2
            have HK3 := hide' hk3
            clear hk1 hk2 hk3
            have bA := Box.new wa k1 k2
            have hb : Below wa.heap.size wa (wa.alloc (.cells #[.int .u64 k1, .int .u64 k2] 46)) := (Below.refl _ _).alloc (Nat.le_refl _) _
            replace M := M.quiet (pairbase (hO.base _) hW.base _) (pairbase (rkbase _) rpbase _) hb
            clear hb
            go_wp2_with fail
            generalize wa.alloc (.cells #[.int .u64 k1, .int .u64 k2] 46) = wb at *
            generalize wa.heap.size = ba at *
            refine (rkkey_at _ _ _ _ (n := e) rfl hue hok _ M.two).mono ?_
            rintro x wc ⟨rfl, hb⟩
            replace M := M.quiet (pairbase (hO.base _) hW.base _) (pairbase (rkbase _) rpbase _) hb
            replace bA := bA.grown hb
            clear hb
            rw [HK1.out, HK2.out, HK3.out]
            have bB := Box.new wc k1 k2
            have hb : Below wc.heap.size wc (wc.alloc (.cells #[.int .u64 k1, .int .u64 k2] 46)) := (Below.refl _ _).alloc (Nat.le_refl _) _
            replace M := M.quiet (pairbase (hO.base _) hW.base _) (pairbase (rkbase _) rpbase _) hb
            replace bA := bA.grown hb
            have a0 := bA.c0
            have a1 := bA.c1
            have b0 := bB.c0
            have b1 := bB.c1
            clear hb bA bB
            go_wp2
            go_roundw
            case rel => exact ⟨e + 1, by omega, by go_num, M⟩
            case measure => simp [intOf]; omega
          · have he6' : ¬ (e : Int) < 6 := by omega
            go_wp2
            go_roundw
            case rel => exact ⟨k + 1, _, _, s, by omega, hbd, by go_num, M⟩
            case measure => simp [intOf]; omega
      by_cases hk3 : kd = 3
      · subst hk3
        have hs2 := (M.hB.cell (p := ⟨b, o0 + k * 3 + 2, none⟩) hb0).trans HC2.out
        go_wp2_with fail
        refine (kfuse_at hW hO (some a) H1 _ s0 nm HNM.out _ M.one).mono ?_
        rintro e w5 ⟨H3, rfl, hK⟩
        replace M := M.o1 (pairbase (rkbase _) rpbase _) hK
        clear hK hs0 hs2
        have hs2 := (M.hB.cell (p := ⟨b, o0 + k * 3 + 2, none⟩) hb0).trans HC2.out
        go_wp2_with fail
        refine (rkfuse_at _ H2 _ s0 nm HNM.out _ M.two).mono ?_
        rintro e wr ⟨H4, rfl, hK⟩
        replace M := M.o2 (pairbase (hO.base _) hW.base _) hK
        clear hK hs2 hok hpw
        have hbd : KBd (k + 1) (s0.1, pFuse s0.2 nm) := ⟨hbd0.1, hbd0.2.1, Nat.le_succ_of_le hbd0.2.2.1, Nat.le_succ_of_le hbd0.2.2.2⟩
        clear hbd0
        generalize (s0.1, pFuse s0.2 nm) = s at *
        have hok := hbd.ok hk1000
        have hsm : s.1.2.2 + 1 - s.1.2.1 ≤ 1000000 := by
          have h1 := hbd.2.2.1
          omega
        go_wp2_with fail
        obtain ⟨g, n, cap, hn, bX, hU⟩ := rk_parts M.two
        have hpos : 0 < n := by
          have h1 := hn.out
          have h2 := hok.2.1
          omega
        replace M := M.quiet (pairbase (hO.base _) hW.base _) (pairbase (rkbase _) rpbase _) (Below.refl _ _).drew
        have hS0 : Below wr.heap.size wr wr.drew := (Below.refl _ _).drew
        refine wp_region_held_drew (S := fun w' => Below wr.heap.size wr w') (by kernel_rfl) (Below.refl _ _).drew (fun hHeld => ?_)
        refine takeM 0 86 7 rfl rfl rfl (by kernel_rfl) (by kernel_rfl) (by kernel_rfl) (fun _ _ _ h => h) (by rfl) hHeld rfl ?_
        simp only [List.set_cons_succ, List.set_cons_zero]
        refine takeM 2 88 8 rfl rfl rfl (by kernel_rfl) (by kernel_rfl) (by kernel_rfl) (fun _ _ _ h => h) (by rfl) hHeld rfl ?_
        simp only [List.set_cons_succ, List.set_cons_zero]
        refine onlyL 1 rfl (by kernel_rfl) (by rfl) (fun K hK => ?_)
        go_wp2_with fail
        refine (kcurrent_at hO (some a) _ _ _ hok _ M.one).mono ?_
        rintro x wq1 ⟨rfl, hb⟩
        have hB0 := hS0.trans (hb.mono hS0.size)
        replace M := M.quiet (pairbase (hO.base _) hW.base _) (pairbase (rkbase _) rpbase _) hb
        clear hHeld hS0 hb
        refine hK.out _ _ hB0 (fun hHeld => ?_)
        clear hK K
        have hS0 := hB0
        clear hB0
        refine onlyL 3 rfl (by kernel_rfl) (by rfl) (fun K hK => ?_)
        go_wp2_with fail
        refine (rkcurrent_at _ _ _ _ hok _ M.two).mono ?_
        rintro x wq3 ⟨rfl, hb⟩
        have hB0 := hS0.trans (hb.mono hS0.size)
        replace M := M.quiet (pairbase (hO.base _) hW.base _) (pairbase (rkbase _) rpbase _) hb
        clear hHeld hS0 hb
        refine hK.out _ _ hB0 (fun hHeld => ?_)
        clear hK K
        have hS0 := hB0
        clear hB0
        refine takeL 4 90 (v := .bool false) rfl rfl (by kernel_rfl) (by kernel_rfl) (by kernel_rfl) (fun _ _ _ h => h) (by rfl) hHeld (fun w hSw => ?_) ?_
        · clear hSw
          go_simp
        simp only [List.set_cons_succ, List.set_cons_zero]
        refine takeM 5 91 90 rfl rfl rfl (by kernel_rfl) (by kernel_rfl) (by kernel_rfl) (fun _ _ _ h => h) (by rfl) hHeld rfl ?_
        simp only [List.set_cons_succ, List.set_cons_zero]
        refine takeM 6 92 7 rfl rfl rfl (by kernel_rfl) (by kernel_rfl) (by kernel_rfl) (fun _ _ _ h => h) (by rfl) hHeld rfl ?_
        simp only [List.set_cons_succ, List.set_cons_zero]
        refine takeM 8 94 8 rfl rfl rfl (by kernel_rfl) (by kernel_rfl) (by kernel_rfl) (fun _ _ _ h => h) (by rfl) hHeld rfl ?_
        simp only [List.set_cons_succ, List.set_cons_zero]
        refine takeL 9 95 (v := ?_) rfl rfl (by kernel_rfl) (by kernel_rfl) (by kernel_rfl) (fun _ _ _ h => h) (by rfl) hHeld (fun w hSw => ?_) ?_
        rotate_left 1
        · (try dsimp only at hSw)
          clear hSw
          go_simp
          try with_reducible rfl
        simp only [List.set_cons_succ, List.set_cons_zero]
        refine takeL 10 96 (v := ?_) rfl rfl (by kernel_rfl) (by kernel_rfl) (by kernel_rfl) (fun _ _ _ h => h) (by rfl) hHeld (fun w hSw => ?_) ?_
        rotate_left 1
        · (try dsimp only at hSw)
          clear hSw
          go_simp
          try with_reducible rfl
        simp only [List.set_cons_succ, List.set_cons_zero]
        refine takeL 11 97 (v := ?_) rfl rfl (by kernel_rfl) (by kernel_rfl) (by kernel_rfl) (fun _ _ _ h => h) (by rfl) hHeld (fun w hSw => ?_) ?_
        rotate_left 1
        · (try dsimp only at hSw)
          have e0_ := (bX.grown hSw).cell 2
          clear hSw
          go_simp
          try with_reducible rfl
        simp only [List.set_cons_succ, List.set_cons_zero]
        refine onlyL 7 rfl (by kernel_rfl) (by rfl) (fun K hK => ?_)
        go_wp2_with fail
        refine (kepochs_at hO (some a) _ _ _ hok _ M.one).mono ?_
        rintro x wq7 ⟨z, cz, rfl, hE, hb⟩
        have hU7 := hU.stay ((hS0.trans (hb.mono hS0.size)).block _ hU.lt)
        have hB0 := hS0.trans (hb.mono hS0.size)
        replace M := M.quiet (pairbase (hO.base _) hW.base _) (pairbase (rkbase _) rpbase _) hb
        clear hHeld hS0 hb
        refine hK.out _ _ hB0 (fun hHeld => ?_)
        clear hK K
        have hS0 := hB0
        clear hB0
        have hn7 : s.1.2.2 + 1 - s.1.2.1 = n := by
          have h1 := hn.out
          omega
        have hsn : n ≤ 1000000 := by omega
        have hy7 := hU7.ein
        have HS7 := ksame (c := cz) (d := cap) hpos hn7 hE hy7 hsn
        clear hy7 hsn hn7
        refine onlyL 12 rfl (by kernel_rfl) (by rfl) (fun K hK => ?_)
        go_wp2_with fail
        refine (HS7).mono ?_
        rintro x wq12 ⟨rfl, hb⟩
        have hB0 := hS0.trans (hb.mono hS0.size)
        replace M := M.quiet (pairbase (hO.base _) hW.base _) (pairbase (rkbase _) rpbase _) hb
        clear hHeld hS0 hb
        refine hK.out _ _ hB0 (fun hHeld => ?_)
        clear hK K
        have hS0 := hB0
        clear hB0
        refine takeL 13 99 (v := .bool false) rfl rfl (by kernel_rfl) (by kernel_rfl) (by kernel_rfl) (fun _ _ _ h => h) (by rfl) hHeld (fun w hSw => ?_) ?_
        · clear hSw
          go_simp
        simp only [List.set_cons_succ, List.set_cons_zero]
        refine takeL 14 100 (v := .bool false) rfl rfl (by kernel_rfl) (by kernel_rfl) (by kernel_rfl) (fun _ _ _ h => h) (by rfl) hHeld (fun w hSw => ?_) ?_
        · clear hSw
          go_simp
        simp only [List.set_cons_succ, List.set_cons_zero]
        refine wpAnyH_done (by kernel_rfl) ?_ _
        clear hS0 hE hU7 hU bX hpos hn HS7
        go_wp2_with fail
        go_loopw [10] (fun i wr => ∃ e : Nat, e ≤ 6 ∧ i = .int .u32 (e : Int) ∧ Duo (KPI PI KI (some a)) (RKP (some ⟨bq, 0, none⟩)) w H3 (.pointer (some c)) s H4 (.pointer (some ⟨bx, 0, none⟩)) s wr) (fun i _ => 6 - (intOf i).toNat)
        case atStart => exact ⟨0, by omega, rfl, M⟩
        case round =>
          clear M
          obtain ⟨e, he, rfl, M⟩ := hrel
          by_cases he6 : e < 6
          · have he6' : (e : Int) < 6 := by omega
            have hwe : IntKind.u32.wrap ((e : Int) + 1) = (e : Int) + 1 := by
              rw [IntKind.wrap_u32]
              omega
            have hue : U32 e := U32.small (by omega)
            go_wp2_with fail
            refine (kkey_at hO (some a) _ _ _ (n := e) rfl hue hok _ M.one).mono ?_
            rintro x wa ⟨rfl, hb⟩
            replace M := M.quiet (pairbase (hO.base _) hW.base _) (pairbase (rkbase _) rpbase _) hb
            clear hb
            obtain ⟨k1, hk1⟩ : ∃ z, nv (kKey s.1 e).1 = z := ⟨_, rfl⟩
            obtain ⟨k2, hk2⟩ : ∃ z, nv (kKey s.1 e).2 = z := ⟨_, rfl⟩
            obtain ⟨hh, hk3⟩ : ∃ z, kHas s.1 e = z := ⟨_, rfl⟩
            rw [hk1, hk2, hk3]
            have HK1 := hide' hk1
            have HK2 := hide' hk2
            have HK3 := hide' hk3
            clear hk1 hk2 hk3
            have bA := Box.new wa k1 k2
            have hb : Below wa.heap.size wa (wa.alloc (.cells #[.int .u64 k1, .int .u64 k2] 46)) := (Below.refl _ _).alloc (Nat.le_refl _) _
            replace M := M.quiet (pairbase (hO.base _) hW.base _) (pairbase (rkbase _) rpbase _) hb
            clear hb
            go_wp2_with fail
            generalize wa.alloc (.cells #[.int .u64 k1, .int .u64 k2] 46) = wb at *
            generalize wa.heap.size = ba at *
            refine (rkkey_at _ _ _ _ (n := e) rfl hue hok _ M.two).mono ?_
            rintro x wc ⟨rfl, hb⟩
            replace M := M.quiet (pairbase (hO.base _) hW.base _) (pairbase (rkbase _) rpbase _) hb
            replace bA := bA.grown hb
            clear hb
            rw [HK1.out, HK2.out, HK3.out]
            have bB := Box.new wc k1 k2
            have hb : Below wc.heap.size wc (wc.alloc (.cells #[.int .u64 k1, .int .u64 k2] 46)) := (Below.refl _ _).alloc (Nat.le_refl _) _
            replace M := M.quiet (pairbase (hO.base _) hW.base _) (pairbase (rkbase _) rpbase _) hb
            replace bA := bA.grown hb
            have a0 := bA.c0
            have a1 := bA.c1
            have b0 := bB.c0
            have b1 := bB.c1
            clear hb bA bB
            go_wp2
            go_roundw
            case rel => exact ⟨e + 1, by omega, by go_num, M⟩
            case measure => simp [intOf]; omega
          · have he6' : ¬ (e : Int) < 6 := by omega
            go_wp2
            go_roundw
            case rel => exact ⟨k + 1, _, _, s, by omega, hbd, by go_num, M⟩
            case measure => simp [intOf]; omega
      · go_wp2_with fail
        refine (kback_at hW hO (some a) H1 _ s0 _ M.one).mono ?_
        rintro e w5 ⟨H3, rfl, hK⟩
        replace M := M.o1 (pairbase (rkbase _) rpbase _) hK
        clear hK hs0
        go_wp2_with fail
        refine (rkback_at _ H2 _ s0 _ M.two).mono ?_
        rintro e wr ⟨H4, rfl, hK⟩
        replace M := M.o2 (pairbase (hO.base _) hW.base _) hK
        clear hK hok hpw
        have hbd : KBd (k + 1) (s0.1, pBack s0.2) := ⟨hbd0.1, hbd0.2.1, Nat.le_succ_of_le hbd0.2.2.1, Nat.le_succ_of_le hbd0.2.2.2⟩
        clear hbd0
        generalize (s0.1, pBack s0.2) = s at *
        have hok := hbd.ok hk1000
        have hsm : s.1.2.2 + 1 - s.1.2.1 ≤ 1000000 := by
          have h1 := hbd.2.2.1
          omega
        go_wp2_with fail
        obtain ⟨g, n, cap, hn, bX, hU⟩ := rk_parts M.two
        have hpos : 0 < n := by
          have h1 := hn.out
          have h2 := hok.2.1
          omega
        replace M := M.quiet (pairbase (hO.base _) hW.base _) (pairbase (rkbase _) rpbase _) (Below.refl _ _).drew
        have hS0 : Below wr.heap.size wr wr.drew := (Below.refl _ _).drew
        refine wp_region_held_drew (S := fun w' => Below wr.heap.size wr w') (by kernel_rfl) (Below.refl _ _).drew (fun hHeld => ?_)
        refine takeM 0 86 7 rfl rfl rfl (by kernel_rfl) (by kernel_rfl) (by kernel_rfl) (fun _ _ _ h => h) (by rfl) hHeld rfl ?_
        simp only [List.set_cons_succ, List.set_cons_zero]
        refine takeM 2 88 8 rfl rfl rfl (by kernel_rfl) (by kernel_rfl) (by kernel_rfl) (fun _ _ _ h => h) (by rfl) hHeld rfl ?_
        simp only [List.set_cons_succ, List.set_cons_zero]
        refine onlyL 1 rfl (by kernel_rfl) (by rfl) (fun K hK => ?_)
        go_wp2_with fail
        refine (kcurrent_at hO (some a) _ _ _ hok _ M.one).mono ?_
        rintro x wq1 ⟨rfl, hb⟩
        have hB0 := hS0.trans (hb.mono hS0.size)
        replace M := M.quiet (pairbase (hO.base _) hW.base _) (pairbase (rkbase _) rpbase _) hb
        clear hHeld hS0 hb
        refine hK.out _ _ hB0 (fun hHeld => ?_)
        clear hK K
        have hS0 := hB0
        clear hB0
        refine onlyL 3 rfl (by kernel_rfl) (by rfl) (fun K hK => ?_)
        go_wp2_with fail
        refine (rkcurrent_at _ _ _ _ hok _ M.two).mono ?_
        rintro x wq3 ⟨rfl, hb⟩
        have hB0 := hS0.trans (hb.mono hS0.size)
        replace M := M.quiet (pairbase (hO.base _) hW.base _) (pairbase (rkbase _) rpbase _) hb
        clear hHeld hS0 hb
        refine hK.out _ _ hB0 (fun hHeld => ?_)
        clear hK K
        have hS0 := hB0
        clear hB0
        refine takeL 4 90 (v := .bool false) rfl rfl (by kernel_rfl) (by kernel_rfl) (by kernel_rfl) (fun _ _ _ h => h) (by rfl) hHeld (fun w hSw => ?_) ?_
        · clear hSw
          go_simp
        simp only [List.set_cons_succ, List.set_cons_zero]
        refine takeM 5 91 90 rfl rfl rfl (by kernel_rfl) (by kernel_rfl) (by kernel_rfl) (fun _ _ _ h => h) (by rfl) hHeld rfl ?_
        simp only [List.set_cons_succ, List.set_cons_zero]
        refine takeM 6 92 7 rfl rfl rfl (by kernel_rfl) (by kernel_rfl) (by kernel_rfl) (fun _ _ _ h => h) (by rfl) hHeld rfl ?_
        simp only [List.set_cons_succ, List.set_cons_zero]
        refine takeM 8 94 8 rfl rfl rfl (by kernel_rfl) (by kernel_rfl) (by kernel_rfl) (fun _ _ _ h => h) (by rfl) hHeld rfl ?_
        simp only [List.set_cons_succ, List.set_cons_zero]
        refine takeL 9 95 (v := ?_) rfl rfl (by kernel_rfl) (by kernel_rfl) (by kernel_rfl) (fun _ _ _ h => h) (by rfl) hHeld (fun w hSw => ?_) ?_
        rotate_left 1
        · (try dsimp only at hSw)
          clear hSw
          go_simp
          try with_reducible rfl
        simp only [List.set_cons_succ, List.set_cons_zero]
        refine takeL 10 96 (v := ?_) rfl rfl (by kernel_rfl) (by kernel_rfl) (by kernel_rfl) (fun _ _ _ h => h) (by rfl) hHeld (fun w hSw => ?_) ?_
        rotate_left 1
        · (try dsimp only at hSw)
          clear hSw
          go_simp
          try with_reducible rfl
        simp only [List.set_cons_succ, List.set_cons_zero]
        refine takeL 11 97 (v := ?_) rfl rfl (by kernel_rfl) (by kernel_rfl) (by kernel_rfl) (fun _ _ _ h => h) (by rfl) hHeld (fun w hSw => ?_) ?_
        rotate_left 1
        · (try dsimp only at hSw)
          have e0_ := (bX.grown hSw).cell 2
          clear hSw
          go_simp
          try with_reducible rfl
        simp only [List.set_cons_succ, List.set_cons_zero]
        refine onlyL 7 rfl (by kernel_rfl) (by rfl) (fun K hK => ?_)
        go_wp2_with fail
        refine (kepochs_at hO (some a) _ _ _ hok _ M.one).mono ?_
        rintro x wq7 ⟨z, cz, rfl, hE, hb⟩
        have hU7 := hU.stay ((hS0.trans (hb.mono hS0.size)).block _ hU.lt)
        have hB0 := hS0.trans (hb.mono hS0.size)
        replace M := M.quiet (pairbase (hO.base _) hW.base _) (pairbase (rkbase _) rpbase _) hb
        clear hHeld hS0 hb
        refine hK.out _ _ hB0 (fun hHeld => ?_)
        clear hK K
        have hS0 := hB0
        clear hB0
        have hn7 : s.1.2.2 + 1 - s.1.2.1 = n := by
          have h1 := hn.out
          omega
        have hsn : n ≤ 1000000 := by omega
        have hy7 := hU7.ein
        have HS7 := ksame (c := cz) (d := cap) hpos hn7 hE hy7 hsn
        clear hy7 hsn hn7
        refine onlyL 12 rfl (by kernel_rfl) (by rfl) (fun K hK => ?_)
        go_wp2_with fail
        refine (HS7).mono ?_
        rintro x wq12 ⟨rfl, hb⟩
        have hB0 := hS0.trans (hb.mono hS0.size)
        replace M := M.quiet (pairbase (hO.base _) hW.base _) (pairbase (rkbase _) rpbase _) hb
        clear hHeld hS0 hb
        refine hK.out _ _ hB0 (fun hHeld => ?_)
        clear hK K
        have hS0 := hB0
        clear hB0
        refine takeL 13 99 (v := .bool false) rfl rfl (by kernel_rfl) (by kernel_rfl) (by kernel_rfl) (fun _ _ _ h => h) (by rfl) hHeld (fun w hSw => ?_) ?_
        · clear hSw
          go_simp
        simp only [List.set_cons_succ, List.set_cons_zero]
        refine takeL 14 100 (v := .bool false) rfl rfl (by kernel_rfl) (by kernel_rfl) (by kernel_rfl) (fun _ _ _ h => h) (by rfl) hHeld (fun w hSw => ?_) ?_
        · clear hSw
          go_simp
        simp only [List.set_cons_succ, List.set_cons_zero]
        refine wpAnyH_done (by kernel_rfl) ?_ _
        clear hS0 hE hU7 hU bX hpos hn HS7
        go_wp2_with fail
        go_loopw [10] (fun i wr => ∃ e : Nat, e ≤ 6 ∧ i = .int .u32 (e : Int) ∧ Duo (KPI PI KI (some a)) (RKP (some ⟨bq, 0, none⟩)) w H3 (.pointer (some c)) s H4 (.pointer (some ⟨bx, 0, none⟩)) s wr) (fun i _ => 6 - (intOf i).toNat)
        case atStart => exact ⟨0, by omega, rfl, M⟩
        case round =>
          clear M
          obtain ⟨e, he, rfl, M⟩ := hrel
          by_cases he6 : e < 6
          · have he6' : (e : Int) < 6 := by omega
            have hwe : IntKind.u32.wrap ((e : Int) + 1) = (e : Int) + 1 := by
              rw [IntKind.wrap_u32]
              omega
            have hue : U32 e := U32.small (by omega)
            go_wp2_with fail
            refine (kkey_at hO (some a) _ _ _ (n := e) rfl hue hok _ M.one).mono ?_
            rintro x wa ⟨rfl, hb⟩
            replace M := M.quiet (pairbase (hO.base _) hW.base _) (pairbase (rkbase _) rpbase _) hb
            clear hb
            obtain ⟨k1, hk1⟩ : ∃ z, nv (kKey s.1 e).1 = z := ⟨_, rfl⟩
            obtain ⟨k2, hk2⟩ : ∃ z, nv (kKey s.1 e).2 = z := ⟨_, rfl⟩
            obtain ⟨hh, hk3⟩ : ∃ z, kHas s.1 e = z := ⟨_, rfl⟩
            rw [hk1, hk2, hk3]
            have HK1 := hide' hk1
            have HK2 := hide' hk2
            have HK3 := hide' hk3
            clear hk1 hk2 hk3
            have bA := Box.new wa k1 k2
            have hb : Below wa.heap.size wa (wa.alloc (.cells #[.int .u64 k1, .int .u64 k2] 46)) := (Below.refl _ _).alloc (Nat.le_refl _) _
            replace M := M.quiet (pairbase (hO.base _) hW.base _) (pairbase (rkbase _) rpbase _) hb
            clear hb
            go_wp2_with fail
            generalize wa.alloc (.cells #[.int .u64 k1, .int .u64 k2] 46) = wb at *
            generalize wa.heap.size = ba at *
            refine (rkkey_at _ _ _ _ (n := e) rfl hue hok _ M.two).mono ?_
            rintro x wc ⟨rfl, hb⟩
            replace M := M.quiet (pairbase (hO.base _) hW.base _) (pairbase (rkbase _) rpbase _) hb
            replace bA := bA.grown hb
            clear hb
            rw [HK1.out, HK2.out, HK3.out]
            have bB := Box.new wc k1 k2
            have hb : Below wc.heap.size wc (wc.alloc (.cells #[.int .u64 k1, .int .u64 k2] 46)) := (Below.refl _ _).alloc (Nat.le_refl _) _
            replace M := M.quiet (pairbase (hO.base _) hW.base _) (pairbase (rkbase _) rpbase _) hb
            replace bA := bA.grown hb
            have a0 := bA.c0
            have a1 := bA.c1
            have b0 := bB.c0
            have b1 := bB.c1
            clear hb bA bB
            go_wp2
            go_roundw
            case rel => exact ⟨e + 1, by omega, by go_num, M⟩
            case measure => simp [intOf]; omega
          · have he6' : ¬ (e : Int) < 6 := by omega
            go_wp2
            go_roundw
            case rel => exact ⟨k + 1, _, _, s, by omega, hbd, by go_num, M⟩
            case measure => simp [intOf]; omega
    · have hlt' : ¬ (k : Int) < m := by omega
      go_wp2_with fail
      refine (kknown hW hO _).mono ?_
      rintro e w5 ⟨rfl, hb⟩
      replace M := M.quiet (pairbase (hO.base _) hW.base _) (pairbase (rkbase _) rpbase _) hb
      go_wp2
      go_ret
      exact ⟨rfl, M.hB⟩
end Go.Proofs.Ytcfbdbjonmjplaa
