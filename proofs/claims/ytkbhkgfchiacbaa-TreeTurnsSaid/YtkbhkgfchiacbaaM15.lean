/- OImT OImO: texts laid together. -/
import Derived.Test.YtkbhkgfchiacbaaM14

/- What the program's Sum comes to. -/
namespace Go.Proofs.Ytkbhkgfchiacbaa
open Go.RowKit Go.Maps
set_option maxRecDepth 20000

theorem iremember_at (FL FS : Nat → Prop) (b : Nat) (vL vS : Value) (L : List Iss) (S : List (List Int)) (p : List Int) (i : Int) (hi : i = (S.length : Int) + 1) (hp : p ∉ S) (bp : Bytes p) (hl : p.length ≤ 50000) (hS : S.length ≤ 10000) (w : World) (hA : PAt FL FS w b vL vS (L, S)) (hF : ∀ k, k = b ∨ FL k ∨ FS k → k < w.heap.size) :
    Calls Try.prog 55 #[.pointer (some ⟨b, 0, none⟩), .string (strOfNums p), .int .u64 i] w fun e w' => ∃ FS' vS', e = .returned (.tuple #[]) ∧ PAt FL FS' w' b vL vS' (L, S ++ [p]) ∧ (∀ k, FS' k → FS k ∨ w.heap.size ≤ k) ∧ Off (fun k => k = b ∨ FS k) w w' ∧ ∀ k, FS' k → k < w'.heap.size := by
  subst hi
  exact iremember FL FS b vL vS L S p hp bp hl hS w hA hF
/-- The end of Sum, behind remember. -/
theorem sum_kept {F FL FS FS' : Nat → Prop} {w w1 w2 : World} {b : Nat} {vL vS : Value} {st : OSt} (hF : ∀ k, F k ↔ k = b ∨ FL k ∨ FS k) (hlt : ∀ k, F k → k < w.heap.size) (hB : Below w.heap.size w w1) (hA : PAt FL FS' w2 b vL vS st)
    (hsub : ∀ k, FS' k → FS k ∨ w1.heap.size ≤ k) (hoff : Off (fun k => k = b ∨ FS k) w1 w2) (hl2 : ∀ k, FS' k → k < w2.heap.size) (u v : Value) (hR : ∀ k, k = b ∨ FL k ∨ FS' k → k ≠ w.heap.size) :
    Kept PInv F w (.pointer (some ⟨b, 0, none⟩)) (fun k => k = b ∨ FL k ∨ FS' k) ((w2.setCell ⟨w.heap.size, 0, none⟩ u).setCell ⟨w.heap.size, 1, none⟩ v) st := by
  have hof : Off (fun k => k = w.heap.size) w2 ((w2.setCell ⟨w.heap.size, 0, none⟩ u).setCell ⟨w.heap.size, 1, none⟩ v) := ((Off.refl (fun k => k = w.heap.size) w2).setCell (p := ⟨w.heap.size, 0, none⟩) (Or.inl rfl) u).setCell (p := ⟨w.heap.size, 1, none⟩) (Or.inl rfl) v
  have hz := hof.size
  have hz1 := hoff.size
  have hz0 := hB.size
  refine ⟨⟨b, FL, FS', vL, vS, rfl, hA.eqs (Eqs.of_off hof (fun k _ hk e => hR k hk e)), fun k => Iff.rfl, ?_⟩, ?_, ?_⟩
  · rintro k (h | h | h)
    · have := hlt k ((hF k).2 (Or.inl h))
      omega
    · have := hlt k ((hF k).2 (Or.inr (Or.inl h)))
      omega
    · have := hl2 k h
      omega
  · rintro k (h | h | h)
    · exact Or.inl ((hF k).2 (Or.inl h))
    · exact Or.inl ((hF k).2 (Or.inr (Or.inl h)))
    · rcases hsub k h with h | h
      · exact Or.inl ((hF k).2 (Or.inr (Or.inr h)))
      · exact Or.inr (by omega)
  · exact ((Off.of_below (F := F) hB).trans hoff (fun k hk => Or.inl ((hF k).2 (hk.imp id Or.inr)))).trans hof (fun k hk => Or.inr (by omega))

set_option maxRecDepth 10000 in
set_option maxHeartbeats 2000000 in
theorem isumm (F : Nat → Prop) (v : Value) (L : List Iss) (S : List (List Int)) (P : List (List Int)) (x : Option Addr) (m c : Nat) (hm : m ≤ 1000) (hP : P.flatten.length ≤ 50000) (hS : S.length ≤ 10000) (hfit : Fit x m c) (w : World) (hI : PInv F w v (L, S)) (hl : LIn (fun k => ¬ F k) w x m P) :
    Calls Try.prog 36 #[v, .slice x m c] w fun e w' => ∃ F', e = .returned (.agg #[.int .u64 17216961135462248174, .int .u64 (sumIx S P.flatten : Nat)]) ∧ Kept PInv F w v F' w' (L, sumSt S P.flatten) := by
  obtain ⟨b, FL, FS, vL, vS, rfl, hA, hF0, hlt0⟩ := hI
  have HF := hide' hF0
  have HLT := hide' hlt0
  have hbw : b < w.heap.size := hA.box.lt
  clear hF0 hlt0
  have hB : Below w.heap.size w (w.alloc (.cells #[.int .u64 0, .int .u64 0] 34)) := (Below.refl _ _).alloc (Nat.le_refl _) _
  have bR := Box.new w 0 0
  have hla := hl.lat.below hB
  have bP := hla.bytes
  have hcat := iconcat P x m c hm hP hfit.1 hfit.2.2 _ hla
  obtain ⟨xs, HX⟩ : ∃ xs, Hid (P.flatten = xs) := ⟨_, rfl⟩
  rw [HX.out] at hP bP hcat ⊢
  obtain ⟨j, HJ⟩ : ∃ j, Hid (sumIx S xs = j) := ⟨_, rfl⟩
  obtain ⟨S', HS⟩ : ∃ S', Hid (sumSt S xs = S') := ⟨_, rfl⟩
  rw [HJ.out, HS.out]
  clear hl hla
  go_enter Try.func36, Try.ntmps36
  go_wp2_with fail
  refine hcat.mono ?_
  rintro e w1 ⟨v1, rfl, own1, hb⟩
  obtain ⟨x1, c1, rfl, s1⟩ := own_sat rfl own1
  have e0 := fun c => s1.conv (c := c)
  replace bR := bR.grown hb
  replace hB := hB.trans (hb.mono hB.size)
  replace hA := hA.below hB
  clear hb own1 hcat
  have hz1 := hB.size
  have hRw := bR.lt
  have k1 := hA.box.c1
  have hkey := keyS_mk hP
  have hFw : ∀ k, k = b ∨ FL k ∨ FS k → k < w1.heap.size := fun k hk => by
    have := HLT.out k ((HF.out k).2 hk)
    omega
  have hFn : ∀ k, k = b ∨ FL k ∨ FS k → k ≠ w.heap.size := fun k hk => by
    have := HLT.out k ((HF.out k).2 hk)
    omega
  rcases hA.sum with ⟨rfl, e⟩ | ⟨mb, D, rfl, hG, hown, hD⟩
  · dsimp only at e
    subst e
    have hlook := fun w => Maps.look_nil (P := Try.prog) (w := w) (t := 86) true lawS Try.underlyingSums (zeroU w) hkey
    have hlen := fun w ty => Maps.len_nil (P := Try.prog) (w := w) (t := 86) Try.underlyingSums ty
    simp only [if_true] at hlook
    obtain rfl : j = 1 := by rw [← HJ.out]; simp [sumIx]
    obtain rfl : S' = [] ++ [xs] := by rw [← HS.out]; simp [sumSt]
    go_wp2_with fail
    clear hlook hlen e0
    refine (iremember_at FL FS b vL (.map none) L [] xs 1 (by simp) (by simp) bP hP (by simp) _ hA hFw).mono ?_
    rintro e w2 ⟨FS', vS', rfl, hA2, hsub, hoff, hl2⟩
    have bR2 : Box w2 w.heap.size 0 0 := off_block bR hoff (fun e => e.elim (fun e => by omega) (fun e => hFn _ (Or.inr (Or.inr e)) rfl))
    have k2 := bR2.c0
    have k3 := bR2.c1
    have k4 := bR2.frozen 0
    have k5 := bR2.frozen 1
    go_wp2
    have q := bR2.put2 17216961135462248174 1
    have q0 := q.c0
    have q1 := q.c1
    refine bodyPost_ret (v := .agg #[.int .u64 17216961135462248174, .int .u64 1]) (by simp [results, Try.results36, go_sem, q0, q1]) rfl ⟨_, rfl, sum_kept HF.out HLT.out hB hA2 hsub hoff hl2 _ _ ?_⟩
    rintro k (h | h | h) e
    · exact hFn k (Or.inl h) e
    · exact hFn k (Or.inr (Or.inl h)) e
    · rcases hsub k h with h | h
      · exact hFn k (Or.inr (Or.inr h)) e
      · omega
  · dsimp only at hown hD
    by_cases hm' : xs ∈ S
    · have hhas : Maps.has D (keyS xs) = true := by rw [hD.has xs bP]; exact decide_eq_true hm'
      have HV := hide' (hD.val xs hm')
      obtain rfl : S' = S := by rw [← HS.out]; exact if_pos hm'
      have k2 := bR.c0
      have k3 := bR.c1
      have k4 := bR.frozen 0
      have k5 := bR.frozen 1
      go_wp2_with (at_lookup; refine wpList_lookup_own_ok_int _ rfl _ _ 86 rfl 9 32 .u64 lawS Try.underlyingSums Try.underlyingU64 (zeroU _) mb S'.length D rfl hown _ _ rfl hkey ?_; intro cc hat hwc; (obtain rfl : cc = (j : Int) := by rw [HV.out, HJ.out] at hat; injection hat with hat; injection hat with _ hat; exact hat.symm))
      have q := bR.put2 17216961135462248174 (j : Int)
      have q0 := q.c0
      have q1 := q.c1
      refine bodyPost_ret (v := .agg #[.int .u64 17216961135462248174, .int .u64 (j : Int)]) (by simp [results, Try.results36, go_sem, q0, q1]) rfl ⟨_, rfl, sum_kept HF.out HLT.out hB hA (fun k h => Or.inl h) (Off.refl _ _) (fun k h => hFw k (Or.inr (Or.inr h))) _ _ hFn⟩
    · have hhas : Maps.has D (keyS xs) = false := by rw [hD.has xs bP]; exact decide_eq_false hm'
      obtain rfl : S' = S ++ [xs] := by rw [← HS.out]; exact if_neg hm'
      have hj : (j : Int) = (S.length : Int) + 1 := by rw [← HJ.out, sumIx_new hm']; rfl
      have hlen := fun ty => hown.len Try.underlyingSums ty
      rw [hD.len] at hlen
      go_wp2_with (at_lookup; refine wpList_lookup_own_ok_int _ rfl _ _ 86 rfl 9 32 .u64 lawS Try.underlyingSums Try.underlyingU64 (zeroU _) mb S.length D rfl hown _ _ rfl hkey ?_; intro cc hat hwc)
      clear e0 hlen
      refine (iremember_at FL FS b vL (.map (some mb)) L S xs ((S.length : Int) + 1) rfl hm' bP hP hS _ hA hFw).mono ?_
      rintro e w2 ⟨FS', vS', rfl, hA2, hsub, hoff, hl2⟩
      have bR2 : Box w2 w.heap.size 0 0 := off_block bR hoff (fun e => e.elim (fun e => by omega) (fun e => hFn _ (Or.inr (Or.inr e)) rfl))
      have k2 := bR2.c0
      have k3 := bR2.c1
      have k4 := bR2.frozen 0
      have k5 := bR2.frozen 1
      go_wp2
      have q := bR2.put2 17216961135462248174 ((S.length : Int) + 1)
      have q0 := q.c0
      have q1 := q.c1
      refine bodyPost_ret (v := .agg #[.int .u64 17216961135462248174, .int .u64 ((S.length : Int) + 1)]) (by simp [results, Try.results36, go_sem, q0, q1]) rfl ⟨_, by rw [hj], sum_kept HF.out HLT.out hB hA2 hsub hoff hl2 _ _ ?_⟩
      rintro k (h | h | h) e
      · exact hFn k (Or.inl h) e
      · exact hFn k (Or.inr (Or.inl h)) e
      · rcases hsub k h with h | h
        · exact hFn k (Or.inr (Or.inr h)) e
        · omega
end Go.Proofs.Ytkbhkgfchiacbaa


/- What the program's Open comes to. -/
namespace Go.Proofs.Ytkbhkgfchiacbaa
open Go.RowKit
set_option maxRecDepth 20000

theorem eqU (a b c d e a' b' c' d' e' : Int) (w : World) : (Op.equalIn 10000 90 (.agg #[.int .u64 a, .int .u64 b, .int .u32 c, .int .u32 d, .int .u64 e]) (.agg #[.int .u64 a', .int .u64 b', .int .u32 c', .int .u32 d', .int .u64 e'])).run Try.prog w = .ok ((a == a' && b == b') && (c == c' && d == d' && e == e')) w := by
  have h1 := eq32' 9997 a b a' b' w
  go_simp
  by_cases h1 : a = a' <;> by_cases h2 : b = b' <;> by_cases h3 : c = c' <;> by_cases h4 : d = d' <;> by_cases h5 : e = e' <;> simp [h1, h2, h3, h4, h5]
theorem use_eq_of (k k' : BitVec 64 × BitVec 64) (n n' : Nn) : ((nv k.1 == nv k'.1 && nv k.2 == nv k'.2) && (nv32 n.1 == nv32 n'.1 && nv32 n.2.1 == nv32 n'.2.1 && nv n.2.2 == nv n'.2.2)) = decide (k = k' ∧ n = n') := by
  rw [pair_eq_of, non_eq_of, Bool.eq_iff_iff]
  simp
/-- A record in a block of its own. -/
def RcBox (w : World) (b : Nat) (zk : BitVec 64 × BitVec 64) (zn : Nn) (u v : Value) : Prop := w.heap[b]? = some (.cells #[.int .u64 (nv zk.1), .int .u64 (nv zk.2), .int .u32 (nv32 zn.1), .int .u32 (nv32 zn.2.1), .int .u64 (nv zn.2.2), u, v] 92 (0, 0))
section
variable {w w' : World} {b : Nat} {zk : BitVec 64 × BitVec 64} {zn : Nn} {u v : Value}
theorem RcBox.c0 (h : RcBox w b zk zn u v) : w.cell? ⟨b, 0, none⟩ = some (.int .u64 (nv zk.1)) := by unfold RcBox at h; simp [World.cell?, h]
theorem RcBox.c1 (h : RcBox w b zk zn u v) : w.cell? ⟨b, 1, none⟩ = some (.int .u64 (nv zk.2)) := by unfold RcBox at h; simp [World.cell?, h]
theorem RcBox.c2 (h : RcBox w b zk zn u v) : w.cell? ⟨b, 2, none⟩ = some (.int .u32 (nv32 zn.1)) := by unfold RcBox at h; simp [World.cell?, h]
theorem RcBox.c3 (h : RcBox w b zk zn u v) : w.cell? ⟨b, 3, none⟩ = some (.int .u32 (nv32 zn.2.1)) := by unfold RcBox at h; simp [World.cell?, h]
theorem RcBox.c4 (h : RcBox w b zk zn u v) : w.cell? ⟨b, 4, none⟩ = some (.int .u64 (nv zn.2.2)) := by unfold RcBox at h; simp [World.cell?, h]
theorem RcBox.c5 (h : RcBox w b zk zn u v) : w.cell? ⟨b, 5, none⟩ = some u := by unfold RcBox at h; simp [World.cell?, h]
theorem RcBox.c6 (h : RcBox w b zk zn u v) : w.cell? ⟨b, 6, none⟩ = some v := by unfold RcBox at h; simp [World.cell?, h]
theorem RcBox.lt (h : RcBox w b zk zn u v) : b < w.heap.size := (Array.getElem?_eq_some_iff.1 h).1
theorem RcBox.grown (h : RcBox w b zk zn u v) (hb : Below w.heap.size w w') : RcBox w' b zk zn u v := (hb.block b h.lt).trans h
theorem RcBox.new (w : World) (zk : BitVec 64 × BitVec 64) (zn : Nn) (u v : Value) : RcBox (w.alloc (.cells #[.int .u64 (nv zk.1), .int .u64 (nv zk.2), .int .u32 (nv32 zn.1), .int .u32 (nv32 zn.2.1), .int .u64 (nv zn.2.2), u, v] 92)) w.heap.size zk zn u v := heap_alloc_new w _
end
theorem isealed_at (i n : Nat) (j : Int) (hj : j = (i : Int)) (hn : n ≤ 100000) (w : World) : Calls Try.prog 52 #[.int .u64 j, .int .i64 (n : Int)] w fun e w' => ∃ g, e = .returned (.agg #[.slice (some ⟨g, 0, none⟩) n n, .int .u64 18446744073709551615, .int .u64 j]) ∧ w.heap.size ≤ g ∧ w'.rowIs g 5 n (fun j => .int .u8 ((outB i n).getD j 0)) ∧ Clean w w' := by
  subst hj
  exact isealed i n hn w
theorem isame_at (i : Nat) (hi : i < 1000000) (t : BitVec 64 × BitVec 64) (t2 : Int) (ht2 : nv t.2 = t2) (xs ys : List Int) (z y : Option Addr) (m n c d : Nat) (bx : Bytes xs) (by_ : Bytes ys) (j : Int) (hj : j = (i : Int)) (w : World) (sz : SAt w z m xs) (sy : SAt w y n ys) : Calls Try.prog 54 #[.agg #[.slice z m c, .int .u64 (nv t.1), .int .u64 t2], .agg #[.slice y n d, .int .u64 18446744073709551615, .int .u64 j]] w fun e w' => e = .returned (.bool (decide (t = tagI i ∧ xs = ys))) ∧ Below w.heap.size w w' := by
  subst hj ht2
  have := isame t (tagI i) xs ys z y m n c d bx by_ w sz sy
  rw [tagI_2 i (by omega)] at this
  exact this
/-- What Open answers. -/
def OpenPost (st : OSt) (q : Ask) (w : World) (e : Ending) (w' : World) : Prop := (∃ i z cz, Hit st.1 q i ∧ e = .returned (.tuple #[.slice z (st.1.getD i default).data.length cz, .bool true]) ∧ SIn (fun k => w.heap.size ≤ k) w' z (st.1.getD i default).data.length (st.1.getD i default).data ∧ Below w.heap.size w w') ∨ ((∀ i, ¬ Hit st.1 q i) ∧ e = .returned (.tuple #[.slice none 0 0, .bool false]) ∧ Below w.heap.size w w')

set_option maxRecDepth 10000 in
set_option maxHeartbeats 4000000 in
theorem iopen (F : Nat → Prop) (v : Value) (st : OSt) (q : Ask) (x y : Option Addr) (n m c d : Nat) (hL : st.1.length ≤ 10000) (bx : Bytes q.head) (by_ : Bytes q.bytes) (w : World) (hI : PInv F w v st) (sx : SAt w x n q.head) (sy : SAt w y m q.bytes) :
    Calls Try.prog 35 #[v, .agg #[.int .u64 (nv q.key.1), .int .u64 (nv q.key.2)], .agg #[.int .u32 (nv32 q.non.1), .int .u32 (nv32 q.non.2.1), .int .u64 (nv q.non.2.2)], .slice x n c, .agg #[.slice y m d, .int .u64 (nv q.tag.1), .int .u64 (nv q.tag.2)]] w (OpenPost st q w) := by
  have heq := eqU
  have hB : Below w.heap.size w (((w.alloc (.cells #[.int .u64 (nv q.key.1), .int .u64 (nv q.key.2)] 34)).alloc (.cells #[.int .u32 (nv32 q.non.1), .int .u32 (nv32 q.non.2.1), .int .u64 (nv q.non.2.2)] 74)).alloc (.cells #[.slice y m d, .int .u64 (nv q.tag.1), .int .u64 (nv q.tag.2)] 76)) := by go_grown
  have b0 := ((Box.new w (nv q.key.1) (nv q.key.2)).alloc (.cells #[.int .u32 (nv32 q.non.1), .int .u32 (nv32 q.non.2.1), .int .u64 (nv q.non.2.2)] 74)).alloc (.cells #[.slice y m d, .int .u64 (nv q.tag.1), .int .u64 (nv q.tag.2)] 76)
  have bN := (NBox.new (w.alloc (.cells #[.int .u64 (nv q.key.1), .int .u64 (nv q.key.2)] 34)) q.non).alloc (.cells #[.slice y m d, .int .u64 (nv q.tag.1), .int .u64 (nv q.tag.2)] 76)
  have bS := SBox.new ((w.alloc (.cells #[.int .u64 (nv q.key.1), .int .u64 (nv q.key.2)] 34)).alloc (.cells #[.int .u32 (nv32 q.non.1), .int .u32 (nv32 q.non.2.1), .int .u64 (nv q.non.2.2)] 74)) (.slice y m d) (nv q.tag.1) (nv q.tag.2)
  simp only [World.size_alloc] at bN bS
  have hI1 := hI.below hB
  obtain ⟨b, FL, FS, vL, vS, rfl, hA, hF0, -⟩ := hI1
  clear hF0 hI
  replace sx := sx.below hB
  replace sy := sy.below hB
  have htag := nv_range q.tag.2
  have hno : ∀ k : Nat, nv q.tag.2 ≠ (k : Int) + 1 → ¬ Hit st.1 q k := fun k hk h => hk (by
    have h1 := tagI_2 (k + 1) (by have := h.1; omega)
    rw [h.2.2.2.2.2] at h1
    rw [h1]
    rfl)
  have HNO := hide' hno
  clear hno
  obtain ⟨tg, HTG⟩ : ∃ tg, Hid (nv q.tag.2 = tg) := ⟨_, rfl⟩
  rw [HTG.out] at htag bS hB b0 bN sx sy hA HNO ⊢
  by_cases h1 : tg < 1
  · have hpost : OpenPost st q w (.returned (.tuple #[.slice none 0 0, .bool false])) (((w.alloc (.cells #[.int .u64 (nv q.key.1), .int .u64 (nv q.key.2)] 34)).alloc (.cells #[.int .u32 (nv32 q.non.1), .int .u32 (nv32 q.non.2.1), .int .u64 (nv q.non.2.2)] 74)).alloc (.cells #[.slice y m d, .int .u64 (nv q.tag.1), .int .u64 tg] 76)) := Or.inr ⟨fun i => HNO.out i (by omega), rfl, hB⟩
    have HP := hide' hpost
    clear hpost
    go_enter Try.func35, Try.ntmps35
    go_wp2
    go_ret2
    exact HP.out
  · by_cases h2 : (st.1.length : Int) < tg
    · have hpost : OpenPost st q w (.returned (.tuple #[.slice none 0 0, .bool false])) (((w.alloc (.cells #[.int .u64 (nv q.key.1), .int .u64 (nv q.key.2)] 34)).alloc (.cells #[.int .u32 (nv32 q.non.1), .int .u32 (nv32 q.non.2.1), .int .u64 (nv q.non.2.2)] 74)).alloc (.cells #[.slice y m d, .int .u64 (nv q.tag.1), .int .u64 tg] 76)) := Or.inr ⟨fun i h => HNO.out i (by have := h.1; omega) h, rfl, hB⟩
      have HP := hide' hpost
      clear hpost
      obtain ⟨yl, cl, rfl, -, -, -⟩ := own_is hA.iss.choose_spec.1
      have k0 := hA.box.c0
      go_enter Try.func35, Try.ntmps35
      go_wp2
      go_ret2
      exact HP.out
    · obtain ⟨k, hk⟩ : ∃ k : Nat, tg = (k : Int) + 1 := ⟨(tg - 1).toNat, by omega⟩
      have hlt : k < st.1.length := by omega
      have HKn : Hid (tg = ((k + 1 : Nat) : Int)) := hide' (by omega)
      have HN2 : Hid (∀ j, j ≠ k → ¬ Hit st.1 q j) := hide' (fun j hj => HNO.out j (by omega))
      have hsub : tg - 1 = (k : Int) := by omega
      clear hk
      obtain ⟨g, cap, cc, rfl, hcap, hgl, hGg, hin, hcs⟩ := rec_cells hA.iss k hlt
      obtain ⟨z, HZ⟩ : ∃ z, Hid (st.1.getD k default = z) := ⟨_, rfl⟩
      rw [HZ.out] at hin hcs
      obtain ⟨zk, zn, zh, zd⟩ := z
      obtain ⟨nhz, HH⟩ : ∃ nhz, Hid (zh.length = nhz) := ⟨_, rfl⟩
      obtain ⟨ndz, HD⟩ : ∃ ndz, Hid (zd.length = ndz) := ⟨_, rfl⟩
      have hsH : SIn _ _ cc.h nhz zh := HH.out ▸ hin.hs
      have sD : SIn _ _ cc.d ndz zd := HD.out ▸ hin.ds
      have bzh : Bytes zh := hin.hb
      have hdn : cc.d = none → ndz = 0 ∧ cc.dc = 0 := HD.out ▸ hin.dl.2.2
      have hdm : ndz ≤ 4000 := HD.out ▸ hin.dm
      have c0 : (((w.alloc (.cells #[.int .u64 (nv q.key.1), .int .u64 (nv q.key.2)] 34)).alloc (.cells #[.int .u32 (nv32 q.non.1), .int .u32 (nv32 q.non.2.1), .int .u64 (nv q.non.2.2)] 74)).alloc (.cells #[.slice y m d, .int .u64 (nv q.tag.1), .int .u64 tg] 76)).cell? ⟨g, k * 7, none⟩ = some (.int .u64 (nv zk.1)) := hcs 0 _ rfl
      have c1 : (((w.alloc (.cells #[.int .u64 (nv q.key.1), .int .u64 (nv q.key.2)] 34)).alloc (.cells #[.int .u32 (nv32 q.non.1), .int .u32 (nv32 q.non.2.1), .int .u64 (nv q.non.2.2)] 74)).alloc (.cells #[.slice y m d, .int .u64 (nv q.tag.1), .int .u64 tg] 76)).cell? ⟨g, k * 7 + 1, none⟩ = some (.int .u64 (nv zk.2)) := hcs 1 _ rfl
      have c2 : (((w.alloc (.cells #[.int .u64 (nv q.key.1), .int .u64 (nv q.key.2)] 34)).alloc (.cells #[.int .u32 (nv32 q.non.1), .int .u32 (nv32 q.non.2.1), .int .u64 (nv q.non.2.2)] 74)).alloc (.cells #[.slice y m d, .int .u64 (nv q.tag.1), .int .u64 tg] 76)).cell? ⟨g, k * 7 + 2, none⟩ = some (.int .u32 (nv32 zn.1)) := hcs 2 _ rfl
      have c3 : (((w.alloc (.cells #[.int .u64 (nv q.key.1), .int .u64 (nv q.key.2)] 34)).alloc (.cells #[.int .u32 (nv32 q.non.1), .int .u32 (nv32 q.non.2.1), .int .u64 (nv q.non.2.2)] 74)).alloc (.cells #[.slice y m d, .int .u64 (nv q.tag.1), .int .u64 tg] 76)).cell? ⟨g, k * 7 + 3, none⟩ = some (.int .u32 (nv32 zn.2.1)) := hcs 3 _ rfl
      have c4 : (((w.alloc (.cells #[.int .u64 (nv q.key.1), .int .u64 (nv q.key.2)] 34)).alloc (.cells #[.int .u32 (nv32 q.non.1), .int .u32 (nv32 q.non.2.1), .int .u64 (nv q.non.2.2)] 74)).alloc (.cells #[.slice y m d, .int .u64 (nv q.tag.1), .int .u64 tg] 76)).cell? ⟨g, k * 7 + 4, none⟩ = some (.int .u64 (nv zn.2.2)) := hcs 4 _ rfl
      have c5 : (((w.alloc (.cells #[.int .u64 (nv q.key.1), .int .u64 (nv q.key.2)] 34)).alloc (.cells #[.int .u32 (nv32 q.non.1), .int .u32 (nv32 q.non.2.1), .int .u64 (nv q.non.2.2)] 74)).alloc (.cells #[.slice y m d, .int .u64 (nv q.tag.1), .int .u64 tg] 76)).cell? ⟨g, k * 7 + 5, none⟩ = some (.slice cc.h nhz cc.hc) := by rw [← HH.out]; exact hcs 5 _ rfl
      have c6 : (((w.alloc (.cells #[.int .u64 (nv q.key.1), .int .u64 (nv q.key.2)] 34)).alloc (.cells #[.int .u32 (nv32 q.non.1), .int .u32 (nv32 q.non.2.1), .int .u64 (nv q.non.2.2)] 74)).alloc (.cells #[.slice y m d, .int .u64 (nv q.tag.1), .int .u64 tg] 76)).cell? ⟨g, k * 7 + 6, none⟩ = some (.slice cc.d ndz cc.dc) := by rw [← HD.out]; exact hcs 6 _ rfl
      clear hcs hin
      have hb : Below (((w.alloc (.cells #[.int .u64 (nv q.key.1), .int .u64 (nv q.key.2)] 34)).alloc (.cells #[.int .u32 (nv32 q.non.1), .int .u32 (nv32 q.non.2.1), .int .u64 (nv q.non.2.2)] 74)).alloc (.cells #[.slice y m d, .int .u64 (nv q.tag.1), .int .u64 tg] 76)).heap.size (((w.alloc (.cells #[.int .u64 (nv q.key.1), .int .u64 (nv q.key.2)] 34)).alloc (.cells #[.int .u32 (nv32 q.non.1), .int .u32 (nv32 q.non.2.1), .int .u64 (nv q.non.2.2)] 74)).alloc (.cells #[.slice y m d, .int .u64 (nv q.tag.1), .int .u64 tg] 76)) ((((w.alloc (.cells #[.int .u64 (nv q.key.1), .int .u64 (nv q.key.2)] 34)).alloc (.cells #[.int .u32 (nv32 q.non.1), .int .u32 (nv32 q.non.2.1), .int .u64 (nv q.non.2.2)] 74)).alloc (.cells #[.slice y m d, .int .u64 (nv q.tag.1), .int .u64 tg] 76)).alloc (.cells #[.int .u64 (nv zk.1), .int .u64 (nv zk.2), .int .u32 (nv32 zn.1), .int .u32 (nv32 zn.2.1), .int .u64 (nv zn.2.2), .slice cc.h nhz cc.hc, .slice cc.d ndz cc.dc] 92)) := (Below.refl _ _).alloc (Nat.le_refl _) _
      have k1 := hA.box.c0
      have r0 := (b0.grown hb).c0
      have r1 := (b0.grown hb).c1
      have n0 := (bN.grown hb).c0
      have n1 := (bN.grown hb).c1
      have n2 := (bN.grown hb).c2
      have rB := RcBox.new (((w.alloc (.cells #[.int .u64 (nv q.key.1), .int .u64 (nv q.key.2)] 34)).alloc (.cells #[.int .u32 (nv32 q.non.1), .int .u32 (nv32 q.non.2.1), .int .u64 (nv q.non.2.2)] 74)).alloc (.cells #[.slice y m d, .int .u64 (nv q.tag.1), .int .u64 tg] 76)) zk zn (.slice cc.h nhz cc.hc) (.slice cc.d ndz cc.dc)
      replace bS := bS.grown hb
      replace sx := sx.below hb
      replace sy := sy.below hb
      replace hsH := hsH.off (Off.of_below (F := fun _ => False) hb) (fun _ _ _ h => h)
      replace sD := sD.off (Off.of_below (F := fun _ => False) hb) (fun _ _ _ h => h)
      replace hB := hB.trans (hb.mono hB.size)
      simp only [World.size_alloc] at rB
      have HM : Hid (∀ h : ¬ (zk = q.key ∧ zn = q.non ∧ zh = q.head ∧ outB (k + 1) ndz = q.bytes ∧ tagI (k + 1) = q.tag), ∀ i, ¬ Hit st.1 q i) := hide' (fun h i hi => by
        by_cases e : i = k
        · subst e
          refine h ?_
          have := hi.2
          rw [HZ.out] at this
          rw [← HD.out]
          exact this
        · exact HN2.out i e hi)
      clear hb b0 bN hA h1 HNO
      by_cases hu : zk = q.key ∧ zn = q.non
      · have gU : ((nv zk.1 == nv q.key.1 && nv zk.2 == nv q.key.2) && (nv32 zn.1 == nv32 q.non.1 && nv32 zn.2.1 == nv32 q.non.2.1 && nv zn.2.2 == nv q.non.2.2)) = true := by rw [use_eq_of]; exact decide_eq_true hu
        have HP : Hid (zh ≠ q.head → OpenPost st q w (.returned (.tuple #[.slice none 0 0, .bool false])) ((((w.alloc (.cells #[.int .u64 (nv q.key.1), .int .u64 (nv q.key.2)] 34)).alloc (.cells #[.int .u32 (nv32 q.non.1), .int .u32 (nv32 q.non.2.1), .int .u64 (nv q.non.2.2)] 74)).alloc (.cells #[.slice y m d, .int .u64 (nv q.tag.1), .int .u64 tg] 76)).alloc (.cells #[.int .u64 (nv zk.1), .int .u64 (nv zk.2), .int .u32 (nv32 zn.1), .int .u32 (nv32 zn.2.1), .int .u64 (nv zn.2.2), .slice cc.h nhz cc.hc, .slice cc.d ndz cc.dc] 92))) := hide' (fun hh => Or.inr ⟨HM.out (fun h => hh h.2.2.1), rfl, hB⟩)
        have HU := hide' hu
        clear hu
        go_enter Try.func35, Try.ntmps35
        go_wp2_with fail
        refine (iequal cc.h x nhz n cc.hc c zh q.head bzh bx _ hsH.sat sx).mono ?_
        rintro e w2 ⟨rfl, rfl⟩
        by_cases hh : zh = q.head
        · have g := decide_eq_true hh
          rw [g]
          clear g r0 r1 n0 n1 n2 k1 c0 c1 c2 c3 c4 c5 c6 HP hsH sx gU
          go_wp2_with fail
          generalize ((((w.alloc (.cells #[.int .u64 (nv q.key.1), .int .u64 (nv q.key.2)] 34)).alloc (.cells #[.int .u32 (nv32 q.non.1), .int .u32 (nv32 q.non.2.1), .int .u64 (nv q.non.2.2)] 74)).alloc (.cells #[.slice y m d, .int .u64 (nv q.tag.1), .int .u64 tg] 76)).alloc (.cells #[.int .u64 (nv zk.1), .int .u64 (nv zk.2), .int .u32 (nv32 zn.1), .int .u32 (nv32 zn.2.1), .int .u64 (nv zn.2.2), .slice cc.h nhz cc.hc, .slice cc.d ndz cc.dc] 92)) = wr at *
          refine wp_region_held_drew (S := fun w' => Below wr.heap.size wr w') (by kernel_rfl) (Below.refl _ _).drew (fun hHeld => ?_)
          refine takeL 0 52 (v := ?_) rfl rfl (by kernel_rfl) (by kernel_rfl) (by kernel_rfl) (fun _ _ _ h => h) (by rfl) hHeld (fun w hSw => ?_) ?_
          rotate_left 1
          · (try dsimp only at hSw)
            have hx_ := bS.grown hSw
            have e0_ := hx_.c0
            have e1_ := hx_.c1
            have e2_ := hx_.c2
            clear hx_
            clear hSw
            go_simp
            try with_reducible rfl
          simp only [List.set_cons_succ, List.set_cons_zero]
          refine takeM 1 53 12 rfl rfl rfl (by kernel_rfl) (by kernel_rfl) (by kernel_rfl) (fun _ _ _ h => h) (by rfl) hHeld rfl ?_
          simp only [List.set_cons_succ, List.set_cons_zero]
          refine takeL 2 54 (v := ?_) rfl rfl (by kernel_rfl) (by kernel_rfl) (by kernel_rfl) (fun _ _ _ h => h) (by rfl) hHeld (fun w hSw => ?_) ?_
          rotate_left 1
          · (try dsimp only at hSw)
            clear hSw
            go_simp
            try with_reducible rfl
          simp only [List.set_cons_succ, List.set_cons_zero]
          refine takeL 3 55 (v := ?_) rfl rfl (by kernel_rfl) (by kernel_rfl) (by kernel_rfl) (fun _ _ _ h => h) (by rfl) hHeld (fun w hSw => ?_) ?_
          rotate_left 1
          · (try dsimp only at hSw)
            have e0_ := (rB.grown hSw).c6
            clear hSw
            go_simp
            try with_reducible rfl
          simp only [List.set_cons_succ, List.set_cons_zero]
          refine takeL 4 56 (v := ?_) rfl rfl (by kernel_rfl) (by kernel_rfl) (by kernel_rfl) (fun _ _ _ h => h) (by rfl) hHeld (fun w hSw => ?_) ?_
          rotate_left 1
          · (try dsimp only at hSw)
            clear hSw
            go_simp
            try with_reducible rfl
          simp only [List.set_cons_succ, List.set_cons_zero]
          refine onlyL 5 rfl (by kernel_rfl) (by rfl) (fun K hK => ?_)
          go_wp2_with fail
          refine (isealed_at (k + 1) ndz _ HKn.out (by omega) _).mono ?_
          rintro e w5 ⟨g5, rfl, hg5, row5, hc5⟩
          have hb : Below wr.heap.size wr w5 := (Below.refl _ _).drew.trans hc5.b
          replace bS := bS.grown hb
          replace rB := rB.grown hb
          replace hB := hB.trans (hb.mono hB.size)
          replace sy := sy.below hb
          replace sD := sD.off (Off.of_below (F := fun _ => False) hb) (fun _ _ _ h => h)
          refine hK.out _ _ hb (fun _ => ?_)
          clear hK K hHeld
          refine held_more (S' := fun w' => Below w5.heap.size w5 w') (fun _ h => hb.trans (h.mono hb.size)) _ _ _ _ ?_
          have hHeld := Below.refl w5.heap.size w5
          clear hb hc5
          have s5 : SAt w5 (some ⟨g5, 0, none⟩) ndz (outB (k + 1) ndz) := ⟨outB_length _ _, fun _ => ⟨g5, 0, rfl, row5.lt, fun j hj => by rw [Nat.zero_add]; exact row5.cell (by rw [outB_length] at hj; exact hj)⟩⟩
          clear row5
          refine onlyL 6 rfl (by kernel_rfl) (by rfl) (fun K hK => ?_)
          go_wp2_with fail
          refine (isame_at (k + 1) (by omega) q.tag tg HTG.out q.bytes (outB (k + 1) ndz) y (some ⟨g5, 0, none⟩) m ndz d ndz by_ (outB_bytes _ _) _ HKn.out _ sy s5).mono ?_
          rintro e w6 ⟨rfl, hb⟩
          obtain ⟨tt, HTT⟩ : ∃ tt, Hid (decide (q.tag = tagI (k + 1) ∧ q.bytes = outB (k + 1) ndz) = tt) := ⟨_, rfl⟩
          rw [HTT.out]
          replace bS := bS.grown hb
          replace rB := rB.grown hb
          replace hB := hB.trans (hb.mono hB.size)
          replace sD := sD.off (Off.of_below (F := fun _ => False) hb) (fun _ _ _ h => h)
          refine hK.out _ _ hb (fun _ => ?_)
          clear hK K hHeld
          refine held_more (S' := fun w' => Below w6.heap.size w6 w') (fun _ h => hb.trans (h.mono hb.size)) _ _ _ _ ?_
          have hHeld := Below.refl w6.heap.size w6
          clear hb
          refine takeL 7 59 (v := ?_) rfl rfl (by kernel_rfl) (by kernel_rfl) (by kernel_rfl) (fun _ _ _ h => h) (by rfl) hHeld (fun w hSw => ?_) ?_
          rotate_left 1
          · (try dsimp only at hSw)
            clear hSw
            go_simp
            try with_reducible rfl
          simp only [List.set_cons_succ, List.set_cons_zero]
          refine wpAnyH_done (by kernel_rfl) ?_ _
          clear hHeld s5
          cases tt with
          | true =>
            have ht := of_decide_eq_true HTT.out
            have k6 := rB.c6
            go_wp2_with fail
            refine (iclone cc.d ndz cc.dc zd (by omega) hdn _ sD.sat).mono ?_
            rintro e w7 ⟨v7, rfl, own7, hc7⟩
            obtain ⟨x7, c7, rfl, s7, -, -, -⟩ := own_sin HD.out own7
            have hit : Hit st.1 q k := ⟨hlt, by rw [HZ.out]; exact ⟨HU.out.1, HU.out.2, hh, by rw [HD.out]; exact ht.2.symm, ht.1.symm⟩⟩
            have HP : Hid (OpenPost st q w (.returned (.tuple #[.slice x7 ndz c7, .bool true])) w7) := hide' (Or.inl ⟨k, x7, c7, hit, by rw [HZ.out, HD.out], by rw [HZ.out, HD.out]; exact s7.mono (fun i _ hi => Nat.le_trans hB.size (own_block own7 i hi)), hB.trans (hc7.b.mono hB.size)⟩)
            clear hit ht
            go_wp2
            go_ret2
            exact HP.out
          | false =>
            have ht := of_decide_eq_false HTT.out
            have HP : Hid (OpenPost st q w (.returned (.tuple #[.slice none 0 0, .bool false])) w6) := hide' (Or.inr ⟨HM.out (fun h => ht ⟨h.2.2.2.2.symm, h.2.2.2.1.symm⟩), rfl, hB⟩)
            clear ht
            go_wp2
            go_ret2
            exact HP.out
        · have g := decide_eq_false hh
          rw [g]
          have HP2 := hide' (HP.out hh)
          clear g hh HP
          go_wp2
          go_ret2
          exact HP2.out
      · have gU : ((nv zk.1 == nv q.key.1 && nv zk.2 == nv q.key.2) && (nv32 zn.1 == nv32 q.non.1 && nv32 zn.2.1 == nv32 q.non.2.1 && nv zn.2.2 == nv q.non.2.2)) = false := by rw [use_eq_of]; exact decide_eq_false hu
        have HP : Hid (OpenPost st q w (.returned (.tuple #[.slice none 0 0, .bool false])) ((((w.alloc (.cells #[.int .u64 (nv q.key.1), .int .u64 (nv q.key.2)] 34)).alloc (.cells #[.int .u32 (nv32 q.non.1), .int .u32 (nv32 q.non.2.1), .int .u64 (nv q.non.2.2)] 74)).alloc (.cells #[.slice y m d, .int .u64 (nv q.tag.1), .int .u64 tg] 76)).alloc (.cells #[.int .u64 (nv zk.1), .int .u64 (nv zk.2), .int .u32 (nv32 zn.1), .int .u32 (nv32 zn.2.1), .int .u64 (nv zn.2.2), .slice cc.h nhz cc.hc, .slice cc.d ndz cc.dc] 92))) := hide' (Or.inr ⟨HM.out (fun h => hu ⟨h.1, h.2.1⟩), rfl, hB⟩)
        clear hu
        go_enter Try.func35, Try.ntmps35
        go_wp2
        go_ret2
        exact HP.out
end Go.Proofs.Ytkbhkgfchiacbaa
