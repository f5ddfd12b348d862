/- What the laws of a device share: its calls at a power that is on, without a fuse; what is known. -/
import Derived.Test.YtcpplfclpigmkaaSsdSaid
import Derived.Test.YtcpplfclpigmkaaDevLaws
namespace Go.Proofs.Ytcpplfclpigmkaa
open Go.RowKit
set_option maxRecDepth 20000

variable {PI : (Nat → Prop) → World → Value → PSt → Prop} {SI : Option Addr → (Nat → Prop) → World → Value → SsdSt → Prop}
/-- A device and its power, that is on, and has no fuse. -/
abbrev Dev (PI : (Nat → Prop) → World → Value → PSt → Prop) (SI : Option Addr → (Nat → Prop) → World → Value → SsdSt → Prop) (p : Option Addr) (w : World) (F : Nat → Prop) (v : Value) (st : SsdSt) (G : Nat → Prop) (k : Nat) (wr : World) : Prop :=
  Duo (SI p) PI w F v st G (.pointer p) (true, none, k) wr
theorem smake_at (hO : SsdIs PI SI) (p : Option Addr) {m : Int} (n : Nat) (hm : (n : Int) = m) (hn : n ≤ 65536) (w : World) : Calls Try.prog 7 #[.int .i64 m, .pointer p] w fun e w' => ∃ v F, e = .returned v ∧ SI p F w' v ⟨List.replicate n 0, [], []⟩ ∧ (∀ k, F k → w.heap.size ≤ k) ∧ Below w.heap.size w w' := by
  subst hm
  exact hO.make p n hn w
theorem swrite_at (hO : SsdIs PI SI) (p : Option Addr) (F G : Nat → Prop) (v : Value) {w0 : World} {st st' : SsdSt} {k : Nat} {ov : Int} (off n c : Nat) (x : Option Addr) (xs : List Int) (hov : (off : Int) = ov) (hs : st.write off xs = st') (h : off + n ≤ st.B.length) (hT : st.T.length ≤ 100000) (hk : k ≤ 1000000) (fx : Fit x n c) (bx : Bytes xs) (w : World) (M : Dev PI SI p w0 F v st G k w) (hx : SIn (fun k => ¬ F k ∧ ¬ G k) w x n xs) :
    Calls Try.prog 9 #[v, .int .i64 ov, .slice x n c] w fun e w' => ∃ F' G', e = .returned (.bool true) ∧ KeptD (SI p) PI F G w v (.pointer p) F' G' w' st' (true, none, k + 1) := by
  subst hov hs
  exact hO.write p F G v st (true, none, k) off n c x xs h hT hk fx bx w M.one M.two M.dis hx
theorem sbarrier_at (hO : SsdIs PI SI) (p : Option Addr) (F G : Nat → Prop) (v : Value) {w0 : World} {st st' : SsdSt} {k : Nat} (hs : st.settle = st') (hT : st.T.length ≤ 100000) (hk : k ≤ 1000000) (w : World) (M : Dev PI SI p w0 F v st G k w) :
    Calls Try.prog 10 #[v] w fun e w' => ∃ F' G', e = .returned (.bool true) ∧ KeptD (SI p) PI F G w v (.pointer p) F' G' w' st' (true, none, k + 1) := by
  subst hs
  exact hO.barrier p F G v st (true, none, k) hT hk w M.one M.two M.dis
theorem sread_at (hO : SsdIs PI SI) (p : Option Addr) (F G : Nat → Prop) (v : Value) {w0 : World} {st : SsdSt} {k : Nat} {ov nv : Int} (off n : Nat) {ys : List Int} (hov : (off : Int) = ov) (hnv : (n : Int) = nv) (hy : (st.cur.drop off).take n = ys) (h : off + n ≤ st.B.length) (w : World) (M : Dev PI SI p w0 F v st G k w) :
    Calls Try.prog 17 #[v, .int .i64 ov, .int .i64 nv] w fun e w' => ∃ z cz F', e = .returned (.tuple #[.slice z n cz, .bool true]) ∧ KeptG (SI p) F w v F' w' st ∧ SIn (NewOf w F') w' z n ys ∧ Fit z n cz ∧ Soft w w' := by
  subst hov hnv hy
  exact hO.read p F G v st (true, none, k) off n h rfl w M.one M.two M.dis
theorem ssnap_at (hO : SsdIs PI SI) (p : Option Addr) (F : Nat → Prop) (v : Value) {st : SsdSt} (n : Nat) {ys : List Int} (hn : st.B.length = n) (hy : st.cur = ys) (w : World) (hI : SI p F w v st) :
    Calls Try.prog 11 #[v] w fun e w' => ∃ z cz F', e = .returned (.slice z n cz) ∧ KeptG (SI p) F w v F' w' st ∧ SIn (NewOf w F') w' z n ys ∧ Fit z n cz ∧ Soft w w' := by
  subst hn hy
  exact hO.snap p F v st w hI
theorem scrash_at (hO : SsdIs PI SI) (p : Option Addr) (F : Nat → Prop) (v : Value) {st st' : SsdSt} (x : Option Addr) (m c : Nat) (K : List Bool) (hs : st.crash K = st') (fx : Fit x m c) (w : World) (hI : SI p F w v st) (hK : KIn (fun k => ¬ F k) w x m K) :
    Calls Try.prog 12 #[v, .slice x m c] w fun e w' => ∃ F', e = .returned (.tuple #[]) ∧ KeptG (SI p) F w v F' w' st' := by
  subst hs
  exact hO.crash p F v st x m c K fx w hI hK
theorem ssize_at (hO : SsdIs PI SI) (p : Option Addr) (F : Nat → Prop) (v : Value) {st : SsdSt} {m : Int} (hm : (st.B.length : Int) = m) (w : World) (hI : SI p F w v st) :
    Calls Try.prog 18 #[v] w fun e w' => e = .returned (.int .i64 m) ∧ Below w.heap.size w w' := by
  subst hm
  exact hO.size p F v st w hI
set_option maxHeartbeats 2000000 in
theorem sknown (hP : PowIs PI) (hO : SsdIs PI SI) (w : World) : Calls Try.prog 13 #[] w fun e w' => e = .returned (.bool true) ∧ Below w.heap.size w w' := by
  have hs1 : (strOfNums [0, 7, 0, 0]).toList = [0, 7, 0, 0] := by decide +kernel
  have hs2 : (strOfNums [0, 0, 0, 0]).toList = [0, 0, 0, 0] := by decide +kernel
  go_enter Try.func13, Try.ntmps13
  go_wp2_with fail
  refine (hP.make _).mono ?_
  rintro e w1 ⟨u, G, rfl, hJ, hG, hb⟩
  obtain ⟨p, rfl⟩ := hP.base.ptr hJ
  have M0 : ObjIn PI w G (.pointer (some p)) (true, none, 0) w1 := ⟨hJ, hG, hb⟩
  clear hJ hG hb
  go_wp2_with fail
  refine (smake_at hO (some p) 4 rfl (by decide) _).mono ?_
  rintro e w2 ⟨v, F, rfl, hI, hF, hb⟩
  obtain ⟨a, rfl⟩ := (hO.base _).ptr hI
  have M : Dev PI SI (some p) w F (.pointer (some a)) ⟨[0, 0, 0, 0], [], []⟩ G 0 w2 := (M0.duo hP.base hI hF hb).swap
  clear hI hF hb M0
  have hx := M.row (hO.base _) hP.base [7] 1 rfl
  have hb : Below w2.heap.size w2 (w2.alloc (.cells (([7] : List Int).map (Value.int .u8)).toArray 5)) := (Below.refl _ _).alloc (Nat.le_refl _) _
  replace M := M.quiet (hO.base _) hP.base hb
  clear hb
  go_wp2_with fail
  refine (swrite_at hO (some p) F G _ (st' := ⟨[0, 0, 0, 0], [(1, [7])], [(1, [7])]⟩) 1 1 1 _ [7] rfl rfl (by decide) (by decide) (by decide) ⟨by decide, by decide, fun e => by cases e⟩ (by intro y hy; simp at hy; omega) _ M hx).mono ?_
  rintro e w3 ⟨F3, G3, rfl, hK⟩
  replace M := M.both hK
  clear hK hx
  go_wp2_with fail
  refine (ssnap_at hO (some p) F3 _ 4 (ys := [0, 7, 0, 0]) rfl rfl _ M.one).mono ?_
  rintro e w4 ⟨z, cz, F4, rfl, hK, sz, -, -⟩
  replace M := M.o1 hP.base hK
  clear hK
  have e0_ := fun c => sz.sat.conv (c := c)
  go_wp2_with fail
  clear e0_ sz
  refine (scrash_at hO (some p) F4 _ (st' := ⟨[0, 0, 0, 0], [], [(1, [7])]⟩) none 0 0 [] rfl ⟨by decide, by decide, fun _ => ⟨rfl, rfl⟩⟩ _ M.one (KIn.none _ _ _)).mono ?_
  rintro e w5 ⟨F5, rfl, hK⟩
  replace M := M.o1 hP.base hK
  clear hK
  go_wp2_with fail
  refine (ssnap_at hO (some p) F5 _ 4 (ys := [0, 0, 0, 0]) rfl rfl _ M.one).mono ?_
  rintro e w6 ⟨z, cz, F6, rfl, hK, sz, -, -⟩
  replace M := M.o1 hP.base hK
  clear hK
  have e0_ := fun c => sz.sat.conv (c := c)
  go_wp2_with fail
  clear e0_ sz
  refine (ssize_at hO (some p) F6 _ (m := 4) rfl _ M.one).mono ?_
  rintro e w7 ⟨rfl, hb⟩
  replace M := M.quiet (hO.base _) hP.base hb
  clear hb
  go_wp2_with fail
  refine (hP.make _).mono ?_
  rintro e w8 ⟨u, G8, rfl, hJ, hG, hb⟩
  obtain ⟨p8, rfl⟩ := hP.base.ptr hJ
  replace M := M.quiet (hO.base _) hP.base hb
  clear hJ hG hb
  go_wp2_with fail
  refine (hO.makeNo (some p8) (-1) (by decide) _).mono ?_
  rintro e w9 ⟨rfl, hb⟩
  replace M := M.quiet (hO.base _) hP.base hb
  go_wp2
  go_ret
  exact ⟨rfl, M.hB⟩
end Go.Proofs.Ytcpplfclpigmkaa
