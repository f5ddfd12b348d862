/- Plain facts: polynomials over 0 and 1 of 128 digits, power 128 taken out by 135, are a field. -/
import Derived.WalkKit
namespace Go.Proofs.Ytkkehbebaokdmaa.Gf

/-- Times power 1. -/
def xt (v : BitVec 128) : BitVec 128 := (v <<< 1) ^^^ (if v.msb then 135#128 else 0#128)
theorem xor_mid (a b c : BitVec 128) : a ^^^ c ^^^ (b ^^^ c) = a ^^^ b := by
  have : a ^^^ c ^^^ (b ^^^ c) = a ^^^ b ^^^ (c ^^^ c) := by ac_rfl
  rw [this, BitVec.xor_self, BitVec.xor_zero]
theorem xt_add (u v : BitVec 128) : xt (u ^^^ v) = xt u ^^^ xt v := by
  unfold xt
  rw [BitVec.shiftLeft_xor_distrib, BitVec.msb_xor]
  cases u.msb <;> cases v.msb
  · simp
  · simp; ac_rfl
  · simp; ac_rfl
  · simp only [bne_self_eq_false, Bool.false_eq_true, if_false, if_true]
    rw [xor_mid, BitVec.xor_zero]
theorem xt_zero : xt 0#128 = 0#128 := by decide

/-- The product, its highest n digits of b done. -/
def hor (a b : BitVec 128) : Nat → BitVec 128
  | 0 => 0#128
  | n + 1 => xt (hor a b n) ^^^ (if b.getLsbD (127 - n) then a else 0#128)
def mul (a b : BitVec 128) : BitVec 128 := hor a b 128
theorem hor_succ (a b : BitVec 128) (n : Nat) : hor a b (n + 1) = xt (hor a b n) ^^^ (if b.getLsbD (127 - n) then a else 0#128) := rfl

theorem hor_map (f : BitVec 128 → BitVec 128) (hf : ∀ u v, f (u ^^^ v) = f u ^^^ f v) (hx : ∀ u, f (xt u) = xt (f u)) (a b : BitVec 128) : ∀ n, f (hor a b n) = hor (f a) b n := by
  have h0 : f 0#128 = 0#128 := by
    have := hf 0#128 0#128
    rw [BitVec.xor_self] at this
    rw [this, BitVec.xor_self]
  intro n
  induction n with
  | zero => exact h0
  | succ n ih =>
    rw [hor_succ, hor_succ, hf, hx, ih]
    split
    · rfl
    · rw [h0]
theorem hor_add (a a' b : BitVec 128) : ∀ n, hor (a ^^^ a') b n = hor a b n ^^^ hor a' b n := by
  intro n
  induction n with
  | zero => simp [hor]
  | succ n ih =>
    rw [hor_succ, hor_succ, hor_succ, ih, xt_add]
    split
    · ac_rfl
    · simp
theorem add_mul (a a' b : BitVec 128) : mul (a ^^^ a') b = mul a b ^^^ mul a' b := hor_add a a' b 128
theorem xt_mul (a b : BitVec 128) : mul (xt a) b = xt (mul a b) := (hor_map xt xt_add (fun _ => rfl) a b 128).symm
/-- The heart of it. -/
theorem star (a b c : BitVec 128) : mul (mul a b) c = mul (mul a c) b :=
  hor_map (fun v => mul v c) (fun u v => add_mul u v c) (fun u => xt_mul u c) a b 128

theorem one_hor (b : BitVec 128) : ∀ n, n ≤ 128 → hor 1#128 b n = b >>> (128 - n) := by
  intro n
  induction n with
  | zero =>
    intro _
    apply BitVec.eq_of_getLsbD_eq
    intro i hi
    simp [hor, BitVec.getLsbD_of_ge]
  | succ n ih =>
    intro hn
    rw [hor_succ, ih (by omega)]
    have hm : (b >>> (128 - n)).msb = false := by
      rw [BitVec.msb_eq_getLsbD_last, BitVec.getLsbD_ushiftRight]
      exact BitVec.getLsbD_of_ge _ _ (by omega)
    unfold xt
    rw [hm]
    apply BitVec.eq_of_getLsbD_eq
    intro i hi
    by_cases h0 : i = 0
    · subst h0
      rw [show 128 - (n + 1) = 127 - n from by omega]
      cases hb : b.getLsbD (127 - n) <;> simp [hb]
    · have e1 : 128 - n + (i - 1) = 128 - (n + 1) + i := by omega
      have e2 : ((1#128 : BitVec 128)).getLsbD i = false := by simp [h0]
      have e3 : (if b.getLsbD (127 - n) = true then 1#128 else 0#128).getLsbD i = false := by
        split
        · exact e2
        · simp
      have e4 : i ≠ 0 := h0
      rw [BitVec.getLsbD_xor, e3]
      simp [hi, e4, e1]
theorem one_mul (b : BitVec 128) : mul 1#128 b = b := by
  rw [mul, one_hor b 128 (Nat.le_refl _)]
  simp
theorem mul_comm (a b : BitVec 128) : mul a b = mul b a := by
  have := star 1#128 a b
  rw [one_mul, one_mul] at this
  exact this
theorem mul_assoc (a b c : BitVec 128) : mul (mul a b) c = mul a (mul b c) := by
  rw [mul_comm a b, star b a c, mul_comm]
theorem mul_add (a b c : BitVec 128) : mul a (b ^^^ c) = mul a b ^^^ mul a c := by
  rw [mul_comm, add_mul, mul_comm b, mul_comm c]
theorem mul_one (a : BitVec 128) : mul a 1#128 = a := by rw [mul_comm, one_mul]
theorem zero_mul (a : BitVec 128) : mul 0#128 a = 0#128 := by
  have := add_mul 0#128 0#128 a
  rw [BitVec.xor_self] at this
  rw [this, BitVec.xor_self]
theorem mul_zero (a : BitVec 128) : mul a 0#128 = 0#128 := by rw [mul_comm, zero_mul]
theorem mul_two (a : BitVec 128) : mul a 2#128 = xt a := by
  have : xt 1#128 = 2#128 := by decide
  rw [mul_comm, ← this, xt_mul, one_mul]

/-- Squares. -/
def sq (v : BitVec 128) : BitVec 128 := mul v v
theorem sq_add (u v : BitVec 128) : sq (u ^^^ v) = sq u ^^^ sq v := by
  unfold sq
  rw [add_mul, mul_add, mul_add, mul_comm v u]
  have : mul u u ^^^ mul u v ^^^ (mul u v ^^^ mul v v) = mul u u ^^^ (mul u v ^^^ mul u v) ^^^ mul v v := by ac_rfl
  rw [this, BitVec.xor_self, BitVec.xor_zero]
theorem sq_mul (u v : BitVec 128) : sq (mul u v) = mul (sq u) (sq v) := by
  unfold sq
  rw [mul_assoc, mul_assoc u u, ← mul_assoc v u v, mul_comm v u, mul_assoc u v v]
def sqN (v : BitVec 128) : Nat → BitVec 128
  | 0 => v
  | n + 1 => sq (sqN v n)
theorem sqN_add (u v : BitVec 128) : ∀ n, sqN (u ^^^ v) n = sqN u n ^^^ sqN v n := by
  intro n
  induction n with
  | zero => rfl
  | succ n ih => rw [sqN, ih, sq_add]; rfl
theorem sqN_mul (u v : BitVec 128) : ∀ n, sqN (mul u v) n = mul (sqN u n) (sqN v n) := by
  intro n
  induction n with
  | zero => rfl
  | succ n ih => rw [sqN, ih, sq_mul]; rfl
theorem sqN_const : sqN 0#128 128 = 0#128 ∧ sqN 1#128 128 = 1#128 := by
  have h0 : ∀ n, sqN 0#128 n = 0#128 := by
    intro n
    induction n with
    | zero => rfl
    | succ n ih => rw [sqN, ih, sq, zero_mul]
  have h1 : ∀ n, sqN 1#128 n = 1#128 := by
    intro n
    induction n with
    | zero => rfl
    | succ n ih => rw [sqN, ih, sq, one_mul]
  exact ⟨h0 128, h1 128⟩
theorem sqN_two : sqN 2#128 128 = 2#128 := by decide +kernel
theorem frob (v : BitVec 128) : sqN v 128 = v := by
  have h : ∀ n, sqN (hor 1#128 v n) 128 = hor 1#128 v n := by
    intro n
    induction n with
    | zero => exact sqN_const.1
    | succ n ih =>
      rw [hor_succ, sqN_add, ← mul_two, sqN_mul, ih, sqN_two]
      split
      · rw [sqN_const.2]
      · rw [sqN_const.1]
  have := h 128
  rw [show hor 1#128 v 128 = v from one_mul v] at this
  exact this

/-- Sums of r i over the digits of v. -/
def lin (r : Nat → BitVec 128) (v : BitVec 128) : Nat → BitVec 128
  | 0 => 0#128
  | n + 1 => lin r v n ^^^ (if v.getLsbD n then r n else 0#128)
theorem lin_add (r : Nat → BitVec 128) (u v : BitVec 128) : ∀ n, lin r (u ^^^ v) n = lin r u n ^^^ lin r v n := by
  intro n
  induction n with
  | zero => simp [lin]
  | succ n ih =>
    rw [lin, lin, lin, ih, BitVec.getLsbD_xor]
    have e : lin r u n ^^^ (if u.getLsbD n = true then r n else 0#128) ^^^ (lin r v n ^^^ (if v.getLsbD n = true then r n else 0#128)) = lin r u n ^^^ lin r v n ^^^ ((if u.getLsbD n = true then r n else 0#128) ^^^ (if v.getLsbD n = true then r n else 0#128)) := by ac_rfl
    rw [e]
    cases u.getLsbD n <;> cases v.getLsbD n <;> simp
def unit (i : Nat) : BitVec 128 := 1#128 <<< i
theorem lin_unit (v : BitVec 128) : ∀ n, n ≤ 128 → ∀ i, (lin unit v n).getLsbD i = (decide (i < n) && v.getLsbD i) := by
  intro n
  induction n with
  | zero => intro _ i; simp [lin]
  | succ n ih =>
    intro hn i
    rw [lin, BitVec.getLsbD_xor, ih (by omega)]
    have hu : (if v.getLsbD n = true then unit n else 0#128).getLsbD i = (v.getLsbD n && decide (i = n)) := by
      cases v.getLsbD n
      · simp
      · simp only [if_true, unit, Bool.true_and, BitVec.getLsbD_shiftLeft]
        by_cases e : i = n
        · subst e; simp; omega
        · by_cases h : i < n
          · simp [h, e]
          · have : ((1#128 : BitVec 128)).getLsbD (i - n) = false := by simp; omega
            simp [this, e]
    rw [hu]
    by_cases e : i = n
    · subst e; simp
    · by_cases h : i < n
      · have h' : i < n + 1 := by omega
        simp [h, h', e]
      · have h' : ¬ i < n + 1 := by omega
        simp [h, h', e]
theorem lin_self (v : BitVec 128) : lin unit v 128 = v := by
  apply BitVec.eq_of_getLsbD_eq
  intro i hi
  rw [lin_unit v 128 (Nat.le_refl _)]
  simp [hi]
theorem lin_map (f : BitVec 128 → BitVec 128) (hf : ∀ u v, f (u ^^^ v) = f u ^^^ f v) (r : Nat → BitVec 128) (v : BitVec 128) : ∀ n, f (lin r v n) = lin (fun i => f (r i)) v n := by
  have h0 : f 0#128 = 0#128 := by
    have := hf 0#128 0#128
    rw [BitVec.xor_self] at this
    rw [this, BitVec.xor_self]
  intro n
  induction n with
  | zero => exact h0
  | succ n ih =>
    rw [lin, lin, hf, ih]
    split
    · rfl
    · rw [h0]
theorem lin_congr {r s : Nat → BitVec 128} (v : BitVec 128) : ∀ n, (∀ i, i < n → r i = s i) → lin r v n = lin s v n := by
  intro n
  induction n with
  | zero => intro _; rfl
  | succ n ih =>
    intro h
    rw [lin, lin, ih (fun i hi => h i (by omega)), h n (by omega)]
/-- Two sums that agree at each digit agree. -/
theorem same_lin {f g : BitVec 128 → BitVec 128} (hf : ∀ u v, f (u ^^^ v) = f u ^^^ f v) (hg : ∀ u v, g (u ^^^ v) = g u ^^^ g v) (h : ∀ i, i < 128 → f (unit i) = g (unit i)) (v : BitVec 128) : f v = g v := by
  rw [← lin_self v, lin_map f hf, lin_map g hg]
  exact lin_congr v 128 h

def backs : List Nat := [54969562866131847669016652494142573320, 305526867633558886955404559995676324868, 305526867633558886955404559995676324870, 104469799312523126935073530960423461388, 305526867633558886955404559995676324866, 56734434906695435454005472259553578602, 104469799312523126935073530960423461380, 271830150077582418345900040240152313368, 305526867633558886955404559995676324882, 104470118804432205535668098632526617412, 56734434906695435454005472259553578570, 227145695117876428321601179286510436182, 104469799312523126935073530960423461444, 305967500991204419130524647600360013666, 271830150077582418345900040240152313496, 227728627380917811012951187023350445606, 305526867633558886955404559995676325138, 56815181714465587187729576693626853178, 104470118804432205535668098632526616900, 2537993204061707162883588357039153916, 56734434906695435454005472259553577546, 3012428575888700110705650160495551628, 227145695117876428321601179286510434134, 275671395948664093117384310641479295528, 104469799312523126935073530960423465540, 271915852323952067842399232303023203416, 305967500991204419130524647600360005474, 102998777379450204286412735627287799860, 271830150077582418345900040240152297112, 272209106874770544727132909282711537316, 227728627380917811012951187023350412838, 135325830696997074197434372310186257282, 305526867633558886955404559995676390674, 57232084741685004684866676497372669754, 56815181714465587187729576693626984250, 135411474552265958872087683058005180738, 104470118804432205535668098632526879044, 275757512462385460142162890854388625828, 2537993204061707162883588357039678204, 274842411402277094064293402576501149528, 56734434906695435454005472259554626122, 175382474467339210118195525752143821788, 3012428575888700110705650160497648780, 5261797816253387317062014170447638976, 227145695117876428321601179286514628438, 272210066766835802062006483639670336468, 275671395948664093117384310641470906920, 225136856268418471551472419225175749014, 104469799312523126935073530960440242756, 102164174349821125137969924442995585924, 271915852323952067842399232302989648984, 226936647763116174786496543602468507498, 305967500991204419130524647600427114338, 305532029585887981283514747020026657774, 102998777379450204286412735627422017588, 133211003395652039953403666705387164366, 271830150077582418345900040239883861656, 102148097239065330920971689869502701364, 272209106874770544727132909283248408228, 173139448164521758332819425568250980204, 227728627380917811012951187022276671014, 305961988162602755697098987302884752222, 135325830696997074197434372312333740930, 175397880387343143921058595535091746080, 305526867633558886955404559991381423378, 329634352286836299080082914081100, 57232084741685004684866676505962604346, 172705286512742171128536335012890908524, 56815181714465587187729576710806853434, 303614986222712004812458293485509624930, 135411474552265958872087683023645442370, 170536380025231687221712635462198253856, 104470118804432205535668098701246355780, 225051247907070202050589524227723711914, 275757512462385460142162890991827579300, 308170559265311564786252692292247708062, 2537993204061707162883588082161771260, 102169133813289299704984590013427707636, 274842411402277094064293402026745335640, 303326766809063102477989677003176958226, 56734434906695435454005473359066253898, 172841837191359616877872241477191677152, 175382474467339210118195523553120566236, 54888141419452711199816878900948880442, 3012428575888700110705654558544159884, 307799342647640341558117533281787318686, 5261797816253387317062022966540661184, 273119276677551945356669168913118222868, 227145695117876428321601196878700672854, 272311600527812781647585363233504111460, 272210066766835802062006518824042425300, 5181299727675599870287693023180209980, 275671395948664093117384240272726729256, 305525142620375929691910208574098026146, 225136856268418471551472278487687393686, 307772801086609188417528170053220769746, 104469799312523126935073249485463532100, 54596111748351997025280216654447342278, 102164174349821125137970487392949007236, 308164931596625094656266467235253809106, 271915852323952067842398106403082806360, 227647953955287367714133036452945544742, 226936647763116174786494291802654822250, 308170555145571807541189819739699809694, 305967500991204419130520144000799743842, 133105130754254600986622393405343152142, 305532029585887981283523754219281398766, 172410759080424577518324870893406614048, 102998777379450204286394721228912535604, 54969320214588899006126198736319185926, 133211003395652039953439695502406128334, 227375442280390979429973553919662004774, 271830150077582418345827982645845933720, 4955917326648230773508684280683823104, 102148097239065330921115805057578557236, 172885700256406002458384310923462859152, 272209106874770544726844678907096696484, 56538291399058816093646072645906817530, 173139448164521758332242964815947556716, 55418003596362017635628740176384579466, 227728627380917811014104108526883517990, 0, 305961988162602755699404830312098446174, 178356100567250831900639352525185366892, 135325830696997074202046058330761128834, 189481146061086134017106552491789565356, 175397880387343143911835223498236970272, 75361565302940573017734093940626417402]
def back (v : BitVec 128) : BitVec 128 := lin (fun i => BitVec.ofNat 128 (backs.getD i 0)) v 128
def low (v : BitVec 128) : BitVec 128 := v ^^^ (if v.getLsbD 0 then 1#128 else 0#128)
theorem back_add (u v : BitVec 128) : back (u ^^^ v) = back u ^^^ back v := lin_add _ u v 128
theorem low_add (u v : BitVec 128) : low (u ^^^ v) = low u ^^^ low v := by
  unfold low
  rw [BitVec.getLsbD_xor]
  cases u.getLsbD 0 <;> cases v.getLsbD 0
  · simp
  · simp; ac_rfl
  · simp; ac_rfl
  · simp only [bne_self_eq_false, Bool.false_eq_true, if_false, if_true]
    rw [xor_mid, BitVec.xor_zero]
theorem back_units : ∀ i, i < 128 → back (sq (unit i) ^^^ unit i) = low (unit i) := by
  have h : (List.range 128).all (fun i => back (sq (unit i) ^^^ unit i) == low (unit i)) = true := by decide +kernel
  intro i hi
  exact eq_of_beq (List.all_eq_true.1 h i (List.mem_range.2 hi))
theorem back_sq (v : BitVec 128) : back (sq v ^^^ v) = low v := by
  refine same_lin (f := fun v => back (sq v ^^^ v)) (g := low) (fun u w => ?_) low_add back_units v
  show back (sq (u ^^^ w) ^^^ (u ^^^ w)) = _
  rw [sq_add, ← back_add]
  congr 1
  ac_rfl
theorem fixed {v : BitVec 128} (h : sq v = v) : v = 0#128 ∨ v = 1#128 := by
  have := back_sq v
  rw [h, BitVec.xor_self] at this
  have h0 : back 0#128 = 0#128 := by
    have := back_add 0#128 0#128
    rw [BitVec.xor_self] at this
    rw [this, BitVec.xor_self]
  rw [h0, low] at this
  have e : v = (if v.getLsbD 0 = true then 1#128 else 0#128) := by
    have h2 := congrArg (· ^^^ (if v.getLsbD 0 = true then 1#128 else 0#128)) this
    simp only [BitVec.xor_assoc, BitVec.xor_self, BitVec.xor_zero, BitVec.zero_xor] at h2
    exact h2.symm
  by_cases hb : v.getLsbD 0 = true
  · rw [if_pos hb] at e; exact Or.inr e
  · rw [if_neg hb] at e; exact Or.inl e

/-- a to the power 2^n - 1. -/
def pw (a : BitVec 128) : Nat → BitVec 128
  | 0 => 1#128
  | n + 1 => mul (sq (pw a n)) a
theorem pw_mul (a : BitVec 128) : ∀ n, mul (pw a n) a = sqN a n := by
  intro n
  induction n with
  | zero => exact one_mul a
  | succ n ih =>
    rw [pw, sqN, ← ih, sq_mul, mul_assoc]
    rfl
theorem no_zero {a b : BitVec 128} (h : mul a b = 0#128) : a = 0#128 ∨ b = 0#128 := by
  have he : mul (pw a 128) a = a := by rw [pw_mul, frob]
  have hs : sq (pw a 128) = pw a 128 := by
    have e : pw a 128 = mul (sq (pw a 127)) a := rfl
    unfold sq
    calc mul (pw a 128) (pw a 128) = mul (pw a 128) (mul (sq (pw a 127)) a) := by rw [← e]
      _ = mul (sq (pw a 127)) (mul (pw a 128) a) := by rw [← mul_assoc, mul_comm (pw a 128), mul_assoc]
      _ = pw a 128 := by rw [he, e]
  rcases fixed hs with h0 | h1
  · left
    rw [h0, zero_mul] at he
    exact he.symm
  · right
    have e : mul (sq (pw a 127)) a = 1#128 := h1
    calc b = mul 1#128 b := (one_mul b).symm
      _ = mul (sq (pw a 127)) (mul a b) := by rw [← e, mul_assoc]
      _ = 0#128 := by rw [h, mul_zero]
end Go.Proofs.Ytkkehbebaokdmaa.Gf
