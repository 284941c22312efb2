/-
  Plain mathematics: the steps by which the program builds a fraction, and what they make of two texts.
-/
import Derived.Test.YtlcibnmcannapaaGreatDoorOpsQ
namespace Go.Proofs.YtlcibnmcannapaaGreatDoor

abbrev StepF := ByteArray → ByteArray → Option (ByteArray × ByteArray)
def zeroT : ByteArray := ⟨#[48]⟩
def oneT : ByteArray := ⟨#[49]⟩
def timesF (n d : ByteArray) : StepF := fun s t =>
  if opZ (· * ·) s n = 0 then (if opZ (· * ·) t d = 0 then some (opT (· * ·) s n, opT (· * ·) t d) else none) else none
def withF (f : Int → Int → Int) (n d : ByteArray) : StepF := fun s t =>
  if opZ (· * ·) n d = 0 then (if opZ f s (opT (· * ·) n d) = 0 then some (opT f s (opT (· * ·) n d), t) else none) else none
def floorF : StepF := fun s t => if divZ s t = 0 then some (divQ s t, oneT) else none
def ceilF : StepF := fun s t =>
  if divZ s t = 0 then (if divR s t = zeroT then some (divQ s t, oneT) else if opZ (· + ·) (divQ s t) oneT = 0 then some (opT (· + ·) (divQ s t) oneT, oneT) else none) else none
def unsF : StepF := fun s t =>
  if cmpB t zeroT = 1 then some (s, t) else if cmpB t zeroT = 0 then none else if opZ (· - ·) zeroT s = 0 then (if opZ (· - ·) zeroT t = 0 then some (opT (· - ·) zeroT s, opT (· - ·) zeroT t) else none) else none
def lowF : StepF := fun s t =>
  if opZ gcdI s t = 0 then (if divZ s (opT gcdI s t) = 0 then (if divZ t (opT gcdI s t) = 0 then some (divQ s (opT gcdI s t), divQ t (opT gcdI s t)) else none) else none) else none
def chain : List StepF → StepF
  | [], s, t => some (s, t)
  | f :: fs, s, t => match f s t with
    | some (a, b) => chain fs a b
    | none => none
theorem chain_some {f : StepF} {fs : List StepF} {s t a b : ByteArray} (h : f s t = some (a, b)) : chain (f :: fs) s t = chain fs a b := by simp only [chain, h]
theorem chain_none {f : StepF} {fs : List StepF} {s t : ByteArray} (h : f s t = none) : chain (f :: fs) s t = none := by simp only [chain, h]

theorem zeroT_valid : validB zeroT = true ∧ numB zeroT = 0 := by decide +kernel
theorem oneT_valid : validB oneT = true ∧ numB oneT = 1 := by decide +kernel
theorem oneT_text : oneT = textI 1 := by decide +kernel
theorem one_fits : Fits 1 := by unfold Fits; exact Nat.one_lt_pow (by decide) (by decide)
theorem opZ_iff (f : Int → Int → Int) (s t : ByteArray) : opZ f s t = 0 ↔ validB s = true ∧ validB t = true ∧ Fits (f (numB s) (numB t)) := by
  unfold opZ resZ Fits
  cases validB s <;> cases validB t <;> simp
theorem low_none {s t : ByteArray} (h : ¬ (validB s = true ∧ validB t = true)) : lowF s t = none := by
  unfold lowF
  rw [if_neg (fun e => h ⟨((opZ_iff _ _ _).1 e).1, ((opZ_iff _ _ _).1 e).2.1⟩)]
theorem low_texts {n d : Int} (hn : Fits n) (hd : Fits d) (hp : 0 < d) : lowF (textI n) (textI d) = some (nT (Rat.divInt n d), dT (Rat.divInt n d)) := by
  obtain ⟨g1, g2, g3⟩ := gcd_texts hn hd hp
  have gp := gcd_posQ (n := n) hp
  obtain ⟨q1, q2⟩ := div_texts hn g3 (by omega)
  obtain ⟨q3, q4⟩ := div_texts hd g3 (by omega)
  obtain ⟨e1, e2⟩ := reduce_num (n := n) hp
  unfold lowF
  rw [g1, g2, if_pos rfl, q1, q2, if_pos rfl, q3, q4, if_pos rfl]
  unfold nT dT
  rw [e1, e2]
theorem cmp_zeroT {t : ByteArray} (h : validB t = true) : cmpB t zeroT = sgZ (numB t) 0 := cmp_zero h
theorem chain_make (s t : ByteArray) : chain [unsF, lowF] s t = if makeB s t then some (nT (valQ s t), dT (valQ s t)) else none := by
  cases h2 : validB t with
  | false =>
    have e : cmpB t zeroT = 0 := by unfold cmpB; rw [h2]; rfl
    have hm : makeB s t = false := by unfold makeB; rw [h2]; cases validB s <;> rfl
    rw [chain_none (by unfold unsF; rw [e]; rfl), hm]; rfl
  | true =>
    have hc := cmp_zeroT h2
    rcases Int.lt_trichotomy (numB t) 0 with h | h | h
    · have e : cmpB t zeroT = -1 := by rw [hc]; exact sgZ_lt h
      cases h1 : validB s with
      | false =>
        have hm : makeB s t = false := by unfold makeB; rw [h1]; rfl
        have hz : ¬ opZ (· - ·) zeroT s = 0 := fun x => by have := ((opZ_iff _ _ _).1 x).2.1; rw [h1] at this; cases this
        rw [chain_none (by unfold unsF; rw [e, if_neg (by decide), if_neg (by decide), if_neg hz]), hm]; rfl
      | true =>
        have hm : makeB s t = true := by unfold makeB; rw [h1, h2, decide_eq_true (by omega)]; rfl
        obtain ⟨s1, s2, s3⟩ := sub_zero_text h1
        obtain ⟨t1, t2, t3⟩ := sub_zero_text h2
        have hu : unsF s t = some (textI (-numB s), textI (-numB t)) := by
          unfold unsF
          show (if cmpB t zeroT = 1 then some (s, t) else if cmpB t zeroT = 0 then none else if opZ (· - ·) ⟨#[48]⟩ s = 0 then (if opZ (· - ·) ⟨#[48]⟩ t = 0 then some (opT (· - ·) ⟨#[48]⟩ s, opT (· - ·) ⟨#[48]⟩ t) else none) else none) = _
          rw [e, if_neg (by decide), if_neg (by decide), s2, if_pos rfl, t2, if_pos rfl, s1, t1]
        rw [chain_some hu, chain_some (low_texts s3 t3 (by omega)), hm, if_pos rfl, Rat.neg_divInt_neg]
        rfl
    · have e : cmpB t zeroT = 0 := by rw [hc, h]; exact sgZ_self 0
      have hm : makeB s t = false := by unfold makeB; rw [h2, decide_eq_false (by omega)]; cases validB s <;> rfl
      rw [chain_none (by unfold unsF; rw [e]; rfl), hm]; rfl
    · have e : cmpB t zeroT = 1 := by rw [hc]; exact sgZ_gt h
      have hu : unsF s t = some (s, t) := by unfold unsF; rw [e, if_pos rfl]
      rw [chain_some hu]
      cases h1 : validB s with
      | false =>
        have hm : makeB s t = false := by unfold makeB; rw [h1]; rfl
        rw [chain_none (low_none (fun x => by rw [h1] at x; cases x.1)), hm]; rfl
      | true =>
        have hm : makeB s t = true := by unfold makeB; rw [h1, h2, decide_eq_true (by omega)]; rfl
        obtain ⟨s3, s4⟩ := text_valid h1
        obtain ⟨t3, t4⟩ := text_valid h2
        have hl := low_texts s3 t3 h
        rw [← s4, ← t4] at hl
        rw [chain_some hl, hm, if_pos rfl]
        rfl
theorem chain_texts {n d : Int} (hn : Fits n) (hd : Fits d) : chain [unsF, lowF] (textI n) (textI d) = if decide (d ≠ 0) then some (nT (Rat.divInt n d), dT (Rat.divInt n d)) else none := by
  rw [chain_make]
  have : makeB (textI n) (textI d) = decide (d ≠ 0) := by
    unfold makeB
    rw [(valid_text hn).1, (valid_text hd).1, (valid_text hd).2]
    rfl
  rw [this]
  unfold valQ
  rw [(valid_text hn).2, (valid_text hd).2]
/-- What a product by two texts of numbers that fit makes. -/
theorem times_some {s t n d : ByteArray} (hs : validB s = true) (ht : validB t = true) (hn : validB n = true) (hd : validB d = true) :
    timesF n d s t = if fitB (numB s * numB n) && fitB (numB t * numB d) then some (textI (numB s * numB n), textI (numB t * numB d)) else none := by
  unfold timesF
  rw [(op_valid _ hs hn).1, (op_valid _ hs hn).2, (op_valid _ ht hd).1, (op_valid _ ht hd).2]
  cases f1 : fitB (numB s * numB n) with
  | false => rw [(res_no f1).2]; rfl
  | true =>
    rw [(res_yes f1).1, (res_yes f1).2, if_pos rfl]
    cases f2 : fitB (numB t * numB d) with
    | false => rw [(res_no f2).2]; rfl
    | true => rw [(res_yes f2).1, (res_yes f2).2]; rfl
theorem with_some (f : Int → Int → Int) {s n d t : ByteArray} (hs : validB s = true) (hn : validB n = true) (hd : validB d = true) :
    withF f n d s t = if fitB (numB n * numB d) && fitB (f (numB s) (numB n * numB d)) then some (textI (f (numB s) (numB n * numB d)), t) else none := by
  unfold withF
  rw [(op_valid _ hn hd).1, (op_valid _ hn hd).2]
  cases f1 : fitB (numB n * numB d) with
  | false => rw [(res_no f1).2]; rfl
  | true =>
    have f1' := (fitB_iff _).1 f1
    rw [(res_yes f1).1, (res_yes f1).2, if_pos rfl, (op_valid _ hs (valid_text f1').1).1, (op_valid _ hs (valid_text f1').1).2, (valid_text f1').2]
    cases f2 : fitB (f (numB s) (numB n * numB d)) with
    | false => rw [(res_no f2).2]; rfl
    | true => rw [(res_yes f2).1, (res_yes f2).2]; rfl
/-- What is returned by build. -/
def pairN (o : Option (ByteArray × ByteArray)) : ByteArray := match o with | some p => p.1 | none => ByteArray.empty
def pairD (o : Option (ByteArray × ByteArray)) : ByteArray := match o with | some p => p.2 | none => ByteArray.empty
def pairE (o : Option (ByteArray × ByteArray)) : Int := match o with | some _ => 0 | none => 40
theorem pair_out (b : Bool) (x : Rat) : pairN (if b then some (nT x, dT x) else none) = outN b x ∧ pairD (if b then some (nT x, dT x) else none) = outD b x ∧ pairE (if b then some (nT x, dT x) else none) = outE b := by
  cases b <;> exact ⟨rfl, rfl, rfl⟩
theorem chain_sum (f : Int → Int → Int) {an ad bn bd : ByteArray} (h : bothB an ad bn bd = true) :
    chain [timesF bd bd, withF f bn ad, unsF, lowF] an ad = if ((fitB (numB an * numB bd) && (fitB (numB bn * numB ad) && fitB (numB ad * numB bd))) && fitB (f (numB an * numB bd) (numB bn * numB ad))) then some (nT (Rat.divInt (f (numB an * numB bd) (numB bn * numB ad)) (numB ad * numB bd)), dT (Rat.divInt (f (numB an * numB bd) (numB bn * numB ad)) (numB ad * numB bd))) else none := by
  obtain ⟨v1, v2⟩ := both_parts h
  obtain ⟨u1, u2, _, _⟩ := validQ_parts v1
  obtain ⟨u3, u4, _, _⟩ := validQ_parts v2
  have h0 : numB ad * numB bd ≠ 0 := Int.mul_ne_zero (den_ne v1) (den_ne v2)
  have ht := times_some u1 u2 u4 u4
  cases f1 : fitB (numB an * numB bd) with
  | false => rw [f1] at ht; rw [chain_none ht]; rfl
  | true =>
    cases f3 : fitB (numB ad * numB bd) with
    | false => rw [f1, f3] at ht; rw [chain_none ht]; cases fitB (numB bn * numB ad) <;> rfl
    | true =>
      rw [f1, f3] at ht
      rw [chain_some ht]
      have f1' := (fitB_iff _).1 f1
      have f3' := (fitB_iff _).1 f3
      have hw := with_some f (s := textI (numB an * numB bd)) (t := textI (numB ad * numB bd)) (valid_text f1').1 u3 u2
      rw [(valid_text f1').2] at hw
      cases f2 : fitB (numB bn * numB ad) with
      | false => rw [f2] at hw; rw [chain_none hw]; rfl
      | true =>
        cases f4 : fitB (f (numB an * numB bd) (numB bn * numB ad)) with
        | false => rw [f2, f4] at hw; rw [chain_none hw]; rfl
        | true =>
          rw [f2, f4] at hw
          rw [chain_some hw, chain_texts ((fitB_iff _).1 f4) f3', decide_eq_true h0]; rfl
theorem chain_add {an ad bn bd : ByteArray} (h : bothB an ad bn bd = true) : chain [timesF bd bd, withF (· + ·) bn ad, unsF, lowF] an ad = if addB an ad bn bd then some (nT (valQ an ad + valQ bn bd), dT (valQ an ad + valQ bn bd)) else none := by
  rw [chain_sum _ h, ← add_val h]
  unfold addB
  rw [h]; rfl
theorem chain_sub {an ad bn bd : ByteArray} (h : bothB an ad bn bd = true) : chain [timesF bd bd, withF (· - ·) bn ad, unsF, lowF] an ad = if subB an ad bn bd then some (nT (valQ an ad - valQ bn bd), dT (valQ an ad - valQ bn bd)) else none := by
  rw [chain_sum _ h, ← sub_val h]
  unfold subB
  rw [h]; rfl
theorem chain_prod {s t n d : ByteArray} (hs : validB s = true) (ht : validB t = true) (hn : validB n = true) (hd : validB d = true) :
    chain [timesF n d, unsF, lowF] s t = if (fitB (numB s * numB n) && fitB (numB t * numB d)) && decide (numB t * numB d ≠ 0) then some (nT (Rat.divInt (numB s * numB n) (numB t * numB d)), dT (Rat.divInt (numB s * numB n) (numB t * numB d))) else none := by
  have h := times_some hs ht hn hd
  cases f1 : fitB (numB s * numB n) with
  | false => rw [f1] at h; rw [chain_none h]; rfl
  | true =>
    cases f2 : fitB (numB t * numB d) with
    | false => rw [f1, f2] at h; rw [chain_none h]; rfl
    | true => rw [f1, f2] at h; rw [chain_some h, chain_texts ((fitB_iff _).1 f1) ((fitB_iff _).1 f2)]; rfl
theorem chain_mul {an ad bn bd : ByteArray} (h : bothB an ad bn bd = true) : chain [timesF bn bd, unsF, lowF] an ad = if mulB an ad bn bd then some (nT (valQ an ad * valQ bn bd), dT (valQ an ad * valQ bn bd)) else none := by
  obtain ⟨v1, v2⟩ := both_parts h
  obtain ⟨u1, u2, _, _⟩ := validQ_parts v1
  obtain ⟨u3, u4, _, _⟩ := validQ_parts v2
  rw [chain_prod u1 u2 u3 u4, ← mul_val, decide_eq_true (Int.mul_ne_zero (den_ne v1) (den_ne v2)), Bool.and_true]
  unfold mulB
  rw [h]; rfl
theorem chain_div {an ad bn bd : ByteArray} (h : bothB an ad bn bd = true) : chain [timesF bd bn, unsF, lowF] an ad = if divB an ad bn bd then some (nT (valQ an ad / valQ bn bd), dT (valQ an ad / valQ bn bd)) else none := by
  obtain ⟨v1, v2⟩ := both_parts h
  obtain ⟨u1, u2, _, _⟩ := validQ_parts v1
  obtain ⟨u3, u4, _, _⟩ := validQ_parts v2
  rw [chain_prod u1 u2 u4 u3, ← div_val]
  unfold divB
  have : decide (numB ad * numB bn ≠ 0) = decide (numB bn ≠ 0) := decide_eq_decide.2 (by
    rw [ne_eq, Int.mul_eq_zero, ne_eq]
    exact ⟨fun x y => x (.inr y), fun x y => x (y.resolve_left (den_ne v1))⟩)
  rw [this, h]; rfl

/-- One with zeros behind it. -/
def powT (p : Nat) : ByteArray := textI ((10 : Int) ^ p)
theorem pow_fits {p : Nat} (h : p ≤ 30) : Fits ((10 : Int) ^ p) := by
  unfold Fits
  rw [Int.natAbs_pow]
  exact Nat.pow_lt_pow_right (by decide) (by omega)
theorem chain_grid {n d : ByteArray} {p : Nat} (h : validQ n d = true) (hp : p ≤ 30) (g : StepF) (v : Int) (hv : Fits v)
    (hg : fitB (numB n * 10 ^ p) = true → g (textI (numB n * 10 ^ p)) d = some (textI v, oneT)) :
    chain [timesF (powT p) oneT, g, timesF oneT (powT p), unsF, lowF] n d = if fitB (numB n * 10 ^ p) then some (nT (Rat.divInt v (10 ^ p)), dT (Rat.divInt v (10 ^ p))) else none := by
  obtain ⟨u1, u2, u3, _⟩ := validQ_parts h
  have hf := pow_fits hp
  have t1 := times_some u1 u2 (valid_text hf).1 oneT_valid.1
  rw [(valid_text hf).2, oneT_valid.2, Int.mul_one, (fitB_iff (numB d)).2 (text_valid u2).1, ← (text_valid u2).2, Bool.and_true] at t1
  cases f1 : fitB (numB n * 10 ^ p) with
  | false => rw [f1] at t1; rw [show powT p = textI ((10 : Int) ^ p) from rfl, chain_none t1]; rfl
  | true =>
    rw [f1] at t1
    rw [show powT p = textI ((10 : Int) ^ p) from rfl, chain_some t1, chain_some (hg f1)]
    have t2 := times_some (valid_text hv).1 oneT_valid.1 oneT_valid.1 (valid_text hf).1
    rw [(valid_text hv).2, (valid_text hf).2, oneT_valid.2, Int.mul_one, Int.one_mul, (fitB_iff _).2 hv, (fitB_iff _).2 hf] at t2
    rw [chain_some t2, chain_texts hv hf, decide_eq_true (show (10 : Int) ^ p ≠ 0 from Int.pow_ne_zero (by decide))]
theorem quot_fit {x y : Int} (hx : Fits x) : Fits (x / y) := Nat.lt_of_le_of_lt (Int.natAbs_ediv_le_natAbs x y) hx
theorem up_fits {x d : Int} (hx : Fits x) (hd : 0 < d) : Fits (ceilI x d) := by
  unfold ceilI
  by_cases h : x % d = 0
  · rw [if_pos h, Int.add_zero]; exact quot_fit hx
  · rw [if_neg h]
    have h1 := Int.ediv_mul_add_emod x d
    have h2 := Int.emod_nonneg x (show d ≠ 0 by omega)
    have h3 := Int.emod_lt_of_pos x hd
    have hd2 : 2 ≤ d := by
      rcases Int.lt_or_le d 2 with h4 | h4
      · have e1 : d = 1 := by omega
        subst e1
        omega
      · exact h4
    unfold Fits at *
    generalize x % d = r at *
    have hb : (100 : Nat) ≤ 10 ^ 200 := by
      calc (100 : Nat) = 10 ^ 2 := rfl
        _ ≤ 10 ^ 200 := Nat.pow_le_pow_right (by decide) (by decide)
    generalize (10 : Nat) ^ 200 = M at *
    generalize x / d = q at *
    rcases Int.lt_or_le q 0 with hq | hq
    · have h6 : (q + 1) * d ≤ (q + 1) * 2 := Int.mul_le_mul_of_nonpos_left (by omega) hd2
      rw [Int.add_mul] at h6
      omega
    · have h6 : q * 2 ≤ q * d := Int.mul_le_mul_of_nonneg_left hd2 hq
      omega
theorem chain_down {n d : ByteArray} {p : Nat} (h : validQ n d = true) (hp : p ≤ 30) :
    chain [timesF (powT p) oneT, floorF, timesF oneT (powT p), unsF, lowF] n d = if fitB (numB n * 10 ^ p) then some (nT (Rat.divInt (numB n * 10 ^ p / numB d) (10 ^ p)), dT (Rat.divInt (numB n * 10 ^ p / numB d) (10 ^ p))) else none := by
  obtain ⟨u1, u2, u3, _⟩ := validQ_parts h
  by_cases hf : Fits (numB n * 10 ^ p)
  · refine chain_grid h hp floorF _ (quot_fit hf) fun _ => ?_
    obtain ⟨q1, q2⟩ := div_texts hf (text_valid u2).1 (by omega)
    rw [← (text_valid u2).2] at q1 q2
    unfold floorF
    rw [q1, q2, if_pos rfl]
  · have f1 : fitB (numB n * 10 ^ p) = false := by rw [Bool.eq_false_iff]; exact fun x => hf ((fitB_iff _).1 x)
    have := chain_grid h hp floorF 0 (by unfold Fits; exact Nat.pos_of_ne_zero (by decide)) (fun x => by rw [f1] at x; cases x)
    rw [f1] at this ⊢
    exact this
theorem rem_text {n d : Int} (hn : Fits n) (hd : Fits d) (h0 : d ≠ 0) : divR (textI n) (textI d) = textI (n % d) := by
  unfold divR resR
  rw [(valid_text hn).1, (valid_text hd).1, (valid_text hn).2, (valid_text hd).2, decide_eq_true h0, Bool.true_and, Bool.true_and, if_pos rfl, if_pos (quot_fitsQ hn)]
theorem textI_zero {x : Int} : textI x = zeroT ↔ x = 0 := by
  have e : zeroT = textI 0 := by decide +kernel
  rw [e]
  exact ⟨fun h => textI_inj h, fun h => by rw [h]⟩
theorem chain_up {n d : ByteArray} {p : Nat} (h : validQ n d = true) (hp : p ≤ 30) :
    chain [timesF (powT p) oneT, ceilF, timesF oneT (powT p), unsF, lowF] n d = if fitB (numB n * 10 ^ p) then some (nT (Rat.divInt (ceilI (numB n * 10 ^ p) (numB d)) (10 ^ p)), dT (Rat.divInt (ceilI (numB n * 10 ^ p) (numB d)) (10 ^ p))) else none := by
  obtain ⟨u1, u2, u3, _⟩ := validQ_parts h
  by_cases hf : Fits (numB n * 10 ^ p)
  · have hup := up_fits hf u3
    refine chain_grid h hp ceilF _ hup fun _ => ?_
    obtain ⟨q1, q2⟩ := div_texts hf (text_valid u2).1 (by omega)
    have q3 := rem_text hf (text_valid u2).1 (by omega)
    rw [← (text_valid u2).2] at q1 q2 q3
    unfold ceilF
    rw [q1, q2, q3, if_pos rfl]
    unfold ceilI at hup ⊢
    by_cases hr : numB n * 10 ^ p % numB d = 0
    · rw [if_pos (textI_zero.2 hr), if_pos hr, Int.add_zero]
    · rw [if_neg (fun x => hr (textI_zero.1 x)), if_neg hr]
      rw [if_neg hr] at hup
      rw [oneT_text, (op_texts _ (quot_fit hf) one_fits).1, (op_texts _ (quot_fit hf) one_fits).2, (res_yes ((fitB_iff _).2 hup)).1, (res_yes ((fitB_iff _).2 hup)).2, if_pos rfl]
  · have f1 : fitB (numB n * 10 ^ p) = false := by rw [Bool.eq_false_iff]; exact fun x => hf ((fitB_iff _).1 x)
    have := chain_grid h hp ceilF 0 (by unfold Fits; exact Nat.pos_of_ne_zero (by decide)) (fun x => by rw [f1] at x; cases x)
    rw [f1] at this ⊢
    exact this
end Go.Proofs.YtlcibnmcannapaaGreatDoor
