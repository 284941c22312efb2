/-
  The contracts of the program's steps: unsigned, lowest, floor, ceiling, times, with.
-/
import Derived.Test.YtlcibnmcannapaaGreatDoorBuildQ
import Derived.Test.YtlcibnmcannapaaGreatDoorGint
namespace Go.Proofs.YtlcibnmcannapaaGreatDoor
open Go Go.Proofs Go.RowKit Go.Lib

theorem cmpB_cases (s t : ByteArray) : cmpB s t = 1 ∨ cmpB s t = 0 ∨ cmpB s t = -1 := by
  unfold cmpB; split
  · split
    · exact .inr (.inr rfl)
    · split
      · exact .inl rfl
      · exact .inr (.inl rfl)
  · exact .inr (.inl rfl)
theorem resZ_cases (x : Int) : resZ x = 0 ∨ resZ x = 30 := by unfold resZ; split <;> simp
theorem opZ_cases (f : Int → Int → Int) (s t : ByteArray) : opZ f s t = 0 ∨ opZ f s t = 30 := by
  unfold opZ; split
  · exact resZ_cases _
  · exact .inr rfl
theorem divZ_cases (s t : ByteArray) : divZ s t = 0 ∨ divZ s t = 30 := by
  unfold divZ; split
  · exact resZ_cases _
  · exact .inr rfl
theorem opT_size (f : Int → Int → Int) (s t : ByteArray) : (opT f s t).size ≤ 1099511627776 := by
  unfold opT; split
  · exact resT_size _
  · show (0 : Nat) ≤ _; omega
theorem divQ_size (s t : ByteArray) : (divQ s t).size ≤ 1099511627776 := by
  unfold divQ; split
  · exact resT_size _
  · show (0 : Nat) ≤ _; omega
theorem one_size : oneT.size ≤ 1099511627776 := by show (1 : Nat) ≤ _; omega
theorem post_yes {o : Option (ByteArray × ByteArray)} {a b : ByteArray} {w w' : World} (h : o = some (a, b)) (hb : Below w.heap.size w w') : StepPost o w (.returned (.tuple #[.string a, .string b, .int .i64 0])) w' := by rw [h]; exact ⟨rfl, hb⟩
theorem post_no {o : Option (ByteArray × ByteArray)} (a b : ByteArray) {c : Int} {w w' : World} (h : o = none) (hc : c ≠ 0) (hb : Below w.heap.size w w') : StepPost o w (.returned (.tuple #[.string a, .string b, .int .i64 c])) w' := by rw [h]; exact ⟨a, b, c, hc, rfl, hb⟩
theorem times_small (n d : ByteArray) : SmallF (timesF n d) := by
  intro s t a b _ _ h
  unfold timesF at h
  split at h
  · split at h
    · cases h; exact ⟨opT_size _ _ _, opT_size _ _ _⟩
    · cases h
  · cases h
theorem with_small (f : Int → Int → Int) (n d : ByteArray) : SmallF (withF f n d) := by
  intro s t a b _ ht h
  unfold withF at h
  split at h
  · split at h
    · cases h; exact ⟨opT_size _ _ _, ht⟩
    · cases h
  · cases h
theorem floor_small : SmallF floorF := by
  intro s t a b _ _ h
  unfold floorF at h
  split at h
  · cases h; exact ⟨divQ_size _ _, one_size⟩
  · cases h
theorem ceil_small : SmallF ceilF := by
  intro s t a b _ _ h
  unfold ceilF at h
  split at h
  · split at h
    · cases h; exact ⟨divQ_size _ _, one_size⟩
    · split at h
      · cases h; exact ⟨opT_size _ _ _, one_size⟩
      · cases h
  · cases h
theorem uns_small : SmallF unsF := by
  intro s t a b hs ht h
  unfold unsF at h
  split at h
  · cases h; exact ⟨hs, ht⟩
  · split at h
    · cases h
    · split at h
      · split at h
        · cases h; exact ⟨opT_size _ _ _, opT_size _ _ _⟩
        · cases h
      · cases h
theorem low_small : SmallF lowF := by
  intro s t a b hs ht h
  unfold lowF at h
  split at h
  · split at h
    · split at h
      · cases h; exact ⟨divQ_size _ _, divQ_size _ _⟩
      · cases h
    · cases h
  · cases h

set_option maxRecDepth 100000 in
set_option maxHeartbeats 8000000 in
theorem unsigned_any (s t : ByteArray) (hs : s.size ≤ 1099511627776) (ht : t.size ≤ 1099511627776) (w : World) (hR : Ready w) :
    Calls Tryz.prog 87 #[.string s, .string t] w (StepPost (unsF s t) w) := by
  have cm := fun W (h : Ready W) => cmp_i t ⟨#[48]⟩ ht (by decide) W h
  have cs := fun W (h : Ready W) => sub_i ⟨#[48]⟩ s (by decide) hs W h
  have ct := fun W (h : Ready W) => sub_i ⟨#[48]⟩ t (by decide) ht W h
  have hu : unsF s t = if cmpB t ⟨#[48]⟩ = 1 then some (s, t) else if cmpB t ⟨#[48]⟩ = 0 then none else if opZ (· - ·) ⟨#[48]⟩ s = 0 then (if opZ (· - ·) ⟨#[48]⟩ t = 0 then some (opT (· - ·) ⟨#[48]⟩ s, opT (· - ·) ⟨#[48]⟩ t) else none) else none := rfl
  have h1 := cmpB_cases t ⟨#[48]⟩
  have h2 := opZ_cases (· - ·) ⟨#[48]⟩ s
  have h3 := opZ_cases (· - ·) ⟨#[48]⟩ t
  obtain ⟨z, hz⟩ : ∃ x, cmpB t ⟨#[48]⟩ = x := ⟨_, rfl⟩
  obtain ⟨p, hp⟩ : ∃ x, opZ (· - ·) ⟨#[48]⟩ s = x := ⟨_, rfl⟩
  obtain ⟨q, hq⟩ : ∃ x, opZ (· - ·) ⟨#[48]⟩ t = x := ⟨_, rfl⟩
  obtain ⟨S, hS⟩ : ∃ x, opT (· - ·) ⟨#[48]⟩ s = x := ⟨_, rfl⟩
  obtain ⟨T, hT⟩ : ∃ x, opT (· - ·) ⟨#[48]⟩ t = x := ⟨_, rfl⟩
  obtain ⟨O, hO⟩ : ∃ x, unsF s t = x := ⟨_, rfl⟩
  rw [hz] at cm h1
  rw [hp, hS] at cs
  rw [hp] at h2
  rw [hq, hT] at ct
  rw [hq] at h3
  rw [hO, hz, hp, hq, hS, hT] at hu
  rw [hO]
  have CM := Lib.hid cm; have CS := Lib.hid cs; have CT := Lib.hid ct; have HR := Lib.hid hR; have B0 := Lib.hid (Below.refl w.heap.size w)
  clear cm cs ct hR hz hp hq hS hT hO hs ht
  rcases h1 with rfl | rfl | rfl
  · rw [if_pos rfl] at hu
    clear h2 h3
    have HF := Lib.hid hu
    clear hu
    go_enter Tryz.func87, Tryz.ntmps87
    go_wp2_with fail
    refine (CM.out _ (HR.out.below B0.out)).mono ?_
    rintro e w1 ⟨rfl, b1⟩
    have B1 := Lib.hid (below_up B0.out b1)
    clear b1
    go_wp2_with fail
    go_ret3
    exact post_yes HF.out B1.out
  · rw [if_neg (by decide), if_pos rfl] at hu
    clear h2 h3
    have HF := Lib.hid hu
    clear hu
    go_enter Tryz.func87, Tryz.ntmps87
    go_wp2_with fail
    refine (CM.out _ (HR.out.below B0.out)).mono ?_
    rintro e w1 ⟨rfl, b1⟩
    have B1 := Lib.hid (below_up B0.out b1)
    clear b1
    go_wp2_with fail
    go_ret3
    exact post_no _ _ HF.out (by decide) B1.out
  · rw [if_neg (by decide), if_neg (by decide)] at hu
    rcases h2 with rfl | rfl
    · rw [if_pos rfl] at hu
      rcases h3 with rfl | rfl
      · rw [if_pos rfl] at hu
        have HF := Lib.hid hu
        clear hu
        go_enter Tryz.func87, Tryz.ntmps87
        go_wp2_with fail
        refine (CM.out _ (HR.out.below B0.out)).mono ?_
        rintro e w1 ⟨rfl, b1⟩
        have B1 := Lib.hid (below_up B0.out b1)
        clear b1
        go_wp2_with fail
        refine (CS.out _ (HR.out.below B1.out)).mono ?_
        rintro e w2 ⟨rfl, b2⟩
        have B2 := Lib.hid (below_up B1.out b2)
        clear b2
        go_wp2_with fail
        refine (CT.out _ (HR.out.below B2.out)).mono ?_
        rintro e w3 ⟨rfl, b3⟩
        have B3 := Lib.hid (below_up B2.out b3)
        clear b3
        go_wp2_with fail
        go_ret3
        exact post_yes HF.out B3.out
      · rw [if_neg (by decide)] at hu
        have HF := Lib.hid hu
        clear hu
        go_enter Tryz.func87, Tryz.ntmps87
        go_wp2_with fail
        refine (CM.out _ (HR.out.below B0.out)).mono ?_
        rintro e w1 ⟨rfl, b1⟩
        have B1 := Lib.hid (below_up B0.out b1)
        clear b1
        go_wp2_with fail
        refine (CS.out _ (HR.out.below B1.out)).mono ?_
        rintro e w2 ⟨rfl, b2⟩
        have B2 := Lib.hid (below_up B1.out b2)
        clear b2
        go_wp2_with fail
        refine (CT.out _ (HR.out.below B2.out)).mono ?_
        rintro e w3 ⟨rfl, b3⟩
        have B3 := Lib.hid (below_up B2.out b3)
        clear b3
        go_wp2_with fail
        go_ret3
        exact post_no _ _ HF.out (by decide) B3.out
    · rw [if_neg (by decide)] at hu
      clear h3
      have HF := Lib.hid hu
      clear hu
      go_enter Tryz.func87, Tryz.ntmps87
      go_wp2_with fail
      refine (CM.out _ (HR.out.below B0.out)).mono ?_
      rintro e w1 ⟨rfl, b1⟩
      have B1 := Lib.hid (below_up B0.out b1)
      clear b1
      go_wp2_with fail
      refine (CS.out _ (HR.out.below B1.out)).mono ?_
      rintro e w2 ⟨rfl, b2⟩
      have B2 := Lib.hid (below_up B1.out b2)
      clear b2
      go_wp2_with fail
      go_ret3
      exact post_no _ _ HF.out (by decide) B2.out
set_option maxRecDepth 100000 in
set_option maxHeartbeats 8000000 in
theorem lowest_any (s t : ByteArray) (hs : s.size ≤ 1099511627776) (ht : t.size ≤ 1099511627776) (w : World) (hR : Ready w) :
    Calls Tryz.prog 88 #[.string s, .string t] w (StepPost (lowF s t) w) := by
  have cg := fun W (h : Ready W) => gcd_i s t hs ht W h
  have cs := fun W (h : Ready W) => div_i s (opT gcdI s t) hs (opT_size _ _ _) W h
  have ct := fun W (h : Ready W) => div_i t (opT gcdI s t) ht (opT_size _ _ _) W h
  have hu : lowF s t = if opZ gcdI s t = 0 then (if divZ s (opT gcdI s t) = 0 then (if divZ t (opT gcdI s t) = 0 then some (divQ s (opT gcdI s t), divQ t (opT gcdI s t)) else none) else none) else none := rfl
  have h1 := opZ_cases gcdI s t
  have h2 := divZ_cases s (opT gcdI s t)
  have h3 := divZ_cases t (opT gcdI s t)
  obtain ⟨z, hz⟩ : ∃ x, opZ gcdI s t = x := ⟨_, rfl⟩
  obtain ⟨G, hG⟩ : ∃ x, opT gcdI s t = x := ⟨_, rfl⟩
  rw [hz, hG] at cg
  rw [hG] at cs ct h2 h3
  rw [hz, hG] at hu
  rw [hz] at h1
  obtain ⟨p, hp⟩ : ∃ x, divZ s G = x := ⟨_, rfl⟩
  obtain ⟨q, hq⟩ : ∃ x, divZ t G = x := ⟨_, rfl⟩
  obtain ⟨S, hS⟩ : ∃ x, divQ s G = x := ⟨_, rfl⟩
  obtain ⟨T, hT⟩ : ∃ x, divQ t G = x := ⟨_, rfl⟩
  obtain ⟨S2, hS2⟩ : ∃ x, divR s G = x := ⟨_, rfl⟩
  obtain ⟨T2, hT2⟩ : ∃ x, divR t G = x := ⟨_, rfl⟩
  obtain ⟨O, hO⟩ : ∃ x, lowF s t = x := ⟨_, rfl⟩
  rw [hp, hS, hS2] at cs
  rw [hp] at h2
  rw [hq, hT, hT2] at ct
  rw [hq] at h3
  rw [hO, hp, hq, hS, hT] at hu
  rw [hO]
  have CG := Lib.hid cg; have CS := Lib.hid cs; have CT := Lib.hid ct; have HR := Lib.hid hR; have B0 := Lib.hid (Below.refl w.heap.size w)
  clear cg cs ct hR hz hG hp hq hS hT hS2 hT2 hO hs ht
  rcases h1 with rfl | rfl
  · rw [if_pos rfl] at hu
    rcases h2 with rfl | rfl
    · rw [if_pos rfl] at hu
      rcases h3 with rfl | rfl
      · rw [if_pos rfl] at hu
        have HF := Lib.hid hu
        clear hu
        go_enter Tryz.func88, Tryz.ntmps88
        go_wp2_with fail
        refine (CG.out _ (HR.out.below B0.out)).mono ?_
        rintro e w1 ⟨rfl, b1⟩
        have B1 := Lib.hid (below_up B0.out b1)
        clear b1
        go_wp2_with fail
        refine (CS.out _ (HR.out.below B1.out)).mono ?_
        rintro e w2 ⟨rfl, b2⟩
        have B2 := Lib.hid (below_up B1.out b2)
        clear b2
        go_wp2_with fail
        refine (CT.out _ (HR.out.below B2.out)).mono ?_
        rintro e w3 ⟨rfl, b3⟩
        have B3 := Lib.hid (below_up B2.out b3)
        clear b3
        go_wp2_with fail
        go_ret3
        exact post_yes HF.out B3.out
      · rw [if_neg (by decide)] at hu
        have HF := Lib.hid hu
        clear hu
        go_enter Tryz.func88, Tryz.ntmps88
        go_wp2_with fail
        refine (CG.out _ (HR.out.below B0.out)).mono ?_
        rintro e w1 ⟨rfl, b1⟩
        have B1 := Lib.hid (below_up B0.out b1)
        clear b1
        go_wp2_with fail
        refine (CS.out _ (HR.out.below B1.out)).mono ?_
        rintro e w2 ⟨rfl, b2⟩
        have B2 := Lib.hid (below_up B1.out b2)
        clear b2
        go_wp2_with fail
        refine (CT.out _ (HR.out.below B2.out)).mono ?_
        rintro e w3 ⟨rfl, b3⟩
        have B3 := Lib.hid (below_up B2.out b3)
        clear b3
        go_wp2_with fail
        go_ret3
        exact post_no _ _ HF.out (by decide) B3.out
    · rw [if_neg (by decide)] at hu
      clear h3
      have HF := Lib.hid hu
      clear hu
      go_enter Tryz.func88, Tryz.ntmps88
      go_wp2_with fail
      refine (CG.out _ (HR.out.below B0.out)).mono ?_
      rintro e w1 ⟨rfl, b1⟩
      have B1 := Lib.hid (below_up B0.out b1)
      clear b1
      go_wp2_with fail
      refine (CS.out _ (HR.out.below B1.out)).mono ?_
      rintro e w2 ⟨rfl, b2⟩
      have B2 := Lib.hid (below_up B1.out b2)
      clear b2
      go_wp2_with fail
      go_ret3
      exact post_no _ _ HF.out (by decide) B2.out
  · rw [if_neg (by decide)] at hu
    clear h2 h3
    have HF := Lib.hid hu
    clear hu
    go_enter Tryz.func88, Tryz.ntmps88
    go_wp2_with fail
    refine (CG.out _ (HR.out.below B0.out)).mono ?_
    rintro e w1 ⟨rfl, b1⟩
    have B1 := Lib.hid (below_up B0.out b1)
    clear b1
    go_wp2_with fail
    go_ret3
    exact post_no _ _ HF.out (by decide) B1.out
set_option maxRecDepth 100000 in
set_option maxHeartbeats 8000000 in
theorem floor_any (s t : ByteArray) (hs : s.size ≤ 1099511627776) (ht : t.size ≤ 1099511627776) (w : World) (hR : Ready w) :
    Calls Tryz.prog 56 #[.string s, .string t] w (StepPost (floorF s t) w) := by
  have hu : floorF s t = if divZ s t = 0 then some (divQ s t, ⟨#[49]⟩) else none := rfl
  have cd := fun W (h : Ready W) => div_i s t hs ht W h
  have h1 := divZ_cases s t
  obtain ⟨z, hz⟩ : ∃ x, divZ s t = x := ⟨_, rfl⟩
  obtain ⟨Q, hQ⟩ : ∃ x, divQ s t = x := ⟨_, rfl⟩
  obtain ⟨K, hK⟩ : ∃ x, divR s t = x := ⟨_, rfl⟩
  rw [hz, hQ, hK] at cd
  rw [hz] at h1
  obtain ⟨O, hO⟩ : ∃ x, floorF s t = x := ⟨_, rfl⟩
  rw [hO, hz, hQ] at hu
  rw [hO]
  have CD := Lib.hid cd; have HR := Lib.hid hR; have B0 := Lib.hid (Below.refl w.heap.size w)
  clear cd hR hz hQ hK hO hs ht
  rcases h1 with rfl | rfl
  · rw [if_pos rfl] at hu
    have HF := Lib.hid hu
    clear hu
    go_enter Tryz.func56, Tryz.ntmps56
    go_wp2_with fail
    refine (CD.out _ (HR.out.below B0.out)).mono ?_
    rintro e w1 ⟨rfl, b1⟩
    have B1 := Lib.hid (below_up B0.out b1)
    clear b1
    go_wp2_with fail
    go_ret3
    exact post_yes HF.out B1.out
  · rw [if_neg (by decide)] at hu
    have HF := Lib.hid hu
    clear hu
    go_enter Tryz.func56, Tryz.ntmps56
    go_wp2_with fail
    refine (CD.out _ (HR.out.below B0.out)).mono ?_
    rintro e w1 ⟨rfl, b1⟩
    have B1 := Lib.hid (below_up B0.out b1)
    clear b1
    go_wp2_with fail
    go_ret3
    exact post_no _ _ HF.out (by decide) B1.out
set_option maxRecDepth 100000 in
set_option maxHeartbeats 8000000 in
theorem ceiling_any (s t : ByteArray) (hs : s.size ≤ 1099511627776) (ht : t.size ≤ 1099511627776) (w : World) (hR : Ready w) :
    Calls Tryz.prog 58 #[.string s, .string t] w (StepPost (ceilF s t) w) := by
  have hu : ceilF s t = if divZ s t = 0 then (if divR s t = ⟨#[48]⟩ then some (divQ s t, ⟨#[49]⟩) else if opZ (· + ·) (divQ s t) ⟨#[49]⟩ = 0 then some (opT (· + ·) (divQ s t) ⟨#[49]⟩, ⟨#[49]⟩) else none) else none := rfl
  have ca := fun W (h : Ready W) => add_i (divQ s t) ⟨#[49]⟩ (divQ_size _ _) (by decide) W h
  have cd := fun W (h : Ready W) => div_i s t hs ht W h
  have h1 := divZ_cases s t
  obtain ⟨z, hz⟩ : ∃ x, divZ s t = x := ⟨_, rfl⟩
  obtain ⟨Q, hQ⟩ : ∃ x, divQ s t = x := ⟨_, rfl⟩
  obtain ⟨K, hK⟩ : ∃ x, divR s t = x := ⟨_, rfl⟩
  rw [hz, hQ, hK] at cd
  rw [hz] at h1
  rw [hQ] at ca
  obtain ⟨p, hp⟩ : ∃ x, opZ (· + ·) Q ⟨#[49]⟩ = x := ⟨_, rfl⟩
  obtain ⟨S, hS⟩ : ∃ x, opT (· + ·) Q ⟨#[49]⟩ = x := ⟨_, rfl⟩
  obtain ⟨O, hO⟩ : ∃ x, ceilF s t = x := ⟨_, rfl⟩
  have h2 := opZ_cases (· + ·) Q ⟨#[49]⟩
  rw [hp] at h2
  rw [hp, hS] at ca
  rw [hO, hz, hQ, hK, hp, hS] at hu
  rw [hO]
  have hke : (K.toList == (⟨#[48]⟩ : ByteArray).toList) = decide (K = ⟨#[48]⟩) := by rw [str_eq_iff]
  rw [list48] at hke
  have CD := Lib.hid cd; have CA := Lib.hid ca; have HR := Lib.hid hR; have B0 := Lib.hid (Below.refl w.heap.size w)
  clear cd ca hR hz hQ hK hp hS hO hs ht
  rcases h1 with rfl | rfl
  · rw [if_pos rfl] at hu
    by_cases hk : K = ⟨#[48]⟩
    · rw [if_pos hk] at hu
      rw [decide_eq_true hk] at hke
      have hk2 : (K.toList != [48]) = false := by rw [bne, hke]; rfl
      clear hk h2
      have HF := Lib.hid hu
      clear hu
      go_enter Tryz.func58, Tryz.ntmps58
      go_wp2_with fail
      refine (CD.out _ (HR.out.below B0.out)).mono ?_
      rintro e w1 ⟨rfl, b1⟩
      have B1 := Lib.hid (below_up B0.out b1)
      clear b1
      go_wp2_with fail
      go_ret3
      exact post_yes HF.out B1.out
    · rw [if_neg hk] at hu
      rw [decide_eq_false hk] at hke
      have hk2 : (K.toList != [48]) = true := by rw [bne, hke]; rfl
      clear hk
      rcases h2 with rfl | rfl
      · rw [if_pos rfl] at hu
        have HF := Lib.hid hu
        clear hu
        go_enter Tryz.func58, Tryz.ntmps58
        go_wp2_with fail
        refine (CD.out _ (HR.out.below B0.out)).mono ?_
        rintro e w1 ⟨rfl, b1⟩
        have B1 := Lib.hid (below_up B0.out b1)
        clear b1
        go_wp2_with fail
        refine (CA.out _ (HR.out.below B1.out)).mono ?_
        rintro e w2 ⟨rfl, b2⟩
        have B2 := Lib.hid (below_up B1.out b2)
        clear b2
        go_wp2_with fail
        go_ret3
        exact post_yes HF.out B2.out
      · rw [if_neg (by decide)] at hu
        have HF := Lib.hid hu
        clear hu
        go_enter Tryz.func58, Tryz.ntmps58
        go_wp2_with fail
        refine (CD.out _ (HR.out.below B0.out)).mono ?_
        rintro e w1 ⟨rfl, b1⟩
        have B1 := Lib.hid (below_up B0.out b1)
        clear b1
        go_wp2_with fail
        refine (CA.out _ (HR.out.below B1.out)).mono ?_
        rintro e w2 ⟨rfl, b2⟩
        have B2 := Lib.hid (below_up B1.out b2)
        clear b2
        go_wp2_with fail
        go_ret3
        exact post_no _ _ HF.out (by decide) B2.out
  · rw [if_neg (by decide)] at hu
    clear h2
    have HF := Lib.hid hu
    clear hu
    go_enter Tryz.func58, Tryz.ntmps58
    go_wp2_with fail
    refine (CD.out _ (HR.out.below B0.out)).mono ?_
    rintro e w1 ⟨rfl, b1⟩
    have B1 := Lib.hid (below_up B0.out b1)
    clear b1
    go_wp2_with fail
    go_ret3
    exact post_no _ _ HF.out (by decide) B1.out
set_option maxRecDepth 100000 in
set_option maxHeartbeats 8000000 in
theorem timesQ1_any (s t : ByteArray) (hs : s.size ≤ 1099511627776) (ht : t.size ≤ 1099511627776) (w : World) (hR : Ready w) (n d : ByteArray) (hn : n.size ≤ 1099511627776) (hd : d.size ≤ 1099511627776) (P Q : Nat) (hc : ∀ W, Below w.heap.size w W → W.cell? ⟨P, 0, none⟩ = some (.string n) ∧ W.cell? ⟨Q, 0, none⟩ = some (.string d)) :
    Calls Tryz.prog 94 #[.string s, .string t, .pointer (some ⟨P, 0, none⟩), .pointer (some ⟨Q, 0, none⟩)] w (StepPost (timesF n d s t) w) := by
  have hu : timesF n d s t = if opZ (· * ·) s n = 0 then (if opZ (· * ·) t d = 0 then some (opT (· * ·) s n, opT (· * ·) t d) else none) else none := rfl
  have cs := fun W (h : Ready W) => mul_i s n hs hn W h
  have ct := fun W (h : Ready W) => mul_i t d ht hd W h
  have h1 := opZ_cases (· * ·) s n
  have h2 := opZ_cases (· * ·) t d
  obtain ⟨p, hp⟩ : ∃ x, opZ (· * ·) s n = x := ⟨_, rfl⟩
  obtain ⟨q, hq⟩ : ∃ x, opZ (· * ·) t d = x := ⟨_, rfl⟩
  obtain ⟨S, hS⟩ : ∃ x, opT (· * ·) s n = x := ⟨_, rfl⟩
  obtain ⟨T, hT⟩ : ∃ x, opT (· * ·) t d = x := ⟨_, rfl⟩
  obtain ⟨O, hO⟩ : ∃ x, timesF n d s t = x := ⟨_, rfl⟩
  rw [hp, hS] at cs
  rw [hp] at h1
  rw [hq, hT] at ct
  rw [hq] at h2
  rw [hO, hp, hq, hS, hT] at hu
  rw [hO]
  have CS := Lib.hid cs; have CT := Lib.hid ct; have HR := Lib.hid hR; have B0 := Lib.hid (Below.refl w.heap.size w); have HC := Lib.hid hc
  obtain ⟨cp0, cq0⟩ := hc w (Below.refl _ _)
  clear cs ct hR hp hq hS hT hO hs ht hn hd hc
  rcases h1 with rfl | rfl
  · rw [if_pos rfl] at hu
    rcases h2 with rfl | rfl
    · rw [if_pos rfl] at hu
      have HF := Lib.hid hu
      clear hu
      go_enter Tryz.func94, Tryz.ntmps94
      go_wp2_with fail
      refine (CS.out _ (HR.out.below B0.out)).mono ?_
      rintro e w1 ⟨rfl, b1⟩
      have B1 := Lib.hid (below_up B0.out b1)
      clear b1
      obtain ⟨cp1, cq1⟩ := HC.out _ B1.out
      clear cp0 cq0
      go_wp2_with fail
      refine (CT.out _ (HR.out.below B1.out)).mono ?_
      rintro e w2 ⟨rfl, b2⟩
      have B2 := Lib.hid (below_up B1.out b2)
      clear b2
      obtain ⟨cp2, cq2⟩ := HC.out _ B2.out
      clear cp1 cq1
      go_wp2_with fail
      go_ret3
      exact post_yes HF.out B2.out
    · rw [if_neg (by decide)] at hu
      have HF := Lib.hid hu
      clear hu
      go_enter Tryz.func94, Tryz.ntmps94
      go_wp2_with fail
      refine (CS.out _ (HR.out.below B0.out)).mono ?_
      rintro e w1 ⟨rfl, b1⟩
      have B1 := Lib.hid (below_up B0.out b1)
      clear b1
      obtain ⟨cp1, cq1⟩ := HC.out _ B1.out
      clear cp0 cq0
      go_wp2_with fail
      refine (CT.out _ (HR.out.below B1.out)).mono ?_
      rintro e w2 ⟨rfl, b2⟩
      have B2 := Lib.hid (below_up B1.out b2)
      clear b2
      obtain ⟨cp2, cq2⟩ := HC.out _ B2.out
      clear cp1 cq1
      go_wp2_with fail
      go_ret3
      exact post_no _ _ HF.out (by decide) B2.out
  · rw [if_neg (by decide)] at hu
    clear h2
    have HF := Lib.hid hu
    clear hu
    go_enter Tryz.func94, Tryz.ntmps94
    go_wp2_with fail
    refine (CS.out _ (HR.out.below B0.out)).mono ?_
    rintro e w1 ⟨rfl, b1⟩
    have B1 := Lib.hid (below_up B0.out b1)
    clear b1
    obtain ⟨cp1, cq1⟩ := HC.out _ B1.out
    clear cp0 cq0
    go_wp2_with fail
    go_ret3
    exact post_no _ _ HF.out (by decide) B1.out
set_option maxRecDepth 100000 in
set_option maxHeartbeats 8000000 in
theorem with1_add (s t : ByteArray) (hs : s.size ≤ 1099511627776) (w : World) (hR : Ready w) (n d : ByteArray) (hn : n.size ≤ 1099511627776) (hd : d.size ≤ 1099511627776) (P Q K : Nat) (hc : ∀ W, Below w.heap.size w W → W.cell? ⟨P, 0, none⟩ = some (.string n) ∧ W.cell? ⟨Q, 0, none⟩ = some (.string d) ∧ W.cell? ⟨K, 0, none⟩ = some (.func (.func 69) #[] #[])) :
    Calls Tryz.prog 96 #[.string s, .string t, .pointer (some ⟨P, 0, none⟩), .pointer (some ⟨Q, 0, none⟩), .pointer (some ⟨K, 0, none⟩)] w (StepPost (withF (· + ·) n d s t) w) := by
  have hu : withF (· + ·) n d s t = if opZ (· * ·) n d = 0 then (if opZ (· + ·) s (opT (· * ·) n d) = 0 then some (opT (· + ·) s (opT (· * ·) n d), t) else none) else none := rfl
  have cs := fun W (h : Ready W) => mul_i n d hn hd W h
  have ct := fun W (h : Ready W) => add_i s (opT (· * ·) n d) hs (opT_size _ _ _) W h
  have h1 := opZ_cases (· * ·) n d
  have h2 := opZ_cases (· + ·) s (opT (· * ·) n d)
  obtain ⟨p, hp⟩ : ∃ x, opZ (· * ·) n d = x := ⟨_, rfl⟩
  obtain ⟨S, hS⟩ : ∃ x, opT (· * ·) n d = x := ⟨_, rfl⟩
  rw [hS] at ct h2
  rw [hp, hS] at cs
  rw [hp] at h1
  rw [hp, hS] at hu
  obtain ⟨q, hq⟩ : ∃ x, opZ (· + ·) s S = x := ⟨_, rfl⟩
  obtain ⟨T, hT⟩ : ∃ x, opT (· + ·) s S = x := ⟨_, rfl⟩
  obtain ⟨O, hO⟩ : ∃ x, withF (· + ·) n d s t = x := ⟨_, rfl⟩
  rw [hq, hT] at ct
  rw [hq] at h2
  rw [hO, hq, hT] at hu
  rw [hO]
  have CS := Lib.hid cs; have CT := Lib.hid ct; have HR := Lib.hid hR; have B0 := Lib.hid (Below.refl w.heap.size w); have HC := Lib.hid hc
  obtain ⟨cp0, cq0, ck0⟩ := hc w (Below.refl _ _)
  clear cs ct hR hp hq hS hT hO hs hn hd hc
  rcases h1 with rfl | rfl
  · rw [if_pos rfl] at hu
    rcases h2 with rfl | rfl
    · rw [if_pos rfl] at hu
      have HF := Lib.hid hu
      clear hu
      go_enter Tryz.func96, Tryz.ntmps96
      go_wp2_with fail
      refine (CS.out _ (HR.out.below B0.out)).mono ?_
      rintro e w1 ⟨rfl, b1⟩
      have B1 := Lib.hid (below_up B0.out b1)
      clear b1
      obtain ⟨cp1, cq1, ck1⟩ := HC.out _ B1.out
      clear cp0 cq0 ck0
      go_wp2_with fail
      refine (CT.out _ (HR.out.below B1.out)).mono ?_
      rintro e w2 ⟨rfl, b2⟩
      have B2 := Lib.hid (below_up B1.out b2)
      clear b2
      obtain ⟨cp2, cq2, ck2⟩ := HC.out _ B2.out
      clear cp1 cq1 ck1
      go_wp2_with fail
      go_ret3
      exact post_yes HF.out B2.out
    · rw [if_neg (by decide)] at hu
      have HF := Lib.hid hu
      clear hu
      go_enter Tryz.func96, Tryz.ntmps96
      go_wp2_with fail
      refine (CS.out _ (HR.out.below B0.out)).mono ?_
      rintro e w1 ⟨rfl, b1⟩
      have B1 := Lib.hid (below_up B0.out b1)
      clear b1
      obtain ⟨cp1, cq1, ck1⟩ := HC.out _ B1.out
      clear cp0 cq0 ck0
      go_wp2_with fail
      refine (CT.out _ (HR.out.below B1.out)).mono ?_
      rintro e w2 ⟨rfl, b2⟩
      have B2 := Lib.hid (below_up B1.out b2)
      clear b2
      obtain ⟨cp2, cq2, ck2⟩ := HC.out _ B2.out
      clear cp1 cq1 ck1
      go_wp2_with fail
      go_ret3
      exact post_no _ _ HF.out (by decide) B2.out
  · rw [if_neg (by decide)] at hu
    clear h2
    have HF := Lib.hid hu
    clear hu
    go_enter Tryz.func96, Tryz.ntmps96
    go_wp2_with fail
    refine (CS.out _ (HR.out.below B0.out)).mono ?_
    rintro e w1 ⟨rfl, b1⟩
    have B1 := Lib.hid (below_up B0.out b1)
    clear b1
    obtain ⟨cp1, cq1, ck1⟩ := HC.out _ B1.out
    clear cp0 cq0 ck0
    go_wp2_with fail
    go_ret3
    exact post_no _ _ HF.out (by decide) B1.out
set_option maxRecDepth 100000 in
set_option maxHeartbeats 8000000 in
theorem with1_sub (s t : ByteArray) (hs : s.size ≤ 1099511627776) (w : World) (hR : Ready w) (n d : ByteArray) (hn : n.size ≤ 1099511627776) (hd : d.size ≤ 1099511627776) (P Q K : Nat) (hc : ∀ W, Below w.heap.size w W → W.cell? ⟨P, 0, none⟩ = some (.string n) ∧ W.cell? ⟨Q, 0, none⟩ = some (.string d) ∧ W.cell? ⟨K, 0, none⟩ = some (.func (.func 70) #[] #[])) :
    Calls Tryz.prog 96 #[.string s, .string t, .pointer (some ⟨P, 0, none⟩), .pointer (some ⟨Q, 0, none⟩), .pointer (some ⟨K, 0, none⟩)] w (StepPost (withF (· - ·) n d s t) w) := by
  have hu : withF (· - ·) n d s t = if opZ (· * ·) n d = 0 then (if opZ (· - ·) s (opT (· * ·) n d) = 0 then some (opT (· - ·) s (opT (· * ·) n d), t) else none) else none := rfl
  have cs := fun W (h : Ready W) => mul_i n d hn hd W h
  have ct := fun W (h : Ready W) => sub_i s (opT (· * ·) n d) hs (opT_size _ _ _) W h
  have h1 := opZ_cases (· * ·) n d
  have h2 := opZ_cases (· - ·) s (opT (· * ·) n d)
  obtain ⟨p, hp⟩ : ∃ x, opZ (· * ·) n d = x := ⟨_, rfl⟩
  obtain ⟨S, hS⟩ : ∃ x, opT (· * ·) n d = x := ⟨_, rfl⟩
  rw [hS] at ct h2
  rw [hp, hS] at cs
  rw [hp] at h1
  rw [hp, hS] at hu
  obtain ⟨q, hq⟩ : ∃ x, opZ (· - ·) s S = x := ⟨_, rfl⟩
  obtain ⟨T, hT⟩ : ∃ x, opT (· - ·) s S = x := ⟨_, rfl⟩
  obtain ⟨O, hO⟩ : ∃ x, withF (· - ·) n d s t = x := ⟨_, rfl⟩
  rw [hq, hT] at ct
  rw [hq] at h2
  rw [hO, hq, hT] at hu
  rw [hO]
  have CS := Lib.hid cs; have CT := Lib.hid ct; have HR := Lib.hid hR; have B0 := Lib.hid (Below.refl w.heap.size w); have HC := Lib.hid hc
  obtain ⟨cp0, cq0, ck0⟩ := hc w (Below.refl _ _)
  clear cs ct hR hp hq hS hT hO hs hn hd hc
  rcases h1 with rfl | rfl
  · rw [if_pos rfl] at hu
    rcases h2 with rfl | rfl
    · rw [if_pos rfl] at hu
      have HF := Lib.hid hu
      clear hu
      go_enter Tryz.func96, Tryz.ntmps96
      go_wp2_with fail
      refine (CS.out _ (HR.out.below B0.out)).mono ?_
      rintro e w1 ⟨rfl, b1⟩
      have B1 := Lib.hid (below_up B0.out b1)
      clear b1
      obtain ⟨cp1, cq1, ck1⟩ := HC.out _ B1.out
      clear cp0 cq0 ck0
      go_wp2_with fail
      refine (CT.out _ (HR.out.below B1.out)).mono ?_
      rintro e w2 ⟨rfl, b2⟩
      have B2 := Lib.hid (below_up B1.out b2)
      clear b2
      obtain ⟨cp2, cq2, ck2⟩ := HC.out _ B2.out
      clear cp1 cq1 ck1
      go_wp2_with fail
      go_ret3
      exact post_yes HF.out B2.out
    · rw [if_neg (by decide)] at hu
      have HF := Lib.hid hu
      clear hu
      go_enter Tryz.func96, Tryz.ntmps96
      go_wp2_with fail
      refine (CS.out _ (HR.out.below B0.out)).mono ?_
      rintro e w1 ⟨rfl, b1⟩
      have B1 := Lib.hid (below_up B0.out b1)
      clear b1
      obtain ⟨cp1, cq1, ck1⟩ := HC.out _ B1.out
      clear cp0 cq0 ck0
      go_wp2_with fail
      refine (CT.out _ (HR.out.below B1.out)).mono ?_
      rintro e w2 ⟨rfl, b2⟩
      have B2 := Lib.hid (below_up B1.out b2)
      clear b2
      obtain ⟨cp2, cq2, ck2⟩ := HC.out _ B2.out
      clear cp1 cq1 ck1
      go_wp2_with fail
      go_ret3
      exact post_no _ _ HF.out (by decide) B2.out
  · rw [if_neg (by decide)] at hu
    clear h2
    have HF := Lib.hid hu
    clear hu
    go_enter Tryz.func96, Tryz.ntmps96
    go_wp2_with fail
    refine (CS.out _ (HR.out.below B0.out)).mono ?_
    rintro e w1 ⟨rfl, b1⟩
    have B1 := Lib.hid (below_up B0.out b1)
    clear b1
    obtain ⟨cp1, cq1, ck1⟩ := HC.out _ B1.out
    clear cp0 cq0 ck0
    go_wp2_with fail
    go_ret3
    exact post_no _ _ HF.out (by decide) B1.out
theorem enters {f : Nat} {fn : Func} (h : Tryz.prog.funcs[f]? = some fn) (h1 : fn.name ≠ "runtime.NumGoroutine") (h2 : fn.body.isNone = false) (args : Array Value) (W : World) : (callFunc f args).run Tryz.prog W = .ok (.enter f args) W := by
  have h3 : fn.body ≠ none := fun e => by rw [e] at h2; cases h2
  simp [callFunc, go_sem, h, h1, h3]
/-- A call returns a function value that makes of two texts what f makes of them. -/
def StepRet (f : StepF) (w : World) (e : Ending) (w' : World) : Prop := ∃ v, e = .returned v ∧ StepIs w' v f ∧ Below w.heap.size w w'

theorem unsigned_is (w : World) (hR : Ready w) : StepIs w (.func (.func 87) #[] #[]) unsF :=
  ⟨uns_small, _, #[], rfl, enters Tryz.func87 (by decide) rfl, fun s t W hs ht b => unsigned_any s t hs ht W (hR.below b)⟩

theorem lowest_is (w : World) (hR : Ready w) : StepIs w (.func (.func 88) #[] #[]) lowF :=
  ⟨low_small, _, #[], rfl, enters Tryz.func88 (by decide) rfl, fun s t W hs ht b => lowest_any s t hs ht W (hR.below b)⟩

theorem floor_is (w : World) (hR : Ready w) : StepIs w (.func (.func 56) #[] #[]) floorF :=
  ⟨floor_small, _, #[], rfl, enters Tryz.func56 (by decide) rfl, fun s t W hs ht b => floor_any s t hs ht W (hR.below b)⟩

theorem ceiling_is (w : World) (hR : Ready w) : StepIs w (.func (.func 58) #[] #[]) ceilF :=
  ⟨ceil_small, _, #[], rfl, enters Tryz.func58 (by decide) rfl, fun s t W hs ht b => ceiling_any s t hs ht W (hR.below b)⟩

set_option maxRecDepth 100000 in
set_option maxHeartbeats 8000000 in
theorem timesQ_any (n d : ByteArray) (hn : n.size ≤ 1099511627776) (hd : d.size ≤ 1099511627776) (w : World) (hR : Ready w) :
    Calls Tryz.prog 67 #[.string n, .string d] w (StepRet (timesF n d) w) := by
  obtain ⟨W1, hW1⟩ : ∃ W, w.alloc (.cells #[.string n] 9) = W := ⟨_, rfl⟩
  obtain ⟨W2, hW2⟩ : ∃ W, W1.alloc (.cells #[.string d] 9) = W := ⟨_, rfl⟩
  have b1 : Below w.heap.size w W1 := by rw [← hW1]; exact (Below.refl _ _).alloc (Nat.le_refl _) _
  have s1 : W1.heap.size = w.heap.size + 1 := by rw [← hW1]; simp
  have k1 := heap_alloc_new w (.cells #[.string n] 9)
  rw [hW1] at k1
  have b2 : Below W1.heap.size W1 W2 := by rw [← hW2]; exact (Below.refl _ _).alloc (Nat.le_refl _) _
  have s2 : W2.heap.size = W1.heap.size + 1 := by rw [← hW2]; simp
  have k2 := heap_alloc_new W1 (.cells #[.string d] 9)
  rw [hW2] at k2
  have hc : ∀ W, Below W2.heap.size W2 W → W.cell? ⟨w.heap.size, 0, none⟩ = some (.string n) ∧ W.cell? ⟨W1.heap.size, 0, none⟩ = some (.string d) := fun W b => by
    have e1 := (Below.block (below_up b2 b) (w.heap.size) (by rw [s1]; omega)).trans k1
    have e2 := (Below.block b (W1.heap.size) (by rw [s2]; omega)).trans k2
    exact ⟨by simp [World.cell?, e1], by simp [World.cell?, e2]⟩
  have hb := (below_up b1 b2)
  have his : StepIs W2 (.func (.func 94) #[] #[.pointer (some ⟨w.heap.size, 0, none⟩), .pointer (some ⟨W1.heap.size, 0, none⟩)]) (timesF n d) :=
    ⟨times_small n d, _, _, rfl, enters Tryz.func94 (by decide) rfl, fun s t W hs ht b => timesQ1_any s t hs ht W ((hR.below hb).below b) n d hn hd _ _ (fun W' b' => hc W' (below_up b b'))⟩
  have HI := Lib.hid his; have HB := Lib.hid hb; have H1 := Lib.hid hW1; have H2 := Lib.hid hW2
  clear his hc hb b2 hW2 k2 s2 b1 hW1 k1 s1 hR hn hd
  go_enter Tryz.func67, Tryz.ntmps67
  go_wp2_with (first | rw [H1.out] | rw [H2.out])
  go_ret
  exact ⟨_, rfl, HI.out, HB.out⟩
set_option maxRecDepth 100000 in
set_option maxHeartbeats 8000000 in
theorem withQ_add (n d : ByteArray) (hn : n.size ≤ 1099511627776) (hd : d.size ≤ 1099511627776) (w : World) (hR : Ready w) :
    Calls Tryz.prog 68 #[.func (.func 69) #[] #[], .string n, .string d] w (StepRet (withF (· + ·) n d) w) := by
  obtain ⟨W1, hW1⟩ : ∃ W, w.alloc (.cells #[.func (.func 69) #[] #[]] 61) = W := ⟨_, rfl⟩
  obtain ⟨W2, hW2⟩ : ∃ W, W1.alloc (.cells #[.string n] 9) = W := ⟨_, rfl⟩
  obtain ⟨W3, hW3⟩ : ∃ W, W2.alloc (.cells #[.string d] 9) = W := ⟨_, rfl⟩
  have b1 : Below w.heap.size w W1 := by rw [← hW1]; exact (Below.refl _ _).alloc (Nat.le_refl _) _
  have s1 : W1.heap.size = w.heap.size + 1 := by rw [← hW1]; simp
  have k1 := heap_alloc_new w (.cells #[.func (.func 69) #[] #[]] 61)
  rw [hW1] at k1
  have b2 : Below W1.heap.size W1 W2 := by rw [← hW2]; exact (Below.refl _ _).alloc (Nat.le_refl _) _
  have s2 : W2.heap.size = W1.heap.size + 1 := by rw [← hW2]; simp
  have k2 := heap_alloc_new W1 (.cells #[.string n] 9)
  rw [hW2] at k2
  have b3 : Below W2.heap.size W2 W3 := by rw [← hW3]; exact (Below.refl _ _).alloc (Nat.le_refl _) _
  have s3 : W3.heap.size = W2.heap.size + 1 := by rw [← hW3]; simp
  have k3 := heap_alloc_new W2 (.cells #[.string d] 9)
  rw [hW3] at k3
  have hc : ∀ W, Below W3.heap.size W3 W → W.cell? ⟨W1.heap.size, 0, none⟩ = some (.string n) ∧ W.cell? ⟨W2.heap.size, 0, none⟩ = some (.string d) ∧ W.cell? ⟨w.heap.size, 0, none⟩ = some (.func (.func 69) #[] #[]) := fun W b => by
    have e1 := (Below.block (below_up b2 (below_up b3 b)) (w.heap.size) (by rw [s1]; omega)).trans k1
    have e2 := (Below.block (below_up b3 b) (W1.heap.size) (by rw [s2]; omega)).trans k2
    have e3 := (Below.block b (W2.heap.size) (by rw [s3]; omega)).trans k3
    exact ⟨by simp [World.cell?, e2], by simp [World.cell?, e3], by simp [World.cell?, e1]⟩
  have hb := (below_up b1 (below_up b2 b3))
  have his : StepIs W3 (.func (.func 96) #[] #[.pointer (some ⟨W1.heap.size, 0, none⟩), .pointer (some ⟨W2.heap.size, 0, none⟩), .pointer (some ⟨w.heap.size, 0, none⟩)]) (withF (· + ·) n d) :=
    ⟨with_small _ n d, _, _, rfl, enters Tryz.func96 (by decide) rfl, fun s t W hs _ b => with1_add s t hs W ((hR.below hb).below b) n d hn hd _ _ _ (fun W' b' => hc W' (below_up b b'))⟩
  have HI := Lib.hid his; have HB := Lib.hid hb; have H1 := Lib.hid hW1; have H2 := Lib.hid hW2; have H3 := Lib.hid hW3
  clear his hc hb b3 hW3 k3 s3 b2 hW2 k2 s2 b1 hW1 k1 s1 hR hn hd
  go_enter Tryz.func68, Tryz.ntmps68
  go_wp2_with (first | rw [H1.out] | rw [H2.out] | rw [H3.out])
  go_ret
  exact ⟨_, rfl, HI.out, HB.out⟩
set_option maxRecDepth 100000 in
set_option maxHeartbeats 8000000 in
theorem withQ_sub (n d : ByteArray) (hn : n.size ≤ 1099511627776) (hd : d.size ≤ 1099511627776) (w : World) (hR : Ready w) :
    Calls Tryz.prog 68 #[.func (.func 70) #[] #[], .string n, .string d] w (StepRet (withF (· - ·) n d) w) := by
  obtain ⟨W1, hW1⟩ : ∃ W, w.alloc (.cells #[.func (.func 70) #[] #[]] 61) = W := ⟨_, rfl⟩
  obtain ⟨W2, hW2⟩ : ∃ W, W1.alloc (.cells #[.string n] 9) = W := ⟨_, rfl⟩
  obtain ⟨W3, hW3⟩ : ∃ W, W2.alloc (.cells #[.string d] 9) = W := ⟨_, rfl⟩
  have b1 : Below w.heap.size w W1 := by rw [← hW1]; exact (Below.refl _ _).alloc (Nat.le_refl _) _
  have s1 : W1.heap.size = w.heap.size + 1 := by rw [← hW1]; simp
  have k1 := heap_alloc_new w (.cells #[.func (.func 70) #[] #[]] 61)
  rw [hW1] at k1
  have b2 : Below W1.heap.size W1 W2 := by rw [← hW2]; exact (Below.refl _ _).alloc (Nat.le_refl _) _
  have s2 : W2.heap.size = W1.heap.size + 1 := by rw [← hW2]; simp
  have k2 := heap_alloc_new W1 (.cells #[.string n] 9)
  rw [hW2] at k2
  have b3 : Below W2.heap.size W2 W3 := by rw [← hW3]; exact (Below.refl _ _).alloc (Nat.le_refl _) _
  have s3 : W3.heap.size = W2.heap.size + 1 := by rw [← hW3]; simp
  have k3 := heap_alloc_new W2 (.cells #[.string d] 9)
  rw [hW3] at k3
  have hc : ∀ W, Below W3.heap.size W3 W → W.cell? ⟨W1.heap.size, 0, none⟩ = some (.string n) ∧ W.cell? ⟨W2.heap.size, 0, none⟩ = some (.string d) ∧ W.cell? ⟨w.heap.size, 0, none⟩ = some (.func (.func 70) #[] #[]) := fun W b => by
    have e1 := (Below.block (below_up b2 (below_up b3 b)) (w.heap.size) (by rw [s1]; omega)).trans k1
    have e2 := (Below.block (below_up b3 b) (W1.heap.size) (by rw [s2]; omega)).trans k2
    have e3 := (Below.block b (W2.heap.size) (by rw [s3]; omega)).trans k3
    exact ⟨by simp [World.cell?, e2], by simp [World.cell?, e3], by simp [World.cell?, e1]⟩
  have hb := (below_up b1 (below_up b2 b3))
  have his : StepIs W3 (.func (.func 96) #[] #[.pointer (some ⟨W1.heap.size, 0, none⟩), .pointer (some ⟨W2.heap.size, 0, none⟩), .pointer (some ⟨w.heap.size, 0, none⟩)]) (withF (· - ·) n d) :=
    ⟨with_small _ n d, _, _, rfl, enters Tryz.func96 (by decide) rfl, fun s t W hs _ b => with1_sub s t hs W ((hR.below hb).below b) n d hn hd _ _ _ (fun W' b' => hc W' (below_up b b'))⟩
  have HI := Lib.hid his; have HB := Lib.hid hb; have H1 := Lib.hid hW1; have H2 := Lib.hid hW2; have H3 := Lib.hid hW3
  clear his hc hb b3 hW3 k3 s3 b2 hW2 k2 s2 b1 hW1 k1 s1 hR hn hd
  go_enter Tryz.func68, Tryz.ntmps68
  go_wp2_with (first | rw [H1.out] | rw [H2.out] | rw [H3.out])
  go_ret
  exact ⟨_, rfl, HI.out, HB.out⟩
end Go.Proofs.YtlcibnmcannapaaGreatDoor
