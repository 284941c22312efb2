/-
  The contracts of the program's steps: unsigned, lowest, floor, ceiling, times, with. The contracts of the program's Valid, Make, Of and combine. The contract of the program's Compare of fractions. Facts of fractions as texts that the laws of order, grid and field want. The contracts of the program's Add, Sub, Mul and Div.
-/
import Derived.Test.YtcglcgphgahnpaaGreatDoorJ14
import Derived.Test.YtcglcgphgahnpaaGreatDoorJ20
import Derived.WalkMore
import Derived.ScopeJumps
set_option maxRecDepth 100000
set_option maxHeartbeats 16000000
namespace Go.Proofs.YtcglcgphgahnpaaGreatDoor
open Go Go.Proofs Go.RowKit Go.Lib
theorem cmpB_cases (s t : ByteArray) : cmpB s t = 1 ∨ cmpB s t = 0 ∨ cmpB s t = -1 := by
 unfold cmpB; split
 · split
   · exact .inr (.inr rfl)
   split
   · exact .inl rfl
   exact .inr (.inl rfl)
 exact .inr (.inl rfl)
theorem resZ_cases (x : Int) : resZ x = 0 ∨ resZ x = 30 := by unfold resZ; split <;> simp
theorem opZ_cases (f : Int → Int → Int) (s t : ByteArray) : opZ f s t = 0 ∨ opZ f s t = 30 := by
 unfold opZ; split
 · exact resZ_cases _
 exact .inr rfl
theorem divZ_cases (s t : ByteArray) : divZ s t = 0 ∨ divZ s t = 30 := by
 unfold divZ; split
 · exact resZ_cases _
 exact .inr rfl
theorem opT_size (f : Int → Int → Int) (s t : ByteArray) : (opT f s t).size ≤ 1099511627776 := by
 unfold opT; split
 · exact resT_size _
 show (0 : Nat) ≤ _; omega
theorem divQ_size (s t : ByteArray) : (divQ s t).size ≤ 1099511627776 := by
 unfold divQ; split
 · exact resT_size _
 show (0 : Nat) ≤ _; omega
theorem post_yes {o : Option (ByteArray × ByteArray)} {a b : ByteArray} {w w' : World} (h : o = some (a, b)) (hb : Below w.heap.size w w') : StepPost o w (.returned (.tuple #[.string a, .string b, .int .i64 0])) w' := by rw [h]; exact ⟨rfl, hb⟩
theorem post_no {o : Option (ByteArray × ByteArray)} (a b : ByteArray) {c : Int} {w w' : World} (h : o = none) (hc : c ≠ 0) (hb : Below w.heap.size w w') : StepPost o w (.returned (.tuple #[.string a, .string b, .int .i64 c])) w' := by rw [h]; exact ⟨a, b, c, hc, rfl, hb⟩
theorem times_small (n d : ByteArray) : SmallF (timesF n d) := by
 intro s t a b _ _ h
 unfold timesF at h
 split at h
 · split at h
   · cases h; exact ⟨opT_size _ _ _, opT_size _ _ _⟩
   cases h
 cases h
theorem with_small (f : Int → Int → Int) (n d : ByteArray) : SmallF (withF f n d) := by
 intro s t a b _ ht h
 unfold withF at h
 split at h
 · split at h
   · cases h; exact ⟨opT_size _ _ _, ht⟩
   cases h
 cases h
theorem uns_small : SmallF unsF := by
 intro s t a b hs ht h
 unfold unsF at h
 split at h
 · cases h; exact ⟨hs, ht⟩
 split at h
 · cases h
 split at h
 · split at h
   · cases h; exact ⟨opT_size _ _ _, opT_size _ _ _⟩
   cases h
 cases h
theorem low_small : SmallF lowF := by
 intro s t a b hs ht h
 unfold lowF at h
 split at h
 · split at h
   · split at h
     · cases h; exact ⟨divQ_size _ _, divQ_size _ _⟩
     cases h
   cases h
 cases h
theorem unsigned_any (s t : ByteArray) (hs : s.size ≤ 1099511627776) (ht : t.size ≤ 1099511627776) (w : World) (hR : Ready w) :
 Calls Tryz.prog 143 #[.string s, .string t] w (StepPost (unsF s t) w) := by
 have cm := fun W (h : Ready W) => cmp_i t ⟨#[48]⟩ ht (by decide) W h
 have cs := fun W (h : Ready W) => sub_i ⟨#[48]⟩ s (by decide) hs W h
 have ct := fun W (h : Ready W) => sub_i ⟨#[48]⟩ t (by decide) ht W h
 have hu : unsF s t = if cmpB t ⟨#[48]⟩ = 1 then some (s, t) else if cmpB t ⟨#[48]⟩ = 0 then none else if opZ (· - ·) ⟨#[48]⟩ s = 0 then (if opZ (· - ·) ⟨#[48]⟩ t = 0 then some (opT (· - ·) ⟨#[48]⟩ s, opT (· - ·) ⟨#[48]⟩ t) else none) else none := rfl
 have h1 := cmpB_cases t ⟨#[48]⟩
 have h2 := opZ_cases (· - ·) ⟨#[48]⟩ s
 have h3 := opZ_cases (· - ·) ⟨#[48]⟩ t
 obtain ⟨z, hz⟩ : ∃ x, cmpB t ⟨#[48]⟩ = x := ⟨_, rfl⟩
 obtain ⟨p, hp⟩ : ∃ x, opZ (· - ·) ⟨#[48]⟩ s = x := ⟨_, rfl⟩
 obtain ⟨q, hq⟩ : ∃ x, opZ (· - ·) ⟨#[48]⟩ t = x := ⟨_, rfl⟩
 obtain ⟨S, hS⟩ : ∃ x, opT (· - ·) ⟨#[48]⟩ s = x := ⟨_, rfl⟩
 obtain ⟨T, hT⟩ : ∃ x, opT (· - ·) ⟨#[48]⟩ t = x := ⟨_, rfl⟩
 obtain ⟨O, hO⟩ : ∃ x, unsF s t = x := ⟨_, rfl⟩
 rw [hz] at cm h1
 rw [hp, hS] at cs
 rw [hp] at h2
 rw [hq, hT] at ct
 rw [hq] at h3
 rw [hO, hz, hp, hq, hS, hT] at hu
 rw [hO]
 have CM := hid cm; have CS := hid cs; have CT := hid ct; have HR := hid hR; have B0 := hid (Below.refl w.heap.size w)
 clear cm cs ct hR hz hp hq hS hT hO hs ht
 rcases h1 with rfl | rfl | rfl
 · rw [if_pos rfl] at hu
   clear h2 h3
   have HF := hid hu
   clear hu
   go_enter Tryz.func143, Tryz.ntmps143
   go_wp2_with fail
   refine (CM.out _ (HR.out.below B0.out)).mono ?_
   rintro e w1 ⟨rfl, b1⟩
   have B1 := hid (below_up B0.out b1)
   clear b1
   go_wp2_with fail
   go_ret3
   exact post_yes HF.out B1.out
 · rw [if_neg (by decide), if_pos rfl] at hu
   clear h2 h3
   have HF := hid hu
   clear hu
   go_enter Tryz.func143, Tryz.ntmps143
   go_wp2_with fail
   refine (CM.out _ (HR.out.below B0.out)).mono ?_
   rintro e w1 ⟨rfl, b1⟩
   have B1 := hid (below_up B0.out b1)
   clear b1
   go_wp2_with fail
   go_ret3
   exact post_no _ _ HF.out (by decide) B1.out
 rw [if_neg (by decide), if_neg (by decide)] at hu
 rcases h2 with rfl | rfl
 · rw [if_pos rfl] at hu
   rcases h3 with rfl | rfl
   · rw [if_pos rfl] at hu
     have HF := hid hu
     clear hu
     go_enter Tryz.func143, Tryz.ntmps143
     go_wp2_with fail
     refine (CM.out _ (HR.out.below B0.out)).mono ?_
     rintro e w1 ⟨rfl, b1⟩
     have B1 := hid (below_up B0.out b1)
     clear b1
     go_wp2_with fail
     refine (CS.out _ (HR.out.below B1.out)).mono ?_
     rintro e w2 ⟨rfl, b2⟩
     have B2 := hid (below_up B1.out b2)
     clear b2
     go_wp2_with fail
     refine (CT.out _ (HR.out.below B2.out)).mono ?_
     rintro e w3 ⟨rfl, b3⟩
     have B3 := hid (below_up B2.out b3)
     clear b3
     go_wp2_with fail
     go_ret3
     exact post_yes HF.out B3.out
   rw [if_neg (by decide)] at hu
   have HF := hid hu
   clear hu
   go_enter Tryz.func143, Tryz.ntmps143
   go_wp2_with fail
   refine (CM.out _ (HR.out.below B0.out)).mono ?_
   rintro e w1 ⟨rfl, b1⟩
   have B1 := hid (below_up B0.out b1)
   clear b1
   go_wp2_with fail
   refine (CS.out _ (HR.out.below B1.out)).mono ?_
   rintro e w2 ⟨rfl, b2⟩
   have B2 := hid (below_up B1.out b2)
   clear b2
   go_wp2_with fail
   refine (CT.out _ (HR.out.below B2.out)).mono ?_
   rintro e w3 ⟨rfl, b3⟩
   have B3 := hid (below_up B2.out b3)
   clear b3
   go_wp2_with fail
   go_ret3
   exact post_no _ _ HF.out (by decide) B3.out
 rw [if_neg (by decide)] at hu
 clear h3
 have HF := hid hu
 clear hu
 go_enter Tryz.func143, Tryz.ntmps143
 go_wp2_with fail
 refine (CM.out _ (HR.out.below B0.out)).mono ?_
 rintro e w1 ⟨rfl, b1⟩
 have B1 := hid (below_up B0.out b1)
 clear b1
 go_wp2_with fail
 refine (CS.out _ (HR.out.below B1.out)).mono ?_
 rintro e w2 ⟨rfl, b2⟩
 have B2 := hid (below_up B1.out b2)
 clear b2
 go_wp2_with fail
 go_ret3
 exact post_no _ _ HF.out (by decide) B2.out
theorem lowest_any (s t : ByteArray) (hs : s.size ≤ 1099511627776) (ht : t.size ≤ 1099511627776) (w : World) (hR : Ready w) :
 Calls Tryz.prog 144 #[.string s, .string t] w (StepPost (lowF s t) w) := by
 have cg := fun W (h : Ready W) => gcd_i s t hs ht W h
 have cs := fun W (h : Ready W) => div_i s (opT gcdI s t) hs (opT_size _ _ _) W h
 have ct := fun W (h : Ready W) => div_i t (opT gcdI s t) ht (opT_size _ _ _) W h
 have hu : lowF s t = if opZ gcdI s t = 0 then (if divZ s (opT gcdI s t) = 0 then (if divZ t (opT gcdI s t) = 0 then some (divQ s (opT gcdI s t), divQ t (opT gcdI s t)) else none) else none) else none := rfl
 have h1 := opZ_cases gcdI s t
 have h2 := divZ_cases s (opT gcdI s t)
 have h3 := divZ_cases t (opT gcdI s t)
 obtain ⟨z, hz⟩ : ∃ x, opZ gcdI s t = x := ⟨_, rfl⟩
 obtain ⟨G, hG⟩ : ∃ x, opT gcdI s t = x := ⟨_, rfl⟩
 rw [hz, hG] at cg
 rw [hG] at cs ct h2 h3
 rw [hz, hG] at hu
 rw [hz] at h1
 obtain ⟨p, hp⟩ : ∃ x, divZ s G = x := ⟨_, rfl⟩
 obtain ⟨q, hq⟩ : ∃ x, divZ t G = x := ⟨_, rfl⟩
 obtain ⟨S, hS⟩ : ∃ x, divQ s G = x := ⟨_, rfl⟩
 obtain ⟨T, hT⟩ : ∃ x, divQ t G = x := ⟨_, rfl⟩
 obtain ⟨S2, hS2⟩ : ∃ x, divR s G = x := ⟨_, rfl⟩
 obtain ⟨T2, hT2⟩ : ∃ x, divR t G = x := ⟨_, rfl⟩
 obtain ⟨O, hO⟩ : ∃ x, lowF s t = x := ⟨_, rfl⟩
 rw [hp, hS, hS2] at cs
 rw [hp] at h2
 rw [hq, hT, hT2] at ct
 rw [hq] at h3
 rw [hO, hp, hq, hS, hT] at hu
 rw [hO]
 have CG := hid cg; have CS := hid cs; have CT := hid ct; have HR := hid hR; have B0 := hid (Below.refl w.heap.size w)
 clear cg cs ct hR hz hG hp hq hS hT hS2 hT2 hO hs ht
 rcases h1 with rfl | rfl
 · rw [if_pos rfl] at hu
   rcases h2 with rfl | rfl
   · rw [if_pos rfl] at hu
     rcases h3 with rfl | rfl
     · rw [if_pos rfl] at hu
       have HF := hid hu
       clear hu
       go_enter Tryz.func144, Tryz.ntmps144
       go_wp2_with fail
       refine (CG.out _ (HR.out.below B0.out)).mono ?_
       rintro e w1 ⟨rfl, b1⟩
       have B1 := hid (below_up B0.out b1)
       clear b1
       go_wp2_with fail
       refine (CS.out _ (HR.out.below B1.out)).mono ?_
       rintro e w2 ⟨rfl, b2⟩
       have B2 := hid (below_up B1.out b2)
       clear b2
       go_wp2_with fail
       refine (CT.out _ (HR.out.below B2.out)).mono ?_
       rintro e w3 ⟨rfl, b3⟩
       have B3 := hid (below_up B2.out b3)
       clear b3
       go_wp2_with fail
       go_ret3
       exact post_yes HF.out B3.out
     rw [if_neg (by decide)] at hu
     have HF := hid hu
     clear hu
     go_enter Tryz.func144, Tryz.ntmps144
     go_wp2_with fail
     refine (CG.out _ (HR.out.below B0.out)).mono ?_
     rintro e w1 ⟨rfl, b1⟩
     have B1 := hid (below_up B0.out b1)
     clear b1
     go_wp2_with fail
     refine (CS.out _ (HR.out.below B1.out)).mono ?_
     rintro e w2 ⟨rfl, b2⟩
     have B2 := hid (below_up B1.out b2)
     clear b2
     go_wp2_with fail
     refine (CT.out _ (HR.out.below B2.out)).mono ?_
     rintro e w3 ⟨rfl, b3⟩
     have B3 := hid (below_up B2.out b3)
     clear b3
     go_wp2_with fail
     go_ret3
     exact post_no _ _ HF.out (by decide) B3.out
   rw [if_neg (by decide)] at hu
   clear h3
   have HF := hid hu
   clear hu
   go_enter Tryz.func144, Tryz.ntmps144
   go_wp2_with fail
   refine (CG.out _ (HR.out.below B0.out)).mono ?_
   rintro e w1 ⟨rfl, b1⟩
   have B1 := hid (below_up B0.out b1)
   clear b1
   go_wp2_with fail
   refine (CS.out _ (HR.out.below B1.out)).mono ?_
   rintro e w2 ⟨rfl, b2⟩
   have B2 := hid (below_up B1.out b2)
   clear b2
   go_wp2_with fail
   go_ret3
   exact post_no _ _ HF.out (by decide) B2.out
 rw [if_neg (by decide)] at hu
 clear h2 h3
 have HF := hid hu
 clear hu
 go_enter Tryz.func144, Tryz.ntmps144
 go_wp2_with fail
 refine (CG.out _ (HR.out.below B0.out)).mono ?_
 rintro e w1 ⟨rfl, b1⟩
 have B1 := hid (below_up B0.out b1)
 clear b1
 go_wp2_with fail
 go_ret3
 exact post_no _ _ HF.out (by decide) B1.out
theorem timesQ1_any (s t : ByteArray) (hs : s.size ≤ 1099511627776) (ht : t.size ≤ 1099511627776) (w : World) (hR : Ready w) (n d : ByteArray) (hn : n.size ≤ 1099511627776) (hd : d.size ≤ 1099511627776) (P Q : Nat) (hc : ∀ W, Below w.heap.size w W → W.cell? ⟨P, 0, none⟩ = some (.string n) ∧ W.cell? ⟨Q, 0, none⟩ = some (.string d)) :
 Calls Tryz.prog 118 #[.string s, .string t, .pointer (some ⟨P, 0, none⟩), .pointer (some ⟨Q, 0, none⟩)] w (StepPost (timesF n d s t) w) := by
 have hu : timesF n d s t = if opZ (· * ·) s n = 0 then (if opZ (· * ·) t d = 0 then some (opT (· * ·) s n, opT (· * ·) t d) else none) else none := rfl
 have cs := fun W (h : Ready W) => mul_i s n hs hn W h
 have ct := fun W (h : Ready W) => mul_i t d ht hd W h
 have h1 := opZ_cases (· * ·) s n
 have h2 := opZ_cases (· * ·) t d
 obtain ⟨p, hp⟩ : ∃ x, opZ (· * ·) s n = x := ⟨_, rfl⟩
 obtain ⟨q, hq⟩ : ∃ x, opZ (· * ·) t d = x := ⟨_, rfl⟩
 obtain ⟨S, hS⟩ : ∃ x, opT (· * ·) s n = x := ⟨_, rfl⟩
 obtain ⟨T, hT⟩ : ∃ x, opT (· * ·) t d = x := ⟨_, rfl⟩
 obtain ⟨O, hO⟩ : ∃ x, timesF n d s t = x := ⟨_, rfl⟩
 rw [hp, hS] at cs
 rw [hp] at h1
 rw [hq, hT] at ct
 rw [hq] at h2
 rw [hO, hp, hq, hS, hT] at hu
 rw [hO]
 have CS := hid cs; have CT := hid ct; have HR := hid hR; have B0 := hid (Below.refl w.heap.size w); have HC := hid hc
 obtain ⟨cp0, cq0⟩ := hc w (Below.refl _ _)
 clear cs ct hR hp hq hS hT hO hs ht hn hd hc
 rcases h1 with rfl | rfl
 · rw [if_pos rfl] at hu
   rcases h2 with rfl | rfl
   · rw [if_pos rfl] at hu
     have HF := hid hu
     clear hu
     go_enter Tryz.func118, Tryz.ntmps118
     go_wp2_with fail
     refine (CS.out _ (HR.out.below B0.out)).mono ?_
     rintro e w1 ⟨rfl, b1⟩
     have B1 := hid (below_up B0.out b1)
     clear b1
     obtain ⟨cp1, cq1⟩ := HC.out _ B1.out
     clear cp0 cq0
     go_wp2_with fail
     refine (CT.out _ (HR.out.below B1.out)).mono ?_
     rintro e w2 ⟨rfl, b2⟩
     have B2 := hid (below_up B1.out b2)
     clear b2
     obtain ⟨cp2, cq2⟩ := HC.out _ B2.out
     clear cp1 cq1
     go_wp2_with fail
     go_ret3
     exact post_yes HF.out B2.out
   rw [if_neg (by decide)] at hu
   have HF := hid hu
   clear hu
   go_enter Tryz.func118, Tryz.ntmps118
   go_wp2_with fail
   refine (CS.out _ (HR.out.below B0.out)).mono ?_
   rintro e w1 ⟨rfl, b1⟩
   have B1 := hid (below_up B0.out b1)
   clear b1
   obtain ⟨cp1, cq1⟩ := HC.out _ B1.out
   clear cp0 cq0
   go_wp2_with fail
   refine (CT.out _ (HR.out.below B1.out)).mono ?_
   rintro e w2 ⟨rfl, b2⟩
   have B2 := hid (below_up B1.out b2)
   clear b2
   obtain ⟨cp2, cq2⟩ := HC.out _ B2.out
   clear cp1 cq1
   go_wp2_with fail
   go_ret3
   exact post_no _ _ HF.out (by decide) B2.out
 rw [if_neg (by decide)] at hu
 clear h2
 have HF := hid hu
 clear hu
 go_enter Tryz.func118, Tryz.ntmps118
 go_wp2_with fail
 refine (CS.out _ (HR.out.below B0.out)).mono ?_
 rintro e w1 ⟨rfl, b1⟩
 have B1 := hid (below_up B0.out b1)
 clear b1
 obtain ⟨cp1, cq1⟩ := HC.out _ B1.out
 clear cp0 cq0
 go_wp2_with fail
 go_ret3
 exact post_no _ _ HF.out (by decide) B1.out
theorem with1_add (s t : ByteArray) (hs : s.size ≤ 1099511627776) (w : World) (hR : Ready w) (n d : ByteArray) (hn : n.size ≤ 1099511627776) (hd : d.size ≤ 1099511627776) (P Q K : Nat) (hc : ∀ W, Below w.heap.size w W → W.cell? ⟨P, 0, none⟩ = some (.string n) ∧ W.cell? ⟨Q, 0, none⟩ = some (.string d) ∧ W.cell? ⟨K, 0, none⟩ = some (.func (.func 90) #[] #[])) :
 Calls Tryz.prog 120 #[.string s, .string t, .pointer (some ⟨P, 0, none⟩), .pointer (some ⟨Q, 0, none⟩), .pointer (some ⟨K, 0, none⟩)] w (StepPost (withF (· + ·) n d s t) w) := by
 have hu : withF (· + ·) n d s t = if opZ (· * ·) n d = 0 then (if opZ (· + ·) s (opT (· * ·) n d) = 0 then some (opT (· + ·) s (opT (· * ·) n d), t) else none) else none := rfl
 have cs := fun W (h : Ready W) => mul_i n d hn hd W h
 have ct := fun W (h : Ready W) => add_i s (opT (· * ·) n d) hs (opT_size _ _ _) W h
 have h1 := opZ_cases (· * ·) n d
 have h2 := opZ_cases (· + ·) s (opT (· * ·) n d)
 obtain ⟨p, hp⟩ : ∃ x, opZ (· * ·) n d = x := ⟨_, rfl⟩
 obtain ⟨S, hS⟩ : ∃ x, opT (· * ·) n d = x := ⟨_, rfl⟩
 rw [hS] at ct h2
 rw [hp, hS] at cs
 rw [hp] at h1
 rw [hp, hS] at hu
 obtain ⟨q, hq⟩ : ∃ x, opZ (· + ·) s S = x := ⟨_, rfl⟩
 obtain ⟨T, hT⟩ : ∃ x, opT (· + ·) s S = x := ⟨_, rfl⟩
 obtain ⟨O, hO⟩ : ∃ x, withF (· + ·) n d s t = x := ⟨_, rfl⟩
 rw [hq, hT] at ct
 rw [hq] at h2
 rw [hO, hq, hT] at hu
 rw [hO]
 have CS := hid cs; have CT := hid ct; have HR := hid hR; have B0 := hid (Below.refl w.heap.size w); have HC := hid hc
 obtain ⟨cp0, cq0, ck0⟩ := hc w (Below.refl _ _)
 clear cs ct hR hp hq hS hT hO hs hn hd hc
 rcases h1 with rfl | rfl
 · rw [if_pos rfl] at hu
   rcases h2 with rfl | rfl
   · rw [if_pos rfl] at hu
     have HF := hid hu
     clear hu
     go_enter Tryz.func120, Tryz.ntmps120
     go_wp2_with fail
     refine (CS.out _ (HR.out.below B0.out)).mono ?_
     rintro e w1 ⟨rfl, b1⟩
     have B1 := hid (below_up B0.out b1)
     clear b1
     obtain ⟨cp1, cq1, ck1⟩ := HC.out _ B1.out
     clear cp0 cq0 ck0
     go_wp2_with fail
     refine (CT.out _ (HR.out.below B1.out)).mono ?_
     rintro e w2 ⟨rfl, b2⟩
     have B2 := hid (below_up B1.out b2)
     clear b2
     obtain ⟨cp2, cq2, ck2⟩ := HC.out _ B2.out
     clear cp1 cq1 ck1
     go_wp2_with fail
     go_ret3
     exact post_yes HF.out B2.out
   rw [if_neg (by decide)] at hu
   have HF := hid hu
   clear hu
   go_enter Tryz.func120, Tryz.ntmps120
   go_wp2_with fail
   refine (CS.out _ (HR.out.below B0.out)).mono ?_
   rintro e w1 ⟨rfl, b1⟩
   have B1 := hid (below_up B0.out b1)
   clear b1
   obtain ⟨cp1, cq1, ck1⟩ := HC.out _ B1.out
   clear cp0 cq0 ck0
   go_wp2_with fail
   refine (CT.out _ (HR.out.below B1.out)).mono ?_
   rintro e w2 ⟨rfl, b2⟩
   have B2 := hid (below_up B1.out b2)
   clear b2
   obtain ⟨cp2, cq2, ck2⟩ := HC.out _ B2.out
   clear cp1 cq1 ck1
   go_wp2_with fail
   go_ret3
   exact post_no _ _ HF.out (by decide) B2.out
 rw [if_neg (by decide)] at hu
 clear h2
 have HF := hid hu
 clear hu
 go_enter Tryz.func120, Tryz.ntmps120
 go_wp2_with fail
 refine (CS.out _ (HR.out.below B0.out)).mono ?_
 rintro e w1 ⟨rfl, b1⟩
 have B1 := hid (below_up B0.out b1)
 clear b1
 obtain ⟨cp1, cq1, ck1⟩ := HC.out _ B1.out
 clear cp0 cq0 ck0
 go_wp2_with fail
 go_ret3
 exact post_no _ _ HF.out (by decide) B1.out
theorem with1_sub (s t : ByteArray) (hs : s.size ≤ 1099511627776) (w : World) (hR : Ready w) (n d : ByteArray) (hn : n.size ≤ 1099511627776) (hd : d.size ≤ 1099511627776) (P Q K : Nat) (hc : ∀ W, Below w.heap.size w W → W.cell? ⟨P, 0, none⟩ = some (.string n) ∧ W.cell? ⟨Q, 0, none⟩ = some (.string d) ∧ W.cell? ⟨K, 0, none⟩ = some (.func (.func 93) #[] #[])) :
 Calls Tryz.prog 120 #[.string s, .string t, .pointer (some ⟨P, 0, none⟩), .pointer (some ⟨Q, 0, none⟩), .pointer (some ⟨K, 0, none⟩)] w (StepPost (withF (· - ·) n d s t) w) := by
 have hu : withF (· - ·) n d s t = if opZ (· * ·) n d = 0 then (if opZ (· - ·) s (opT (· * ·) n d) = 0 then some (opT (· - ·) s (opT (· * ·) n d), t) else none) else none := rfl
 have cs := fun W (h : Ready W) => mul_i n d hn hd W h
 have ct := fun W (h : Ready W) => sub_i s (opT (· * ·) n d) hs (opT_size _ _ _) W h
 have h1 := opZ_cases (· * ·) n d
 have h2 := opZ_cases (· - ·) s (opT (· * ·) n d)
 obtain ⟨p, hp⟩ : ∃ x, opZ (· * ·) n d = x := ⟨_, rfl⟩
 obtain ⟨S, hS⟩ : ∃ x, opT (· * ·) n d = x := ⟨_, rfl⟩
 rw [hS] at ct h2
 rw [hp, hS] at cs
 rw [hp] at h1
 rw [hp, hS] at hu
 obtain ⟨q, hq⟩ : ∃ x, opZ (· - ·) s S = x := ⟨_, rfl⟩
 obtain ⟨T, hT⟩ : ∃ x, opT (· - ·) s S = x := ⟨_, rfl⟩
 obtain ⟨O, hO⟩ : ∃ x, withF (· - ·) n d s t = x := ⟨_, rfl⟩
 rw [hq, hT] at ct
 rw [hq] at h2
 rw [hO, hq, hT] at hu
 rw [hO]
 have CS := hid cs; have CT := hid ct; have HR := hid hR; have B0 := hid (Below.refl w.heap.size w); have HC := hid hc
 obtain ⟨cp0, cq0, ck0⟩ := hc w (Below.refl _ _)
 clear cs ct hR hp hq hS hT hO hs hn hd hc
 rcases h1 with rfl | rfl
 · rw [if_pos rfl] at hu
   rcases h2 with rfl | rfl
   · rw [if_pos rfl] at hu
     have HF := hid hu
     clear hu
     go_enter Tryz.func120, Tryz.ntmps120
     go_wp2_with fail
     refine (CS.out _ (HR.out.below B0.out)).mono ?_
     rintro e w1 ⟨rfl, b1⟩
     have B1 := hid (below_up B0.out b1)
     clear b1
     obtain ⟨cp1, cq1, ck1⟩ := HC.out _ B1.out
     clear cp0 cq0 ck0
     go_wp2_with fail
     refine (CT.out _ (HR.out.below B1.out)).mono ?_
     rintro e w2 ⟨rfl, b2⟩
     have B2 := hid (below_up B1.out b2)
     clear b2
     obtain ⟨cp2, cq2, ck2⟩ := HC.out _ B2.out
     clear cp1 cq1 ck1
     go_wp2_with fail
     go_ret3
     exact post_yes HF.out B2.out
   rw [if_neg (by decide)] at hu
   have HF := hid hu
   clear hu
   go_enter Tryz.func120, Tryz.ntmps120
   go_wp2_with fail
   refine (CS.out _ (HR.out.below B0.out)).mono ?_
   rintro e w1 ⟨rfl, b1⟩
   have B1 := hid (below_up B0.out b1)
   clear b1
   obtain ⟨cp1, cq1, ck1⟩ := HC.out _ B1.out
   clear cp0 cq0 ck0
   go_wp2_with fail
   refine (CT.out _ (HR.out.below B1.out)).mono ?_
   rintro e w2 ⟨rfl, b2⟩
   have B2 := hid (below_up B1.out b2)
   clear b2
   obtain ⟨cp2, cq2, ck2⟩ := HC.out _ B2.out
   clear cp1 cq1 ck1
   go_wp2_with fail
   go_ret3
   exact post_no _ _ HF.out (by decide) B2.out
 rw [if_neg (by decide)] at hu
 clear h2
 have HF := hid hu
 clear hu
 go_enter Tryz.func120, Tryz.ntmps120
 go_wp2_with fail
 refine (CS.out _ (HR.out.below B0.out)).mono ?_
 rintro e w1 ⟨rfl, b1⟩
 have B1 := hid (below_up B0.out b1)
 clear b1
 obtain ⟨cp1, cq1, ck1⟩ := HC.out _ B1.out
 clear cp0 cq0 ck0
 go_wp2_with fail
 go_ret3
 exact post_no _ _ HF.out (by decide) B1.out
theorem enters {f : Nat} {fn : Func} (h : Tryz.prog.funcs[f]? = some fn) (h1 : fn.name ≠ "runtime.NumGoroutine") (h2 : fn.body.isNone = false) (args : Array Value) (W : World) : (callFunc f args).run Tryz.prog W = .ok (.enter f args) W := by
 have h3 : fn.body ≠ none := fun e => by rw [e] at h2; cases h2
 simp [callFunc, go_sem, h, h1, h3]
def StepRet (f : StepF) (w : World) (e : Ending) (w' : World) : Prop := ∃ v, e = .returned v ∧ StepIs w' v f ∧ Below w.heap.size w w'
theorem unsigned_is (w : World) (hR : Ready w) : StepIs w (.func (.func 143) #[] #[]) unsF :=
 ⟨uns_small, _, #[], rfl, enters Tryz.func143 (by decide) rfl, fun s t W hs ht b => unsigned_any s t hs ht W (hR.below b)⟩
theorem lowest_is (w : World) (hR : Ready w) : StepIs w (.func (.func 144) #[] #[]) lowF :=
 ⟨low_small, _, #[], rfl, enters Tryz.func144 (by decide) rfl, fun s t W hs ht b => lowest_any s t hs ht W (hR.below b)⟩
theorem timesQ_any (n d : ByteArray) (hn : n.size ≤ 1099511627776) (hd : d.size ≤ 1099511627776) (w : World) (hR : Ready w) :
 Calls Tryz.prog 88 #[.string n, .string d] w (StepRet (timesF n d) w) := by
 obtain ⟨W1, hW1⟩ : ∃ W, w.alloc (.cells #[.string n] 9) = W := ⟨_, rfl⟩
 obtain ⟨W2, hW2⟩ : ∃ W, W1.alloc (.cells #[.string d] 9) = W := ⟨_, rfl⟩
 have b1 : Below w.heap.size w W1 := by rw [← hW1]; exact (Below.refl _ _).alloc (Nat.le_refl _) _
 have s1 : W1.heap.size = w.heap.size + 1 := by rw [← hW1]; simp
 have k1 := heap_alloc_new w (.cells #[.string n] 9)
 rw [hW1] at k1
 have b2 : Below W1.heap.size W1 W2 := by rw [← hW2]; exact (Below.refl _ _).alloc (Nat.le_refl _) _
 have s2 : W2.heap.size = W1.heap.size + 1 := by rw [← hW2]; simp
 have k2 := heap_alloc_new W1 (.cells #[.string d] 9)
 rw [hW2] at k2
 have hc : ∀ W, Below W2.heap.size W2 W → W.cell? ⟨w.heap.size, 0, none⟩ = some (.string n) ∧ W.cell? ⟨W1.heap.size, 0, none⟩ = some (.string d) := fun W b => by
  have e1 := (Below.block (below_up b2 b) (w.heap.size) (by rw [s1]; omega)).trans k1
  have e2 := (Below.block b (W1.heap.size) (by rw [s2]; omega)).trans k2
  exact ⟨by simp [World.cell?, e1], by simp [World.cell?, e2]⟩
 have hb := (below_up b1 b2)
 have his : StepIs W2 (.func (.func 118) #[] #[.pointer (some ⟨w.heap.size, 0, none⟩), .pointer (some ⟨W1.heap.size, 0, none⟩)]) (timesF n d) :=
  ⟨times_small n d, _, _, rfl, enters Tryz.func118 (by decide) rfl, fun s t W hs ht b => timesQ1_any s t hs ht W ((hR.below hb).below b) n d hn hd _ _ (fun W' b' => hc W' (below_up b b'))⟩
 have HI := hid his; have HB := hid hb; have H1 := hid hW1; have H2 := hid hW2
 clear his hc hb b2 hW2 k2 s2 b1 hW1 k1 s1 hR hn hd
 go_enter Tryz.func88, Tryz.ntmps88
 go_wp2_with (first | rw [H1.out] | rw [H2.out])
 go_ret
 exact ⟨_, rfl, HI.out, HB.out⟩
theorem withQ_add (n d : ByteArray) (hn : n.size ≤ 1099511627776) (hd : d.size ≤ 1099511627776) (w : World) (hR : Ready w) :
 Calls Tryz.prog 89 #[.func (.func 90) #[] #[], .string n, .string d] w (StepRet (withF (· + ·) n d) w) := by
 obtain ⟨W1, hW1⟩ : ∃ W, w.alloc (.cells #[.func (.func 90) #[] #[]] 107) = W := ⟨_, rfl⟩
 obtain ⟨W2, hW2⟩ : ∃ W, W1.alloc (.cells #[.string n] 9) = W := ⟨_, rfl⟩
 obtain ⟨W3, hW3⟩ : ∃ W, W2.alloc (.cells #[.string d] 9) = W := ⟨_, rfl⟩
 have b1 : Below w.heap.size w W1 := by rw [← hW1]; exact (Below.refl _ _).alloc (Nat.le_refl _) _
 have s1 : W1.heap.size = w.heap.size + 1 := by rw [← hW1]; simp
 have k1 := heap_alloc_new w (.cells #[.func (.func 90) #[] #[]] 107)
 rw [hW1] at k1
 have b2 : Below W1.heap.size W1 W2 := by rw [← hW2]; exact (Below.refl _ _).alloc (Nat.le_refl _) _
 have s2 : W2.heap.size = W1.heap.size + 1 := by rw [← hW2]; simp
 have k2 := heap_alloc_new W1 (.cells #[.string n] 9)
 rw [hW2] at k2
 have b3 : Below W2.heap.size W2 W3 := by rw [← hW3]; exact (Below.refl _ _).alloc (Nat.le_refl _) _
 have s3 : W3.heap.size = W2.heap.size + 1 := by rw [← hW3]; simp
 have k3 := heap_alloc_new W2 (.cells #[.string d] 9)
 rw [hW3] at k3
 have hc : ∀ W, Below W3.heap.size W3 W → W.cell? ⟨W1.heap.size, 0, none⟩ = some (.string n) ∧ W.cell? ⟨W2.heap.size, 0, none⟩ = some (.string d) ∧ W.cell? ⟨w.heap.size, 0, none⟩ = some (.func (.func 90) #[] #[]) := fun W b => by
  have e1 := (Below.block (below_up b2 (below_up b3 b)) (w.heap.size) (by rw [s1]; omega)).trans k1
  have e2 := (Below.block (below_up b3 b) (W1.heap.size) (by rw [s2]; omega)).trans k2
  have e3 := (Below.block b (W2.heap.size) (by rw [s3]; omega)).trans k3
  exact ⟨by simp [World.cell?, e2], by simp [World.cell?, e3], by simp [World.cell?, e1]⟩
 have hb := (below_up b1 (below_up b2 b3))
 have his : StepIs W3 (.func (.func 120) #[] #[.pointer (some ⟨W1.heap.size, 0, none⟩), .pointer (some ⟨W2.heap.size, 0, none⟩), .pointer (some ⟨w.heap.size, 0, none⟩)]) (withF (· + ·) n d) :=
  ⟨with_small _ n d, _, _, rfl, enters Tryz.func120 (by decide) rfl, fun s t W hs _ b => with1_add s t hs W ((hR.below hb).below b) n d hn hd _ _ _ (fun W' b' => hc W' (below_up b b'))⟩
 have HI := hid his; have HB := hid hb; have H1 := hid hW1; have H2 := hid hW2; have H3 := hid hW3
 clear his hc hb b3 hW3 k3 s3 b2 hW2 k2 s2 b1 hW1 k1 s1 hR hn hd
 go_enter Tryz.func89, Tryz.ntmps89
 go_wp2_with (first | rw [H1.out] | rw [H2.out] | rw [H3.out])
 go_ret
 exact ⟨_, rfl, HI.out, HB.out⟩
theorem withQ_sub (n d : ByteArray) (hn : n.size ≤ 1099511627776) (hd : d.size ≤ 1099511627776) (w : World) (hR : Ready w) :
 Calls Tryz.prog 89 #[.func (.func 93) #[] #[], .string n, .string d] w (StepRet (withF (· - ·) n d) w) := by
 obtain ⟨W1, hW1⟩ : ∃ W, w.alloc (.cells #[.func (.func 93) #[] #[]] 107) = W := ⟨_, rfl⟩
 obtain ⟨W2, hW2⟩ : ∃ W, W1.alloc (.cells #[.string n] 9) = W := ⟨_, rfl⟩
 obtain ⟨W3, hW3⟩ : ∃ W, W2.alloc (.cells #[.string d] 9) = W := ⟨_, rfl⟩
 have b1 : Below w.heap.size w W1 := by rw [← hW1]; exact (Below.refl _ _).alloc (Nat.le_refl _) _
 have s1 : W1.heap.size = w.heap.size + 1 := by rw [← hW1]; simp
 have k1 := heap_alloc_new w (.cells #[.func (.func 93) #[] #[]] 107)
 rw [hW1] at k1
 have b2 : Below W1.heap.size W1 W2 := by rw [← hW2]; exact (Below.refl _ _).alloc (Nat.le_refl _) _
 have s2 : W2.heap.size = W1.heap.size + 1 := by rw [← hW2]; simp
 have k2 := heap_alloc_new W1 (.cells #[.string n] 9)
 rw [hW2] at k2
 have b3 : Below W2.heap.size W2 W3 := by rw [← hW3]; exact (Below.refl _ _).alloc (Nat.le_refl _) _
 have s3 : W3.heap.size = W2.heap.size + 1 := by rw [← hW3]; simp
 have k3 := heap_alloc_new W2 (.cells #[.string d] 9)
 rw [hW3] at k3
 have hc : ∀ W, Below W3.heap.size W3 W → W.cell? ⟨W1.heap.size, 0, none⟩ = some (.string n) ∧ W.cell? ⟨W2.heap.size, 0, none⟩ = some (.string d) ∧ W.cell? ⟨w.heap.size, 0, none⟩ = some (.func (.func 93) #[] #[]) := fun W b => by
  have e1 := (Below.block (below_up b2 (below_up b3 b)) (w.heap.size) (by rw [s1]; omega)).trans k1
  have e2 := (Below.block (below_up b3 b) (W1.heap.size) (by rw [s2]; omega)).trans k2
  have e3 := (Below.block b (W2.heap.size) (by rw [s3]; omega)).trans k3
  exact ⟨by simp [World.cell?, e2], by simp [World.cell?, e3], by simp [World.cell?, e1]⟩
 have hb := (below_up b1 (below_up b2 b3))
 have his : StepIs W3 (.func (.func 120) #[] #[.pointer (some ⟨W1.heap.size, 0, none⟩), .pointer (some ⟨W2.heap.size, 0, none⟩), .pointer (some ⟨w.heap.size, 0, none⟩)]) (withF (· - ·) n d) :=
  ⟨with_small _ n d, _, _, rfl, enters Tryz.func120 (by decide) rfl, fun s t W hs _ b => with1_sub s t hs W ((hR.below hb).below b) n d hn hd _ _ _ (fun W' b' => hc W' (below_up b b'))⟩
 have HI := hid his; have HB := hid hb; have H1 := hid hW1; have H2 := hid hW2; have H3 := hid hW3
 clear his hc hb b3 hW3 k3 s3 b2 hW2 k2 s2 b1 hW1 k1 s1 hR hn hd
 go_enter Tryz.func89, Tryz.ntmps89
 go_wp2_with (first | rw [H1.out] | rw [H2.out] | rw [H3.out])
 go_ret
 exact ⟨_, rfl, HI.out, HB.out⟩
theorem valid_q (n d : ByteArray) (hn : n.size ≤ 1099511627776) (hd : d.size ≤ 1099511627776) (w : World) (hR : Ready w) :
 Calls Tryz.prog 80 #[.agg #[.string n, .string d]] w fun e w' => e = .returned (.bool (validQ n d)) ∧ Below w.heap.size w w' := by
 obtain ⟨W0, hW0, b0, hcc⟩ := box_one w n d
 have HW := hid hW0; have HC := hid hcc; have B0 := hid b0
 have HR := hid (hR.below b0)
 have P0 := hid (Below.refl W0.heap.size W0)
 clear hW0 hcc b0
 clear hR
 have cg := fun W (h : Ready W) => gcd_i n d hn hd W h
 have cm := fun W (h : Ready W) => cmp_i d ⟨#[48]⟩ hd (by decide) W h
 rcases opZ_cases gcdI n d with hz | hz
 · obtain ⟨v1, v2, _⟩ := (opZ_iff gcdI n d).1 hz
   have hgt := (gcd_one v1 v2).2
   rw [hz] at cg
   rw [cmp_zero v2] at cm
   have hge : ((opT gcdI n d).toList == (⟨#[49]⟩ : ByteArray).toList) = decide (opT gcdI n d = ⟨#[49]⟩) := by rw [str_eq_iff]
   rw [list49] at hge
   by_cases hg : opT gcdI n d = ⟨#[49]⟩
   · rw [decide_eq_true hg] at hge
     have hv : validQ n d = decide (0 < numB d) := by
      unfold validQ
      rw [v1, v2, decide_eq_true (hgt.1 hg), Bool.and_true, Bool.true_and, Bool.true_and]
     rw [hv]
     generalize opT gcdI n d = G at *
     clear hv hgt v1 v2 hg hz
     rcases Int.lt_trichotomy (numB d) 0 with h3 | h3 | h3
     · rw [sgZ_lt h3] at cm
       rw [decide_eq_false (by omega)]
       have CG := hid cg; have CM := hid cm
       clear cg cm h3
       go_enter Tryz.func80, Tryz.ntmps80
       obtain ⟨ca0, cb0, cc0, cd0⟩ := HC.out _ (Below.refl _ _)
       go_wp2_with (rw [HW.out])
       refine (CG.out _ (HR.out.below P0.out)).mono ?_
       rintro e w1 ⟨rfl, b1⟩
       have P1 := hid (below_up P0.out b1)
       obtain ⟨ca1, cb1, cc1, cd1⟩ := HC.out _ P1.out
       clear b1 P0 ca0 cb0 cc0 cd0 
       go_wp2_with fail
       refine (CM.out _ (HR.out.below P1.out)).mono ?_
       rintro e w2 ⟨rfl, b2⟩
       have P2 := hid (below_up P1.out b2)
       obtain ⟨ca2, cb2, cc2, cd2⟩ := HC.out _ P2.out
       clear b2 P1 ca1 cb1 cc1 cd1 
       go_wp2
       go_ret
       exact ⟨rfl, below_up B0.out P2.out⟩
     · rw [show sgZ (numB d) 0 = 0 by rw [h3]; rfl] at cm
       rw [decide_eq_false (by omega)]
       have CG := hid cg; have CM := hid cm
       clear cg cm h3
       go_enter Tryz.func80, Tryz.ntmps80
       obtain ⟨ca0, cb0, cc0, cd0⟩ := HC.out _ (Below.refl _ _)
       go_wp2_with (rw [HW.out])
       refine (CG.out _ (HR.out.below P0.out)).mono ?_
       rintro e w1 ⟨rfl, b1⟩
       have P1 := hid (below_up P0.out b1)
       obtain ⟨ca1, cb1, cc1, cd1⟩ := HC.out _ P1.out
       clear b1 P0 ca0 cb0 cc0 cd0 
       go_wp2_with fail
       refine (CM.out _ (HR.out.below P1.out)).mono ?_
       rintro e w2 ⟨rfl, b2⟩
       have P2 := hid (below_up P1.out b2)
       obtain ⟨ca2, cb2, cc2, cd2⟩ := HC.out _ P2.out
       clear b2 P1 ca1 cb1 cc1 cd1 
       go_wp2
       go_ret
       exact ⟨rfl, below_up B0.out P2.out⟩
     rw [sgZ_gt h3] at cm
     rw [decide_eq_true (by omega)]
     have CG := hid cg; have CM := hid cm
     clear cg cm h3
     go_enter Tryz.func80, Tryz.ntmps80
     obtain ⟨ca0, cb0, cc0, cd0⟩ := HC.out _ (Below.refl _ _)
     go_wp2_with (rw [HW.out])
     refine (CG.out _ (HR.out.below P0.out)).mono ?_
     rintro e w1 ⟨rfl, b1⟩
     have P1 := hid (below_up P0.out b1)
     obtain ⟨ca1, cb1, cc1, cd1⟩ := HC.out _ P1.out
     clear b1 P0 ca0 cb0 cc0 cd0 
     go_wp2_with fail
     refine (CM.out _ (HR.out.below P1.out)).mono ?_
     rintro e w2 ⟨rfl, b2⟩
     have P2 := hid (below_up P1.out b2)
     obtain ⟨ca2, cb2, cc2, cd2⟩ := HC.out _ P2.out
     clear b2 P1 ca1 cb1 cc1 cd1 
     go_wp2
     go_ret
     exact ⟨rfl, below_up B0.out P2.out⟩
   rw [decide_eq_false hg] at hge
   have hv : validQ n d = false := by
    unfold validQ
    rw [decide_eq_false (fun h => hg (hgt.2 h)), Bool.and_false, Bool.and_false, Bool.and_false]
   rw [hv]
   generalize opT gcdI n d = G at *
   clear hv hgt v1 v2 hg hz cm
   have CG := hid cg
   clear cg
   go_enter Tryz.func80, Tryz.ntmps80
   obtain ⟨ca0, cb0, cc0, cd0⟩ := HC.out _ (Below.refl _ _)
   go_wp2_with (rw [HW.out])
   refine (CG.out _ (HR.out.below P0.out)).mono ?_
   rintro e w1 ⟨rfl, b1⟩
   have P1 := hid (below_up P0.out b1)
   obtain ⟨ca1, cb1, cc1, cd1⟩ := HC.out _ P1.out
   clear b1 P0 ca0 cb0 cc0 cd0 
   go_wp2
   go_ret
   exact ⟨rfl, below_up B0.out P1.out⟩
 have hv : validQ n d = false := by
  rw [Bool.eq_false_iff]
  intro h
  have h2 := validQ_parts h
  have := (gcd_one h2.1 h2.2.1).1
  omega
 rw [hv]
 rw [hz] at cg
 generalize opT gcdI n d = G at *
 clear hv hz cm
 have CG := hid cg
 clear cg
 go_enter Tryz.func80, Tryz.ntmps80
 obtain ⟨ca0, cb0, cc0, cd0⟩ := HC.out _ (Below.refl _ _)
 go_wp2_with (rw [HW.out])
 refine (CG.out _ (HR.out.below P0.out)).mono ?_
 rintro e w1 ⟨rfl, b1⟩
 have P1 := hid (below_up P0.out b1)
 obtain ⟨ca1, cb1, cc1, cd1⟩ := HC.out _ P1.out
 clear b1 P0 ca0 cb0 cc0 cd0 
 go_wp2
 go_ret
 exact ⟨rfl, below_up B0.out P1.out⟩
theorem buildQ_any (s t : ByteArray) (hs : s.size ≤ 1099511627776) (ht : t.size ≤ 1099511627776) (v : Value) (vals : List Value) (fs : List StepF) (hl : vals.length ≤ 1000) (O : Option (ByteArray × ByteArray)) (hO : chain (fs ++ [unsF, lowF]) s t = O) (w : World) (hR : Ready w) (hv : StepsAt w v vals) (hf : StepsIs w vals fs) :
 Calls Tryz.prog 117 #[.string s, .string t, v] w fun e w' => e = .returned (.tuple #[.agg #[.string (pairN O), .string (pairD O)], .int .i64 (pairE O)]) ∧ Below w.heap.size w w' := by
 have := build_any s t hs ht v vals fs w hv hf hl (unsigned_is w hR) (lowest_is w hR)
 rw [hO] at this
 exact this
theorem combine_any (an ad bn bd : ByteArray) (h1 : an.size ≤ 1099511627776) (h2 : ad.size ≤ 1099511627776) (h3 : bn.size ≤ 1099511627776) (h4 : bd.size ≤ 1099511627776) (v : Value) (vals : List Value) (fs : List StepF) (hl : vals.length ≤ 1000) (O : Option (ByteArray × ByteArray)) (hO : (if bothB an ad bn bd then chain (fs ++ [unsF, lowF]) an ad else none) = O) (w : World) (hR : Ready w) (hv : StepsAt w v vals) (hf : StepsIs w vals fs) :
 Calls Tryz.prog 87 #[.agg #[.string an, .string ad], .agg #[.string bn, .string bd], v] w fun e w' => e = .returned (.tuple #[.agg #[.string (pairN O), .string (pairD O)], .int .i64 (pairE O)]) ∧ Below w.heap.size w w' := by
 obtain ⟨W0, hW0, b0, hcc⟩ := box_three w an ad bn bd ⟨#[]⟩ ⟨#[]⟩
 have HW := hid hW0; have HC := hid hcc; have B0 := hid b0
 have HR := hid (hR.below b0)
 have P0 := hid (Below.refl W0.heap.size W0)
 clear hW0 hcc b0
 clear hR
 have va := fun W (h : Ready W) => valid_q an ad h1 h2 W h
 have vb := fun W (h : Ready W) => valid_q bn bd h3 h4 W h
 have HVV := hid (fun W (b : Below W0.heap.size W0 W) => hv.below (below_up B0.out b))
 have HFF := hid (fun W (b : Below W0.heap.size W0 W) => hf.below (below_up B0.out b))
 clear hv hf
 unfold bothB at hO
 cases e1 : validQ an ad with
 | false =>
  rw [e1] at hO va
  subst hO
  have VA := hid va; have VB := hid vb
  clear va vb e1
  go_enter Tryz.func87, Tryz.ntmps87
  obtain ⟨⟨ca0, cb0, cc0, cd0⟩, ⟨ce0, cf0, cg0, ch0⟩, ⟨ci0, cj0, ck0, cl0⟩⟩ := HC.out _ (Below.refl _ _)
  go_wp2_with (rw [HW.out])
  refine (VA.out _ (HR.out.below P0.out)).mono ?_
  rintro e w1 ⟨rfl, b1⟩
  have P1 := hid (below_up P0.out b1)
  obtain ⟨⟨ca1, cb1, cc1, cd1⟩, ⟨ce1, cf1, cg1, ch1⟩, ⟨ci1, cj1, ck1, cl1⟩⟩ := HC.out _ P1.out
  clear b1 P0 ca0 cb0 cc0 cd0 ce0 cf0 cg0 ch0 ci0 cj0 ck0 cl0 
  go_wp2_with fail
  exact bodyPost_ret (v := .tuple #[.agg #[.string ⟨#[]⟩, .string ⟨#[]⟩], .int .i64 40]) (by simp [results, Tryz.results87, go_sem, ci1, cj1]) rfl ⟨rfl, rat_done B0.out (by omega) P1.out _ _⟩
 | true =>
  rw [e1, Bool.true_and] at hO
  rw [e1] at va
  cases e2 : validQ bn bd with
  | false =>
   rw [e2] at hO vb
   subst hO
   have VA := hid va; have VB := hid vb
   clear va vb e1 e2
   go_enter Tryz.func87, Tryz.ntmps87
   obtain ⟨⟨ca0, cb0, cc0, cd0⟩, ⟨ce0, cf0, cg0, ch0⟩, ⟨ci0, cj0, ck0, cl0⟩⟩ := HC.out _ (Below.refl _ _)
   go_wp2_with (rw [HW.out])
   refine (VA.out _ (HR.out.below P0.out)).mono ?_
   rintro e w1 ⟨rfl, b1⟩
   have P1 := hid (below_up P0.out b1)
   obtain ⟨⟨ca1, cb1, cc1, cd1⟩, ⟨ce1, cf1, cg1, ch1⟩, ⟨ci1, cj1, ck1, cl1⟩⟩ := HC.out _ P1.out
   clear b1 P0 ca0 cb0 cc0 cd0 ce0 cf0 cg0 ch0 ci0 cj0 ck0 cl0 
   go_wp2_with fail
   refine (VB.out _ (HR.out.below P1.out)).mono ?_
   rintro e w2 ⟨rfl, b2⟩
   have P2 := hid (below_up P1.out b2)
   obtain ⟨⟨ca2, cb2, cc2, cd2⟩, ⟨ce2, cf2, cg2, ch2⟩, ⟨ci2, cj2, ck2, cl2⟩⟩ := HC.out _ P2.out
   clear b2 P1 ca1 cb1 cc1 cd1 ce1 cf1 cg1 ch1 ci1 cj1 ck1 cl1 
   go_wp2_with fail
   exact bodyPost_ret (v := .tuple #[.agg #[.string ⟨#[]⟩, .string ⟨#[]⟩], .int .i64 40]) (by simp [results, Tryz.results87, go_sem, ci2, cj2]) rfl ⟨rfl, rat_done B0.out (by omega) P2.out _ _⟩
  | true =>
   rw [e2, if_pos rfl] at hO
   rw [e2] at vb
   have cb := fun W (h : Ready W) (b : Below W0.heap.size W0 W) => buildQ_any an ad h1 h2 v vals fs hl O hO W h (HVV.out W b) (HFF.out W b)
   generalize pairN O = XN at *
   generalize pairD O = XD at *
   generalize pairE O = XE at *
   have VA := hid va; have VB := hid vb; have CB := hid cb
   clear va vb cb e1 e2 hO hl
   go_enter Tryz.func87, Tryz.ntmps87
   obtain ⟨⟨ca0, cb0, cc0, cd0⟩, ⟨ce0, cf0, cg0, ch0⟩, ⟨ci0, cj0, ck0, cl0⟩⟩ := HC.out _ (Below.refl _ _)
   go_wp2_with (rw [HW.out])
   refine (VA.out _ (HR.out.below P0.out)).mono ?_
   rintro e w1 ⟨rfl, b1⟩
   have P1 := hid (below_up P0.out b1)
   obtain ⟨⟨ca1, cb1, cc1, cd1⟩, ⟨ce1, cf1, cg1, ch1⟩, ⟨ci1, cj1, ck1, cl1⟩⟩ := HC.out _ P1.out
   clear b1 P0 ca0 cb0 cc0 cd0 ce0 cf0 cg0 ch0 ci0 cj0 ck0 cl0 
   go_wp2_with fail
   refine (VB.out _ (HR.out.below P1.out)).mono ?_
   rintro e w2 ⟨rfl, b2⟩
   have P2 := hid (below_up P1.out b2)
   obtain ⟨⟨ca2, cb2, cc2, cd2⟩, ⟨ce2, cf2, cg2, ch2⟩, ⟨ci2, cj2, ck2, cl2⟩⟩ := HC.out _ P2.out
   clear b2 P1 ca1 cb1 cc1 cd1 ce1 cf1 cg1 ch1 ci1 cj1 ck1 cl1 
   go_wp2_with fail
   refine (CB.out _ (HR.out.below P2.out) P2.out).mono ?_
   rintro e w3 ⟨rfl, b3⟩
   have P3 := hid (below_up P2.out b3)
   obtain ⟨⟨ca3, cb3, cc3, cd3⟩, ⟨ce3, cf3, cg3, ch3⟩, ⟨ci3, cj3, ck3, cl3⟩⟩ := HC.out _ P3.out
   clear b3 P2 ca2 cb2 cc2 cd2 ce2 cf2 cg2 ch2 ci2 cj2 ck2 cl2 
   go_wp2_with fail
   exact bodyPost_ret (v := .tuple #[.agg #[.string XN, .string XD], .int .i64 XE]) (by simp [results, Tryz.results87, go_sem, ci3, cj3]) rfl ⟨rfl, rat_done B0.out (by omega) P3.out _ _⟩
theorem RatAt.below {W W' : World} {B : Nat} {n d : ByteArray} (h : RatAt W B n d) (b : Below W.heap.size W W') : RatAt W' B n d := by
 obtain ⟨h1, h2, h3, h4⟩ := h
 have l := World.block_lt_of_cell? W ⟨B, 0, none⟩ h1
 exact ⟨(b.cell (p := ⟨B, 0, none⟩) l).trans h1, (b.cell (p := ⟨B, 1, none⟩) l).trans h2, (b.frozen (p := ⟨B, 0, none⟩) l).trans h3, (b.frozen (p := ⟨B, 1, none⟩) l).trans h4⟩
theorem two_stores {W : World} {A B : Nat} {n d m c x y z u : ByteArray} (hne : A ≠ B) (hA : RatAt W A n d) (hB : RatAt W B m c) :
 RatAt ((((W.setCell ⟨A, 0, none⟩ (.string x)).setCell ⟨A, 1, none⟩ (.string y)).setCell ⟨B, 0, none⟩ (.string z)).setCell ⟨B, 1, none⟩ (.string u)) A x y ∧
 RatAt ((((W.setCell ⟨A, 0, none⟩ (.string x)).setCell ⟨A, 1, none⟩ (.string y)).setCell ⟨B, 0, none⟩ (.string z)).setCell ⟨B, 1, none⟩ (.string u)) B z u := by
 obtain ⟨a1, a2, a3, a4⟩ := hA
 obtain ⟨b1, b2, b3, b4⟩ := hB
 have k00 := World.cell?_setCell_same W ⟨A, 0, none⟩ (.string x) a1
 have k01 := (World.cell?_setCell_other W ⟨A, 0, none⟩ ⟨A, 1, none⟩ (.string x) (by intro e; injection e with e1 e2; omega)).trans a2
 have k02 := (World.cell?_setCell_other W ⟨A, 0, none⟩ ⟨B, 0, none⟩ (.string x) (by intro e; injection e with e1 e2; omega)).trans b1
 have k03 := (World.cell?_setCell_other W ⟨A, 0, none⟩ ⟨B, 1, none⟩ (.string x) (by intro e; injection e with e1 e2; omega)).trans b2
 have k10 := (World.cell?_setCell_other (W.setCell ⟨A, 0, none⟩ (.string x)) ⟨A, 1, none⟩ ⟨A, 0, none⟩ (.string y) (by intro e; injection e with e1 e2; omega)).trans k00
 have k11 := World.cell?_setCell_same (W.setCell ⟨A, 0, none⟩ (.string x)) ⟨A, 1, none⟩ (.string y) k01
 have k12 := (World.cell?_setCell_other (W.setCell ⟨A, 0, none⟩ (.string x)) ⟨A, 1, none⟩ ⟨B, 0, none⟩ (.string y) (by intro e; injection e with e1 e2; omega)).trans k02
 have k13 := (World.cell?_setCell_other (W.setCell ⟨A, 0, none⟩ (.string x)) ⟨A, 1, none⟩ ⟨B, 1, none⟩ (.string y) (by intro e; injection e with e1 e2; omega)).trans k03
 have k20 := (World.cell?_setCell_other ((W.setCell ⟨A, 0, none⟩ (.string x)).setCell ⟨A, 1, none⟩ (.string y)) ⟨B, 0, none⟩ ⟨A, 0, none⟩ (.string z) (by intro e; injection e with e1 e2; omega)).trans k10
 have k21 := (World.cell?_setCell_other ((W.setCell ⟨A, 0, none⟩ (.string x)).setCell ⟨A, 1, none⟩ (.string y)) ⟨B, 0, none⟩ ⟨A, 1, none⟩ (.string z) (by intro e; injection e with e1 e2; omega)).trans k11
 have k22 := World.cell?_setCell_same ((W.setCell ⟨A, 0, none⟩ (.string x)).setCell ⟨A, 1, none⟩ (.string y)) ⟨B, 0, none⟩ (.string z) k12
 have k23 := (World.cell?_setCell_other ((W.setCell ⟨A, 0, none⟩ (.string x)).setCell ⟨A, 1, none⟩ (.string y)) ⟨B, 0, none⟩ ⟨B, 1, none⟩ (.string z) (by intro e; injection e with e1 e2; omega)).trans k13
 have k30 := (World.cell?_setCell_other (((W.setCell ⟨A, 0, none⟩ (.string x)).setCell ⟨A, 1, none⟩ (.string y)).setCell ⟨B, 0, none⟩ (.string z)) ⟨B, 1, none⟩ ⟨A, 0, none⟩ (.string u) (by intro e; injection e with e1 e2; omega)).trans k20
 have k31 := (World.cell?_setCell_other (((W.setCell ⟨A, 0, none⟩ (.string x)).setCell ⟨A, 1, none⟩ (.string y)).setCell ⟨B, 0, none⟩ (.string z)) ⟨B, 1, none⟩ ⟨A, 1, none⟩ (.string u) (by intro e; injection e with e1 e2; omega)).trans k21
 have k32 := (World.cell?_setCell_other (((W.setCell ⟨A, 0, none⟩ (.string x)).setCell ⟨A, 1, none⟩ (.string y)).setCell ⟨B, 0, none⟩ (.string z)) ⟨B, 1, none⟩ ⟨B, 0, none⟩ (.string u) (by intro e; injection e with e1 e2; omega)).trans k22
 have k33 := World.cell?_setCell_same (((W.setCell ⟨A, 0, none⟩ (.string x)).setCell ⟨A, 1, none⟩ (.string y)).setCell ⟨B, 0, none⟩ (.string z)) ⟨B, 1, none⟩ (.string u) k23
 refine ⟨⟨k30, k31, ?_, ?_⟩, ⟨k32, k33, ?_, ?_⟩⟩ <;> simp [*]
def CmpMu (A : Nat) (w : World) : Nat := (numB (strOfV ((w.cell? ⟨A, 1, none⟩).getD undef))).natAbs + (numB (strOfV ((w.cell? ⟨A + 1, 1, none⟩).getD undef))).natAbs
theorem cmpMu_at {A : Nat} {w : World} {n m : ByteArray} {d c : Int} (h1 : RatAt w A n (textI d)) (h2 : RatAt w (A + 1) m (textI c)) (f1 : Fits d) (f2 : Fits c) : CmpMu A w = d.natAbs + c.natAbs := by
 unfold CmpMu
 rw [h1.2.1, h2.2.1]
 show (numB (textI d)).natAbs + (numB (textI c)).natAbs = _
 rw [(valid_text f1).2, (valid_text f2).2]
theorem cmp_end' {n d m c R : Int} (h : CmpInv n d m c 1 R) (hz : n / d = m / c) (hr : n % d = 0 ∨ m % c = 0) : sgZ (n % d) (m % c) = R := by
 have := cmp_end h hz hr
 obtain ⟨_, _, _, _, h5, h6, _, _⟩ := h
 rw [zOr_sg (Int.emod_nonneg n (by omega)) (Int.emod_nonneg m (by omega)) hr, Int.one_mul] at this
 exact this
theorem cmp_whole' {n d m c R : Int} (h : CmpInv n d m c 1 R) (hz : n / d ≠ m / c) : sgZ (n / d) (m / c) = R := by
 have := cmp_whole h hz
 rw [Int.one_mul] at this
 exact this
theorem cmp_next' {n d m c R : Int} (h : CmpInv n d m c 1 R) (hz : n / d = m / c) (hr : n % d ≠ 0) (ht : m % c ≠ 0) : CmpInv c (m % c) d (n % d) 1 R ∧ (m % c).natAbs + (n % d).natAbs < d.natAbs + c.natAbs := by
 obtain ⟨h1, h2, h3, h4, h5, h6, h7, h8⟩ := h
 have p1 := Int.emod_nonneg n (show d ≠ 0 by omega)
 have p2 := Int.emod_nonneg m (show c ≠ 0 by omega)
 have p3 := Int.emod_lt_of_pos n h5
 have p4 := Int.emod_lt_of_pos m h6
 refine ⟨⟨h4, rem_fits h4 h6, h2, rem_fits h2 h5, by omega, by omega, .inl rfl, ?_⟩, by omega⟩
 rw [whole_eq hz] at h8
 rw [← h8, Int.one_mul, Int.one_mul, Int.mul_comm c, Int.mul_comm d]
def CmpJ (va vb : Value) (w : World) (R : Int) (a' : Act) (w' : World) : Prop :=
 ∃ n d m c : Int, (∃ u5 u6 u7 u8 u9 u10 u11 u12 u13 u14 u15 u16 u17 u18 u19 u20 u21 u22 u23 u24 u25 u26 u27 u28 u29 u30 u31 u32 u33 u34 u35 u36 u37 u38 u39 u40 u41 u42 u43 u44 u45 u46 u47 u48 u49 u50 u51 u52 u53 u54 u55 u56 u57 u58 u59 u60 : Value, a' = { tmps := #[va, vb, .pointer (some ⟨w.heap.size, 0, none⟩), .pointer (some ⟨w.heap.size + 1, 0, none⟩), .int .i64 0, u5, u6, u7, u8, u9, u10, u11, u12, u13, u14, u15, u16, u17, u18, u19, u20, u21, u22, u23, u24, u25, u26, u27, u28, u29, u30, u31, u32, u33, u34, u35, u36, u37, u38, u39, u40, u41, u42, u43, u44, u45, u46, u47, u48, u49, u50, u51, u52, u53, u54, u55, u56, u57, u58, u59, u60], defers := [] }) ∧
  CmpInv n d m c 1 R ∧ RatAt w' w.heap.size (textI n) (textI d) ∧ RatAt w' (w.heap.size + 1) (textI m) (textI c) ∧ Below w.heap.size w w'
theorem cmp_q (an ad bn bd : ByteArray) (h1 : an.size ≤ 1099511627776) (h2 : ad.size ≤ 1099511627776) (h3 : bn.size ≤ 1099511627776) (h4 : bd.size ≤ 1099511627776) (w : World) (hR : Ready w) :
 Calls Tryz.prog 35 #[.agg #[.string an, .string ad], .agg #[.string bn, .string bd]] w fun e w' => e = .returned (.int .i64 (cmpQ an ad bn bd)) ∧ Below w.heap.size w w' := by
 obtain ⟨W0, hW0, b0, hcc⟩ := box_two w an ad bn bd
 have HW := hid hW0; have HC := hid hcc; have B0 := hid b0
 have HR := hid (hR.below b0)
 have P0 := hid (Below.refl W0.heap.size W0)
 clear hW0 hcc b0
 have va := fun W (h : Ready W) => valid_q an ad h1 h2 W h
 have vb := fun W (h : Ready W) => valid_q bn bd h3 h4 W h
 cases hv : bothB an ad bn bd with
 | false =>
  clear hR
  have hb : cmpQ an ad bn bd = 0 := by unfold cmpQ; rw [hv]; rfl
  rw [hb]
  unfold bothB at hv
  cases e1 : validQ an ad with
  | false =>
   rw [e1] at va
   have VA := hid va; have VB := hid vb
   clear va vb e1 hv hb
   go_enter Tryz.func35, Tryz.ntmps35
   obtain ⟨⟨ca0, cb0, cc0, cd0⟩, ⟨ce0, cf0, cg0, ch0⟩⟩ := HC.out _ (Below.refl _ _)
   go_wp2
   refine wp_scope_straight ?_
   go_wp2_with (rw [HW.out])
   refine (VA.out _ (HR.out.below P0.out)).mono ?_
   rintro e w1 ⟨rfl, b1⟩
   have P1 := hid (below_up P0.out b1)
   obtain ⟨⟨ca1, cb1, cc1, cd1⟩, ⟨ce1, cf1, cg1, ch1⟩⟩ := HC.out _ P1.out
   clear b1 P0 ca0 cb0 cc0 cd0 ce0 cf0 cg0 ch0 
   go_wp2_with fail
   simp only [Exit.noGoto_ret]
   go_ret
   exact ⟨rfl, below_up B0.out P1.out⟩
  | true =>
   rw [e1, Bool.true_and] at hv
   rw [e1] at va
   rw [hv] at vb
   have VA := hid va; have VB := hid vb
   clear va vb e1 hv hb
   go_enter Tryz.func35, Tryz.ntmps35
   obtain ⟨⟨ca0, cb0, cc0, cd0⟩, ⟨ce0, cf0, cg0, ch0⟩⟩ := HC.out _ (Below.refl _ _)
   go_wp2
   refine wp_scope_straight ?_
   go_wp2_with (rw [HW.out])
   refine (VA.out _ (HR.out.below P0.out)).mono ?_
   rintro e w1 ⟨rfl, b1⟩
   have P1 := hid (below_up P0.out b1)
   obtain ⟨⟨ca1, cb1, cc1, cd1⟩, ⟨ce1, cf1, cg1, ch1⟩⟩ := HC.out _ P1.out
   clear b1 P0 ca0 cb0 cc0 cd0 ce0 cf0 cg0 ch0 
   go_wp2_with fail
   refine (VB.out _ (HR.out.below P1.out)).mono ?_
   rintro e w2 ⟨rfl, b2⟩
   have P2 := hid (below_up P1.out b2)
   obtain ⟨⟨ca2, cb2, cc2, cd2⟩, ⟨ce2, cf2, cg2, ch2⟩⟩ := HC.out _ P2.out
   clear b2 P1 ca1 cb1 cc1 cd1 ce1 cf1 cg1 ch1 
   go_wp2_with fail
   simp only [Exit.noGoto_ret]
   go_ret
   exact ⟨rfl, below_up B0.out P2.out⟩
 | true =>
  have hinv := cmpInv_start hv
  obtain ⟨v1, v2⟩ := both_parts hv
  obtain ⟨u1, u2, _, _⟩ := validQ_parts v1
  obtain ⟨u3, u4, _, _⟩ := validQ_parts v2
  rw [v1] at va
  rw [v2] at vb
  generalize cmpQ an ad bn bd = R at *
  have VA := hid va; have VB := hid vb
  obtain ⟨n0, hn0⟩ : ∃ x, numB an = x := ⟨_, rfl⟩
  obtain ⟨d0, hd0⟩ : ∃ x, numB ad = x := ⟨_, rfl⟩
  obtain ⟨m0, hm0⟩ : ∃ x, numB bn = x := ⟨_, rfl⟩
  obtain ⟨c0, hc0⟩ : ∃ x, numB bd = x := ⟨_, rfl⟩
  have en := (text_valid u1).2
  have ed := (text_valid u2).2
  have em := (text_valid u3).2
  have ec := (text_valid u4).2
  rw [hn0] at en
  rw [hd0] at ed
  rw [hm0] at em
  rw [hc0] at ec
  rw [hn0, hd0, hm0, hc0] at hinv
  clear va vb v1 v2 u1 u2 u3 u4 hv h1 h2 h3 h4 hn0 hd0 hm0 hc0
  subst en ed em ec
  have HI := hid hinv; have HRw := hid hR
  clear hinv hR
  go_enter Tryz.func35, Tryz.ntmps35
  obtain ⟨⟨ca0, cb0, cc0, cd0⟩, ⟨ce0, cf0, cg0, ch0⟩⟩ := HC.out _ (Below.refl _ _)
  go_wp2
  refine wp_scope_jumps 0 (CmpJ (.agg #[.string (textI n0), .string (textI d0)]) (.agg #[.string (textI m0), .string (textI c0)]) w R) (fun _ w' => CmpMu w.heap.size w') rfl ?_ ?_
  · skip
    go_wp2_with (rw [HW.out])
    refine (VA.out _ (HR.out.below P0.out)).mono ?_
    rintro e w1 ⟨rfl, b1⟩
    have P1 := hid (below_up P0.out b1)
    obtain ⟨⟨ca1, cb1, cc1, cd1⟩, ⟨ce1, cf1, cg1, ch1⟩⟩ := HC.out _ P1.out
    clear b1 P0 ca0 cb0 cc0 cd0 ce0 cf0 cg0 ch0 
    go_wp2_with fail
    refine (VB.out _ (HR.out.below P1.out)).mono ?_
    rintro e w2 ⟨rfl, b2⟩
    have P2 := hid (below_up P1.out b2)
    obtain ⟨⟨ca2, cb2, cc2, cd2⟩, ⟨ce2, cf2, cg2, ch2⟩⟩ := HC.out _ P2.out
    clear b2 P1 ca1 cb1 cc1 cd1 ce1 cf1 cg1 ch1 
    go_wp2_with fail
    go_step3
    clear ca2 cb2 cc2 cd2 ce2 cf2 cg2 ch2
    have HA := hid (show RatAt w2 w.heap.size (textI n0) (textI d0) from (HC.out _ P2.out).1)
    have HB := hid (show RatAt w2 (w.heap.size + 1) (textI m0) (textI c0) from (HC.out _ P2.out).2)
    have HBW := hid (below_up B0.out P2.out)
    have HRr := hid (HR.out.below P2.out)
    clear HC VA VB
    generalize w2 = wr at *
    have hi := HI.out
    obtain ⟨f1, f2, f3, f4, pd, pc, _, _⟩ := hi
    obtain ⟨q1, q2⟩ := div_texts f1 f2 (by omega)
    have q3 := rem_text f1 f2 (by omega)
    obtain ⟨r1, r2⟩ := div_texts f3 f4 (by omega)
    have r3 := rem_text f3 f4 (by omega)
    have ca := fun W (h : Ready W) => div_i (textI n0) (textI d0) (le_of_fits f1) (le_of_fits f2) W h
    have cb := fun W (h : Ready W) => div_i (textI m0) (textI c0) (le_of_fits f3) (le_of_fits f4) W h
    have cc := fun W (h : Ready W) => cmp_i (textI (n0 / d0)) (textI (m0 / c0)) (le_of_fits (quot_fit f1)) (le_of_fits (quot_fit f3)) W h
    rw [q1, q2, q3] at ca
    rw [r1, r2, r3] at cb
    rw [cmp_texts (quot_fit f1) (quot_fit f3)] at cc
    have hn0 := text_is0 (n0 % d0)
    have ht0 := text_is0 (m0 % c0)
    have hw := cmp_whole' HI.out
    have he := cmp_end' HI.out
    have hx := cmp_next' HI.out
    have ck := fun W (h : Ready W) => cmp_i (textI (n0 % d0)) (textI (m0 % c0)) (le_of_fits (rem_fits f2 pd)) (le_of_fits (rem_fits f4 pc)) W h
    rw [cmp_texts (rem_fits f2 pd) (rem_fits f4 pc)] at ck
    have HF := hid (show Fits d0 ∧ Fits c0 ∧ Fits (n0 % d0) ∧ Fits (m0 % c0) from ⟨f2, f4, rem_fits f2 pd, rem_fits f4 pc⟩)
    clear q1 q2 q3 r1 r2 r3 f1 f2 f3 f4 pd pc HI
    generalize n0 / d0 = Q1 at *
    generalize m0 / c0 = Q2 at *
    have CA := hid ca; have CB := hid cb; have CC := hid cc; have CK := hid ck; have HX := hid hx
    clear ca cb cc ck hx
    rcases sgZ_cases Q1 Q2 with ⟨hz, hl⟩ | ⟨hz, hl⟩ | ⟨hz, hl⟩
    · have hr := hw (by omega)
      rw [hz] at hr CC
      have HRR := hid hr
      clear hr hw he hz hl hn0 ht0
      obtain ⟨xa0, xb0, xc0, xd0⟩ := HA.out
      obtain ⟨ya0, yb0, yc0, yd0⟩ := HB.out
      go_wp2_with fail
      refine (CA.out _ (HRr.out.below (Below.refl _ _))).mono ?_
      rintro e wc1 ⟨rfl, bc1⟩
      have BB1 := hid (below_up (Below.refl _ _) bc1)
      clear bc1 xa0 xb0 xc0 xd0 ya0 yb0 yc0 yd0
      obtain ⟨xa1, xb1, xc1, xd1⟩ := RatAt.below HA.out BB1.out
      obtain ⟨ya1, yb1, yc1, yd1⟩ := RatAt.below HB.out BB1.out
      go_wp2_with fail
      refine (CB.out _ (HRr.out.below (BB1.out))).mono ?_
      rintro e wc2 ⟨rfl, bc2⟩
      have BB2 := hid (below_up (BB1.out) bc2)
      clear bc2 xa1 xb1 xc1 xd1 ya1 yb1 yc1 yd1
      obtain ⟨xa2, xb2, xc2, xd2⟩ := RatAt.below HA.out BB2.out
      obtain ⟨ya2, yb2, yc2, yd2⟩ := RatAt.below HB.out BB2.out
      go_wp2_with fail
      refine (CC.out _ (HRr.out.below (BB2.out))).mono ?_
      rintro e wc3 ⟨rfl, bc3⟩
      have BB3 := hid (below_up (BB2.out) bc3)
      clear bc3 xa2 xb2 xc2 xd2 ya2 yb2 yc2 yd2
      obtain ⟨xa3, xb3, xc3, xd3⟩ := RatAt.below HA.out BB3.out
      obtain ⟨ya3, yb3, yc3, yd3⟩ := RatAt.below HB.out BB3.out
      go_wp2_with fail
      simp only [Exit.jump]
      go_ret
      exact ⟨congrArg (fun r => Ending.returned (Value.int .i64 r)) HRR.out, below_up HBW.out BB3.out⟩
    · rw [hz] at CC
      replace he := he hl
      have HX2 := hid (HX.out hl)
      clear hw hz HX
      subst hl
      by_cases hr0 : n0 % d0 = 0
      · rw [decide_eq_true hr0] at hn0
        replace he := he (.inl hr0)
        clear hr0 ht0
        rcases sgZ_cases (n0 % d0) (m0 % c0) with ⟨hk, hkl⟩ | ⟨hk, hkl⟩ | ⟨hk, hkl⟩
        · rw [hk] at CK he
          have HRR := hid he
          clear he hk hkl HX2
          obtain ⟨xa0, xb0, xc0, xd0⟩ := HA.out
          obtain ⟨ya0, yb0, yc0, yd0⟩ := HB.out
          go_wp2_with fail
          refine (CA.out _ (HRr.out.below (Below.refl _ _))).mono ?_
          rintro e wc1 ⟨rfl, bc1⟩
          have BB1 := hid (below_up (Below.refl _ _) bc1)
          clear bc1 xa0 xb0 xc0 xd0 ya0 yb0 yc0 yd0
          obtain ⟨xa1, xb1, xc1, xd1⟩ := RatAt.below HA.out BB1.out
          obtain ⟨ya1, yb1, yc1, yd1⟩ := RatAt.below HB.out BB1.out
          go_wp2_with fail
          refine (CB.out _ (HRr.out.below (BB1.out))).mono ?_
          rintro e wc2 ⟨rfl, bc2⟩
          have BB2 := hid (below_up (BB1.out) bc2)
          clear bc2 xa1 xb1 xc1 xd1 ya1 yb1 yc1 yd1
          obtain ⟨xa2, xb2, xc2, xd2⟩ := RatAt.below HA.out BB2.out
          obtain ⟨ya2, yb2, yc2, yd2⟩ := RatAt.below HB.out BB2.out
          go_wp2_with fail
          refine (CC.out _ (HRr.out.below (BB2.out))).mono ?_
          rintro e wc3 ⟨rfl, bc3⟩
          have BB3 := hid (below_up (BB2.out) bc3)
          clear bc3 xa2 xb2 xc2 xd2 ya2 yb2 yc2 yd2
          obtain ⟨xa3, xb3, xc3, xd3⟩ := RatAt.below HA.out BB3.out
          obtain ⟨ya3, yb3, yc3, yd3⟩ := RatAt.below HB.out BB3.out
          go_wp2_with fail
          refine (CK.out _ (HRr.out.below (BB3.out))).mono ?_
          rintro e wc4 ⟨rfl, bc4⟩
          have BB4 := hid (below_up (BB3.out) bc4)
          clear bc4 xa3 xb3 xc3 xd3 ya3 yb3 yc3 yd3
          obtain ⟨xa4, xb4, xc4, xd4⟩ := RatAt.below HA.out BB4.out
          obtain ⟨ya4, yb4, yc4, yd4⟩ := RatAt.below HB.out BB4.out
          go_wp2_with fail
          simp only [Exit.jump]
          go_ret
          exact ⟨congrArg (fun r => Ending.returned (Value.int .i64 r)) HRR.out, below_up HBW.out BB4.out⟩
        · rw [hk] at CK he
          have HRR := hid he
          clear he hk hkl HX2
          obtain ⟨xa0, xb0, xc0, xd0⟩ := HA.out
          obtain ⟨ya0, yb0, yc0, yd0⟩ := HB.out
          go_wp2_with fail
          refine (CA.out _ (HRr.out.below (Below.refl _ _))).mono ?_
          rintro e wc1 ⟨rfl, bc1⟩
          have BB1 := hid (below_up (Below.refl _ _) bc1)
          clear bc1 xa0 xb0 xc0 xd0 ya0 yb0 yc0 yd0
          obtain ⟨xa1, xb1, xc1, xd1⟩ := RatAt.below HA.out BB1.out
          obtain ⟨ya1, yb1, yc1, yd1⟩ := RatAt.below HB.out BB1.out
          go_wp2_with fail
          refine (CB.out _ (HRr.out.below (BB1.out))).mono ?_
          rintro e wc2 ⟨rfl, bc2⟩
          have BB2 := hid (below_up (BB1.out) bc2)
          clear bc2 xa1 xb1 xc1 xd1 ya1 yb1 yc1 yd1
          obtain ⟨xa2, xb2, xc2, xd2⟩ := RatAt.below HA.out BB2.out
          obtain ⟨ya2, yb2, yc2, yd2⟩ := RatAt.below HB.out BB2.out
          go_wp2_with fail
          refine (CC.out _ (HRr.out.below (BB2.out))).mono ?_
          rintro e wc3 ⟨rfl, bc3⟩
          have BB3 := hid (below_up (BB2.out) bc3)
          clear bc3 xa2 xb2 xc2 xd2 ya2 yb2 yc2 yd2
          obtain ⟨xa3, xb3, xc3, xd3⟩ := RatAt.below HA.out BB3.out
          obtain ⟨ya3, yb3, yc3, yd3⟩ := RatAt.below HB.out BB3.out
          go_wp2_with fail
          refine (CK.out _ (HRr.out.below (BB3.out))).mono ?_
          rintro e wc4 ⟨rfl, bc4⟩
          have BB4 := hid (below_up (BB3.out) bc4)
          clear bc4 xa3 xb3 xc3 xd3 ya3 yb3 yc3 yd3
          obtain ⟨xa4, xb4, xc4, xd4⟩ := RatAt.below HA.out BB4.out
          obtain ⟨ya4, yb4, yc4, yd4⟩ := RatAt.below HB.out BB4.out
          go_wp2_with fail
          simp only [Exit.jump]
          go_ret
          exact ⟨congrArg (fun r => Ending.returned (Value.int .i64 r)) HRR.out, below_up HBW.out BB4.out⟩
        rw [hk] at CK he
        have HRR := hid he
        clear he hk hkl HX2
        obtain ⟨xa0, xb0, xc0, xd0⟩ := HA.out
        obtain ⟨ya0, yb0, yc0, yd0⟩ := HB.out
        go_wp2_with fail
        refine (CA.out _ (HRr.out.below (Below.refl _ _))).mono ?_
        rintro e wc1 ⟨rfl, bc1⟩
        have BB1 := hid (below_up (Below.refl _ _) bc1)
        clear bc1 xa0 xb0 xc0 xd0 ya0 yb0 yc0 yd0
        obtain ⟨xa1, xb1, xc1, xd1⟩ := RatAt.below HA.out BB1.out
        obtain ⟨ya1, yb1, yc1, yd1⟩ := RatAt.below HB.out BB1.out
        go_wp2_with fail
        refine (CB.out _ (HRr.out.below (BB1.out))).mono ?_
        rintro e wc2 ⟨rfl, bc2⟩
        have BB2 := hid (below_up (BB1.out) bc2)
        clear bc2 xa1 xb1 xc1 xd1 ya1 yb1 yc1 yd1
        obtain ⟨xa2, xb2, xc2, xd2⟩ := RatAt.below HA.out BB2.out
        obtain ⟨ya2, yb2, yc2, yd2⟩ := RatAt.below HB.out BB2.out
        go_wp2_with fail
        refine (CC.out _ (HRr.out.below (BB2.out))).mono ?_
        rintro e wc3 ⟨rfl, bc3⟩
        have BB3 := hid (below_up (BB2.out) bc3)
        clear bc3 xa2 xb2 xc2 xd2 ya2 yb2 yc2 yd2
        obtain ⟨xa3, xb3, xc3, xd3⟩ := RatAt.below HA.out BB3.out
        obtain ⟨ya3, yb3, yc3, yd3⟩ := RatAt.below HB.out BB3.out
        go_wp2_with fail
        refine (CK.out _ (HRr.out.below (BB3.out))).mono ?_
        rintro e wc4 ⟨rfl, bc4⟩
        have BB4 := hid (below_up (BB3.out) bc4)
        clear bc4 xa3 xb3 xc3 xd3 ya3 yb3 yc3 yd3
        obtain ⟨xa4, xb4, xc4, xd4⟩ := RatAt.below HA.out BB4.out
        obtain ⟨ya4, yb4, yc4, yd4⟩ := RatAt.below HB.out BB4.out
        go_wp2_with fail
        simp only [Exit.jump]
        go_ret
        exact ⟨congrArg (fun r => Ending.returned (Value.int .i64 r)) HRR.out, below_up HBW.out BB4.out⟩
      rw [decide_eq_false hr0] at hn0
      by_cases ht1 : m0 % c0 = 0
      · rw [decide_eq_true ht1] at ht0
        replace he := he (.inr ht1)
        clear hr0 ht1
        rcases sgZ_cases (n0 % d0) (m0 % c0) with ⟨hk, hkl⟩ | ⟨hk, hkl⟩ | ⟨hk, hkl⟩
        · rw [hk] at CK he
          have HRR := hid he
          clear he hk hkl HX2
          obtain ⟨xa0, xb0, xc0, xd0⟩ := HA.out
          obtain ⟨ya0, yb0, yc0, yd0⟩ := HB.out
          go_wp2_with fail
          refine (CA.out _ (HRr.out.below (Below.refl _ _))).mono ?_
          rintro e wc1 ⟨rfl, bc1⟩
          have BB1 := hid (below_up (Below.refl _ _) bc1)
          clear bc1 xa0 xb0 xc0 xd0 ya0 yb0 yc0 yd0
          obtain ⟨xa1, xb1, xc1, xd1⟩ := RatAt.below HA.out BB1.out
          obtain ⟨ya1, yb1, yc1, yd1⟩ := RatAt.below HB.out BB1.out
          go_wp2_with fail
          refine (CB.out _ (HRr.out.below (BB1.out))).mono ?_
          rintro e wc2 ⟨rfl, bc2⟩
          have BB2 := hid (below_up (BB1.out) bc2)
          clear bc2 xa1 xb1 xc1 xd1 ya1 yb1 yc1 yd1
          obtain ⟨xa2, xb2, xc2, xd2⟩ := RatAt.below HA.out BB2.out
          obtain ⟨ya2, yb2, yc2, yd2⟩ := RatAt.below HB.out BB2.out
          go_wp2_with fail
          refine (CC.out _ (HRr.out.below (BB2.out))).mono ?_
          rintro e wc3 ⟨rfl, bc3⟩
          have BB3 := hid (below_up (BB2.out) bc3)
          clear bc3 xa2 xb2 xc2 xd2 ya2 yb2 yc2 yd2
          obtain ⟨xa3, xb3, xc3, xd3⟩ := RatAt.below HA.out BB3.out
          obtain ⟨ya3, yb3, yc3, yd3⟩ := RatAt.below HB.out BB3.out
          go_wp2_with fail
          refine (CK.out _ (HRr.out.below (BB3.out))).mono ?_
          rintro e wc4 ⟨rfl, bc4⟩
          have BB4 := hid (below_up (BB3.out) bc4)
          clear bc4 xa3 xb3 xc3 xd3 ya3 yb3 yc3 yd3
          obtain ⟨xa4, xb4, xc4, xd4⟩ := RatAt.below HA.out BB4.out
          obtain ⟨ya4, yb4, yc4, yd4⟩ := RatAt.below HB.out BB4.out
          go_wp2_with fail
          simp only [Exit.jump]
          go_ret
          exact ⟨congrArg (fun r => Ending.returned (Value.int .i64 r)) HRR.out, below_up HBW.out BB4.out⟩
        · rw [hk] at CK he
          have HRR := hid he
          clear he hk hkl HX2
          obtain ⟨xa0, xb0, xc0, xd0⟩ := HA.out
          obtain ⟨ya0, yb0, yc0, yd0⟩ := HB.out
          go_wp2_with fail
          refine (CA.out _ (HRr.out.below (Below.refl _ _))).mono ?_
          rintro e wc1 ⟨rfl, bc1⟩
          have BB1 := hid (below_up (Below.refl _ _) bc1)
          clear bc1 xa0 xb0 xc0 xd0 ya0 yb0 yc0 yd0
          obtain ⟨xa1, xb1, xc1, xd1⟩ := RatAt.below HA.out BB1.out
          obtain ⟨ya1, yb1, yc1, yd1⟩ := RatAt.below HB.out BB1.out
          go_wp2_with fail
          refine (CB.out _ (HRr.out.below (BB1.out))).mono ?_
          rintro e wc2 ⟨rfl, bc2⟩
          have BB2 := hid (below_up (BB1.out) bc2)
          clear bc2 xa1 xb1 xc1 xd1 ya1 yb1 yc1 yd1
          obtain ⟨xa2, xb2, xc2, xd2⟩ := RatAt.below HA.out BB2.out
          obtain ⟨ya2, yb2, yc2, yd2⟩ := RatAt.below HB.out BB2.out
          go_wp2_with fail
          refine (CC.out _ (HRr.out.below (BB2.out))).mono ?_
          rintro e wc3 ⟨rfl, bc3⟩
          have BB3 := hid (below_up (BB2.out) bc3)
          clear bc3 xa2 xb2 xc2 xd2 ya2 yb2 yc2 yd2
          obtain ⟨xa3, xb3, xc3, xd3⟩ := RatAt.below HA.out BB3.out
          obtain ⟨ya3, yb3, yc3, yd3⟩ := RatAt.below HB.out BB3.out
          go_wp2_with fail
          refine (CK.out _ (HRr.out.below (BB3.out))).mono ?_
          rintro e wc4 ⟨rfl, bc4⟩
          have BB4 := hid (below_up (BB3.out) bc4)
          clear bc4 xa3 xb3 xc3 xd3 ya3 yb3 yc3 yd3
          obtain ⟨xa4, xb4, xc4, xd4⟩ := RatAt.below HA.out BB4.out
          obtain ⟨ya4, yb4, yc4, yd4⟩ := RatAt.below HB.out BB4.out
          go_wp2_with fail
          simp only [Exit.jump]
          go_ret
          exact ⟨congrArg (fun r => Ending.returned (Value.int .i64 r)) HRR.out, below_up HBW.out BB4.out⟩
        rw [hk] at CK he
        have HRR := hid he
        clear he hk hkl HX2
        obtain ⟨xa0, xb0, xc0, xd0⟩ := HA.out
        obtain ⟨ya0, yb0, yc0, yd0⟩ := HB.out
        go_wp2_with fail
        refine (CA.out _ (HRr.out.below (Below.refl _ _))).mono ?_
        rintro e wc1 ⟨rfl, bc1⟩
        have BB1 := hid (below_up (Below.refl _ _) bc1)
        clear bc1 xa0 xb0 xc0 xd0 ya0 yb0 yc0 yd0
        obtain ⟨xa1, xb1, xc1, xd1⟩ := RatAt.below HA.out BB1.out
        obtain ⟨ya1, yb1, yc1, yd1⟩ := RatAt.below HB.out BB1.out
        go_wp2_with fail
        refine (CB.out _ (HRr.out.below (BB1.out))).mono ?_
        rintro e wc2 ⟨rfl, bc2⟩
        have BB2 := hid (below_up (BB1.out) bc2)
        clear bc2 xa1 xb1 xc1 xd1 ya1 yb1 yc1 yd1
        obtain ⟨xa2, xb2, xc2, xd2⟩ := RatAt.below HA.out BB2.out
        obtain ⟨ya2, yb2, yc2, yd2⟩ := RatAt.below HB.out BB2.out
        go_wp2_with fail
        refine (CC.out _ (HRr.out.below (BB2.out))).mono ?_
        rintro e wc3 ⟨rfl, bc3⟩
        have BB3 := hid (below_up (BB2.out) bc3)
        clear bc3 xa2 xb2 xc2 xd2 ya2 yb2 yc2 yd2
        obtain ⟨xa3, xb3, xc3, xd3⟩ := RatAt.below HA.out BB3.out
        obtain ⟨ya3, yb3, yc3, yd3⟩ := RatAt.below HB.out BB3.out
        go_wp2_with fail
        refine (CK.out _ (HRr.out.below (BB3.out))).mono ?_
        rintro e wc4 ⟨rfl, bc4⟩
        have BB4 := hid (below_up (BB3.out) bc4)
        clear bc4 xa3 xb3 xc3 xd3 ya3 yb3 yc3 yd3
        obtain ⟨xa4, xb4, xc4, xd4⟩ := RatAt.below HA.out BB4.out
        obtain ⟨ya4, yb4, yc4, yd4⟩ := RatAt.below HB.out BB4.out
        go_wp2_with fail
        simp only [Exit.jump]
        go_ret
        exact ⟨congrArg (fun r => Ending.returned (Value.int .i64 r)) HRR.out, below_up HBW.out BB4.out⟩
      rw [decide_eq_false ht1] at ht0
      have hx := HX2.out hr0 ht1
      have HXX := hid hx
      clear he hr0 ht1 HX2 hx CK
      obtain ⟨xa0, xb0, xc0, xd0⟩ := HA.out
      obtain ⟨ya0, yb0, yc0, yd0⟩ := HB.out
      go_wp2_with fail
      refine (CA.out _ (HRr.out.below (Below.refl _ _))).mono ?_
      rintro e wc1 ⟨rfl, bc1⟩
      have BB1 := hid (below_up (Below.refl _ _) bc1)
      clear bc1 xa0 xb0 xc0 xd0 ya0 yb0 yc0 yd0
      obtain ⟨xa1, xb1, xc1, xd1⟩ := RatAt.below HA.out BB1.out
      obtain ⟨ya1, yb1, yc1, yd1⟩ := RatAt.below HB.out BB1.out
      go_wp2_with fail
      refine (CB.out _ (HRr.out.below (BB1.out))).mono ?_
      rintro e wc2 ⟨rfl, bc2⟩
      have BB2 := hid (below_up (BB1.out) bc2)
      clear bc2 xa1 xb1 xc1 xd1 ya1 yb1 yc1 yd1
      obtain ⟨xa2, xb2, xc2, xd2⟩ := RatAt.below HA.out BB2.out
      obtain ⟨ya2, yb2, yc2, yd2⟩ := RatAt.below HB.out BB2.out
      go_wp2_with fail
      refine (CC.out _ (HRr.out.below (BB2.out))).mono ?_
      rintro e wc3 ⟨rfl, bc3⟩
      have BB3 := hid (below_up (BB2.out) bc3)
      clear bc3 xa2 xb2 xc2 xd2 ya2 yb2 yc2 yd2
      obtain ⟨xa3, xb3, xc3, xd3⟩ := RatAt.below HA.out BB3.out
      obtain ⟨ya3, yb3, yc3, yd3⟩ := RatAt.below HB.out BB3.out
      go_wp2_with fail
      go_step3
      have hst := two_stores (x := textI c0) (y := textI (m0 % c0)) (z := textI d0) (u := textI (n0 % d0)) (by omega) (RatAt.below HA.out BB3.out) (RatAt.below HB.out BB3.out)
      exact ⟨rfl, ⟨c0, m0 % c0, d0, n0 % d0, ⟨_, _, _, _, _, _, _, _, _, _, _, _, _, _, _, _, _, _, _, _, _, _, _, _, _, _, _, _, _, _, _, _, _, _, _, _, _, _, _, _, _, _, _, _, _, _, _, _, _, _, _, _, _, _, _, _, rfl⟩, HXX.out.1, hst.1, hst.2, ((((below_up HBW.out BB3.out).setCell (p := ⟨w.heap.size, 0, none⟩) (Nat.le_refl _) _).setCell (p := ⟨w.heap.size, 1, none⟩) (Nat.le_refl _) _).setCell (p := ⟨w.heap.size + 1, 0, none⟩) (Nat.le_succ _) _).setCell (p := ⟨w.heap.size + 1, 1, none⟩) (Nat.le_succ _) _⟩⟩
    have hr := hw (by omega)
    rw [hz] at hr CC
    have HRR := hid hr
    clear hr hw he hz hl hn0 ht0
    obtain ⟨xa0, xb0, xc0, xd0⟩ := HA.out
    obtain ⟨ya0, yb0, yc0, yd0⟩ := HB.out
    go_wp2_with fail
    refine (CA.out _ (HRr.out.below (Below.refl _ _))).mono ?_
    rintro e wc1 ⟨rfl, bc1⟩
    have BB1 := hid (below_up (Below.refl _ _) bc1)
    clear bc1 xa0 xb0 xc0 xd0 ya0 yb0 yc0 yd0
    obtain ⟨xa1, xb1, xc1, xd1⟩ := RatAt.below HA.out BB1.out
    obtain ⟨ya1, yb1, yc1, yd1⟩ := RatAt.below HB.out BB1.out
    go_wp2_with fail
    refine (CB.out _ (HRr.out.below (BB1.out))).mono ?_
    rintro e wc2 ⟨rfl, bc2⟩
    have BB2 := hid (below_up (BB1.out) bc2)
    clear bc2 xa1 xb1 xc1 xd1 ya1 yb1 yc1 yd1
    obtain ⟨xa2, xb2, xc2, xd2⟩ := RatAt.below HA.out BB2.out
    obtain ⟨ya2, yb2, yc2, yd2⟩ := RatAt.below HB.out BB2.out
    go_wp2_with fail
    refine (CC.out _ (HRr.out.below (BB2.out))).mono ?_
    rintro e wc3 ⟨rfl, bc3⟩
    have BB3 := hid (below_up (BB2.out) bc3)
    clear bc3 xa2 xb2 xc2 xd2 ya2 yb2 yc2 yd2
    obtain ⟨xa3, xb3, xc3, xd3⟩ := RatAt.below HA.out BB3.out
    obtain ⟨ya3, yb3, yc3, yd3⟩ := RatAt.below HB.out BB3.out
    go_wp2_with fail
    simp only [Exit.jump]
    go_ret
    exact ⟨congrArg (fun r => Ending.returned (Value.int .i64 r)) HRR.out, below_up HBW.out BB3.out⟩
  rintro a' wr ⟨n, d, m, c, ⟨u5, u6, u7, u8, u9, u10, u11, u12, u13, u14, u15, u16, u17, u18, u19, u20, u21, u22, u23, u24, u25, u26, u27, u28, u29, u30, u31, u32, u33, u34, u35, u36, u37, u38, u39, u40, u41, u42, u43, u44, u45, u46, u47, u48, u49, u50, u51, u52, u53, u54, u55, u56, u57, u58, u59, u60, rfl⟩, hinv, hA, hB, hbw⟩
  have HI := hid hinv; have HA := hid hA; have HB := hid hB; have HBW := hid hbw
  have HRr := hid (HRw.out.below hbw)
  clear hinv hA hB hbw HC VA VB
  have hi := HI.out
  obtain ⟨f1, f2, f3, f4, pd, pc, _, _⟩ := hi
  obtain ⟨q1, q2⟩ := div_texts f1 f2 (by omega)
  have q3 := rem_text f1 f2 (by omega)
  obtain ⟨r1, r2⟩ := div_texts f3 f4 (by omega)
  have r3 := rem_text f3 f4 (by omega)
  have ca := fun W (h : Ready W) => div_i (textI n) (textI d) (le_of_fits f1) (le_of_fits f2) W h
  have cb := fun W (h : Ready W) => div_i (textI m) (textI c) (le_of_fits f3) (le_of_fits f4) W h
  have cc := fun W (h : Ready W) => cmp_i (textI (n / d)) (textI (m / c)) (le_of_fits (quot_fit f1)) (le_of_fits (quot_fit f3)) W h
  rw [q1, q2, q3] at ca
  rw [r1, r2, r3] at cb
  rw [cmp_texts (quot_fit f1) (quot_fit f3)] at cc
  have hn0 := text_is0 (n % d)
  have ht0 := text_is0 (m % c)
  have hw := cmp_whole' HI.out
  have he := cmp_end' HI.out
  have hx := cmp_next' HI.out
  have ck := fun W (h : Ready W) => cmp_i (textI (n % d)) (textI (m % c)) (le_of_fits (rem_fits f2 pd)) (le_of_fits (rem_fits f4 pc)) W h
  rw [cmp_texts (rem_fits f2 pd) (rem_fits f4 pc)] at ck
  have HF := hid (show Fits d ∧ Fits c ∧ Fits (n % d) ∧ Fits (m % c) from ⟨f2, f4, rem_fits f2 pd, rem_fits f4 pc⟩)
  clear q1 q2 q3 r1 r2 r3 f1 f2 f3 f4 pd pc HI
  generalize n / d = Q1 at *
  generalize m / c = Q2 at *
  have CA := hid ca; have CB := hid cb; have CC := hid cc; have CK := hid ck; have HX := hid hx
  clear ca cb cc ck hx
  rcases sgZ_cases Q1 Q2 with ⟨hz, hl⟩ | ⟨hz, hl⟩ | ⟨hz, hl⟩
  · have hr := hw (by omega)
    rw [hz] at hr CC
    have HRR := hid hr
    clear hr hw he hz hl hn0 ht0
    obtain ⟨xa0, xb0, xc0, xd0⟩ := HA.out
    obtain ⟨ya0, yb0, yc0, yd0⟩ := HB.out
    go_wp2_with fail
    refine (CA.out _ (HRr.out.below (Below.refl _ _))).mono ?_
    rintro e wc1 ⟨rfl, bc1⟩
    have BB1 := hid (below_up (Below.refl _ _) bc1)
    clear bc1 xa0 xb0 xc0 xd0 ya0 yb0 yc0 yd0
    obtain ⟨xa1, xb1, xc1, xd1⟩ := RatAt.below HA.out BB1.out
    obtain ⟨ya1, yb1, yc1, yd1⟩ := RatAt.below HB.out BB1.out
    go_wp2_with fail
    refine (CB.out _ (HRr.out.below (BB1.out))).mono ?_
    rintro e wc2 ⟨rfl, bc2⟩
    have BB2 := hid (below_up (BB1.out) bc2)
    clear bc2 xa1 xb1 xc1 xd1 ya1 yb1 yc1 yd1
    obtain ⟨xa2, xb2, xc2, xd2⟩ := RatAt.below HA.out BB2.out
    obtain ⟨ya2, yb2, yc2, yd2⟩ := RatAt.below HB.out BB2.out
    go_wp2_with fail
    refine (CC.out _ (HRr.out.below (BB2.out))).mono ?_
    rintro e wc3 ⟨rfl, bc3⟩
    have BB3 := hid (below_up (BB2.out) bc3)
    clear bc3 xa2 xb2 xc2 xd2 ya2 yb2 yc2 yd2
    obtain ⟨xa3, xb3, xc3, xd3⟩ := RatAt.below HA.out BB3.out
    obtain ⟨ya3, yb3, yc3, yd3⟩ := RatAt.below HB.out BB3.out
    go_wp2_with fail
    simp only [Exit.jump]
    go_ret
    exact ⟨congrArg (fun r => Ending.returned (Value.int .i64 r)) HRR.out, below_up HBW.out BB3.out⟩
  · rw [hz] at CC
    replace he := he hl
    have HX2 := hid (HX.out hl)
    clear hw hz HX
    subst hl
    by_cases hr0 : n % d = 0
    · rw [decide_eq_true hr0] at hn0
      replace he := he (.inl hr0)
      clear hr0 ht0
      rcases sgZ_cases (n % d) (m % c) with ⟨hk, hkl⟩ | ⟨hk, hkl⟩ | ⟨hk, hkl⟩
      · rw [hk] at CK he
        have HRR := hid he
        clear he hk hkl HX2
        obtain ⟨xa0, xb0, xc0, xd0⟩ := HA.out
        obtain ⟨ya0, yb0, yc0, yd0⟩ := HB.out
        go_wp2_with fail
        refine (CA.out _ (HRr.out.below (Below.refl _ _))).mono ?_
        rintro e wc1 ⟨rfl, bc1⟩
        have BB1 := hid (below_up (Below.refl _ _) bc1)
        clear bc1 xa0 xb0 xc0 xd0 ya0 yb0 yc0 yd0
        obtain ⟨xa1, xb1, xc1, xd1⟩ := RatAt.below HA.out BB1.out
        obtain ⟨ya1, yb1, yc1, yd1⟩ := RatAt.below HB.out BB1.out
        go_wp2_with fail
        refine (CB.out _ (HRr.out.below (BB1.out))).mono ?_
        rintro e wc2 ⟨rfl, bc2⟩
        have BB2 := hid (below_up (BB1.out) bc2)
        clear bc2 xa1 xb1 xc1 xd1 ya1 yb1 yc1 yd1
        obtain ⟨xa2, xb2, xc2, xd2⟩ := RatAt.below HA.out BB2.out
        obtain ⟨ya2, yb2, yc2, yd2⟩ := RatAt.below HB.out BB2.out
        go_wp2_with fail
        refine (CC.out _ (HRr.out.below (BB2.out))).mono ?_
        rintro e wc3 ⟨rfl, bc3⟩
        have BB3 := hid (below_up (BB2.out) bc3)
        clear bc3 xa2 xb2 xc2 xd2 ya2 yb2 yc2 yd2
        obtain ⟨xa3, xb3, xc3, xd3⟩ := RatAt.below HA.out BB3.out
        obtain ⟨ya3, yb3, yc3, yd3⟩ := RatAt.below HB.out BB3.out
        go_wp2_with fail
        refine (CK.out _ (HRr.out.below (BB3.out))).mono ?_
        rintro e wc4 ⟨rfl, bc4⟩
        have BB4 := hid (below_up (BB3.out) bc4)
        clear bc4 xa3 xb3 xc3 xd3 ya3 yb3 yc3 yd3
        obtain ⟨xa4, xb4, xc4, xd4⟩ := RatAt.below HA.out BB4.out
        obtain ⟨ya4, yb4, yc4, yd4⟩ := RatAt.below HB.out BB4.out
        go_wp2_with fail
        simp only [Exit.jump]
        go_ret
        exact ⟨congrArg (fun r => Ending.returned (Value.int .i64 r)) HRR.out, below_up HBW.out BB4.out⟩
      · rw [hk] at CK he
        have HRR := hid he
        clear he hk hkl HX2
        obtain ⟨xa0, xb0, xc0, xd0⟩ := HA.out
        obtain ⟨ya0, yb0, yc0, yd0⟩ := HB.out
        go_wp2_with fail
        refine (CA.out _ (HRr.out.below (Below.refl _ _))).mono ?_
        rintro e wc1 ⟨rfl, bc1⟩
        have BB1 := hid (below_up (Below.refl _ _) bc1)
        clear bc1 xa0 xb0 xc0 xd0 ya0 yb0 yc0 yd0
        obtain ⟨xa1, xb1, xc1, xd1⟩ := RatAt.below HA.out BB1.out
        obtain ⟨ya1, yb1, yc1, yd1⟩ := RatAt.below HB.out BB1.out
        go_wp2_with fail
        refine (CB.out _ (HRr.out.below (BB1.out))).mono ?_
        rintro e wc2 ⟨rfl, bc2⟩
        have BB2 := hid (below_up (BB1.out) bc2)
        clear bc2 xa1 xb1 xc1 xd1 ya1 yb1 yc1 yd1
        obtain ⟨xa2, xb2, xc2, xd2⟩ := RatAt.below HA.out BB2.out
        obtain ⟨ya2, yb2, yc2, yd2⟩ := RatAt.below HB.out BB2.out
        go_wp2_with fail
        refine (CC.out _ (HRr.out.below (BB2.out))).mono ?_
        rintro e wc3 ⟨rfl, bc3⟩
        have BB3 := hid (below_up (BB2.out) bc3)
        clear bc3 xa2 xb2 xc2 xd2 ya2 yb2 yc2 yd2
        obtain ⟨xa3, xb3, xc3, xd3⟩ := RatAt.below HA.out BB3.out
        obtain ⟨ya3, yb3, yc3, yd3⟩ := RatAt.below HB.out BB3.out
        go_wp2_with fail
        refine (CK.out _ (HRr.out.below (BB3.out))).mono ?_
        rintro e wc4 ⟨rfl, bc4⟩
        have BB4 := hid (below_up (BB3.out) bc4)
        clear bc4 xa3 xb3 xc3 xd3 ya3 yb3 yc3 yd3
        obtain ⟨xa4, xb4, xc4, xd4⟩ := RatAt.below HA.out BB4.out
        obtain ⟨ya4, yb4, yc4, yd4⟩ := RatAt.below HB.out BB4.out
        go_wp2_with fail
        simp only [Exit.jump]
        go_ret
        exact ⟨congrArg (fun r => Ending.returned (Value.int .i64 r)) HRR.out, below_up HBW.out BB4.out⟩
      rw [hk] at CK he
      have HRR := hid he
      clear he hk hkl HX2
      obtain ⟨xa0, xb0, xc0, xd0⟩ := HA.out
      obtain ⟨ya0, yb0, yc0, yd0⟩ := HB.out
      go_wp2_with fail
      refine (CA.out _ (HRr.out.below (Below.refl _ _))).mono ?_
      rintro e wc1 ⟨rfl, bc1⟩
      have BB1 := hid (below_up (Below.refl _ _) bc1)
      clear bc1 xa0 xb0 xc0 xd0 ya0 yb0 yc0 yd0
      obtain ⟨xa1, xb1, xc1, xd1⟩ := RatAt.below HA.out BB1.out
      obtain ⟨ya1, yb1, yc1, yd1⟩ := RatAt.below HB.out BB1.out
      go_wp2_with fail
      refine (CB.out _ (HRr.out.below (BB1.out))).mono ?_
      rintro e wc2 ⟨rfl, bc2⟩
      have BB2 := hid (below_up (BB1.out) bc2)
      clear bc2 xa1 xb1 xc1 xd1 ya1 yb1 yc1 yd1
      obtain ⟨xa2, xb2, xc2, xd2⟩ := RatAt.below HA.out BB2.out
      obtain ⟨ya2, yb2, yc2, yd2⟩ := RatAt.below HB.out BB2.out
      go_wp2_with fail
      refine (CC.out _ (HRr.out.below (BB2.out))).mono ?_
      rintro e wc3 ⟨rfl, bc3⟩
      have BB3 := hid (below_up (BB2.out) bc3)
      clear bc3 xa2 xb2 xc2 xd2 ya2 yb2 yc2 yd2
      obtain ⟨xa3, xb3, xc3, xd3⟩ := RatAt.below HA.out BB3.out
      obtain ⟨ya3, yb3, yc3, yd3⟩ := RatAt.below HB.out BB3.out
      go_wp2_with fail
      refine (CK.out _ (HRr.out.below (BB3.out))).mono ?_
      rintro e wc4 ⟨rfl, bc4⟩
      have BB4 := hid (below_up (BB3.out) bc4)
      clear bc4 xa3 xb3 xc3 xd3 ya3 yb3 yc3 yd3
      obtain ⟨xa4, xb4, xc4, xd4⟩ := RatAt.below HA.out BB4.out
      obtain ⟨ya4, yb4, yc4, yd4⟩ := RatAt.below HB.out BB4.out
      go_wp2_with fail
      simp only [Exit.jump]
      go_ret
      exact ⟨congrArg (fun r => Ending.returned (Value.int .i64 r)) HRR.out, below_up HBW.out BB4.out⟩
    rw [decide_eq_false hr0] at hn0
    by_cases ht1 : m % c = 0
    · rw [decide_eq_true ht1] at ht0
      replace he := he (.inr ht1)
      clear hr0 ht1
      rcases sgZ_cases (n % d) (m % c) with ⟨hk, hkl⟩ | ⟨hk, hkl⟩ | ⟨hk, hkl⟩
      · rw [hk] at CK he
        have HRR := hid he
        clear he hk hkl HX2
        obtain ⟨xa0, xb0, xc0, xd0⟩ := HA.out
        obtain ⟨ya0, yb0, yc0, yd0⟩ := HB.out
        go_wp2_with fail
        refine (CA.out _ (HRr.out.below (Below.refl _ _))).mono ?_
        rintro e wc1 ⟨rfl, bc1⟩
        have BB1 := hid (below_up (Below.refl _ _) bc1)
        clear bc1 xa0 xb0 xc0 xd0 ya0 yb0 yc0 yd0
        obtain ⟨xa1, xb1, xc1, xd1⟩ := RatAt.below HA.out BB1.out
        obtain ⟨ya1, yb1, yc1, yd1⟩ := RatAt.below HB.out BB1.out
        go_wp2_with fail
        refine (CB.out _ (HRr.out.below (BB1.out))).mono ?_
        rintro e wc2 ⟨rfl, bc2⟩
        have BB2 := hid (below_up (BB1.out) bc2)
        clear bc2 xa1 xb1 xc1 xd1 ya1 yb1 yc1 yd1
        obtain ⟨xa2, xb2, xc2, xd2⟩ := RatAt.below HA.out BB2.out
        obtain ⟨ya2, yb2, yc2, yd2⟩ := RatAt.below HB.out BB2.out
        go_wp2_with fail
        refine (CC.out _ (HRr.out.below (BB2.out))).mono ?_
        rintro e wc3 ⟨rfl, bc3⟩
        have BB3 := hid (below_up (BB2.out) bc3)
        clear bc3 xa2 xb2 xc2 xd2 ya2 yb2 yc2 yd2
        obtain ⟨xa3, xb3, xc3, xd3⟩ := RatAt.below HA.out BB3.out
        obtain ⟨ya3, yb3, yc3, yd3⟩ := RatAt.below HB.out BB3.out
        go_wp2_with fail
        refine (CK.out _ (HRr.out.below (BB3.out))).mono ?_
        rintro e wc4 ⟨rfl, bc4⟩
        have BB4 := hid (below_up (BB3.out) bc4)
        clear bc4 xa3 xb3 xc3 xd3 ya3 yb3 yc3 yd3
        obtain ⟨xa4, xb4, xc4, xd4⟩ := RatAt.below HA.out BB4.out
        obtain ⟨ya4, yb4, yc4, yd4⟩ := RatAt.below HB.out BB4.out
        go_wp2_with fail
        simp only [Exit.jump]
        go_ret
        exact ⟨congrArg (fun r => Ending.returned (Value.int .i64 r)) HRR.out, below_up HBW.out BB4.out⟩
      · rw [hk] at CK he
        have HRR := hid he
        clear he hk hkl HX2
        obtain ⟨xa0, xb0, xc0, xd0⟩ := HA.out
        obtain ⟨ya0, yb0, yc0, yd0⟩ := HB.out
        go_wp2_with fail
        refine (CA.out _ (HRr.out.below (Below.refl _ _))).mono ?_
        rintro e wc1 ⟨rfl, bc1⟩
        have BB1 := hid (below_up (Below.refl _ _) bc1)
        clear bc1 xa0 xb0 xc0 xd0 ya0 yb0 yc0 yd0
        obtain ⟨xa1, xb1, xc1, xd1⟩ := RatAt.below HA.out BB1.out
        obtain ⟨ya1, yb1, yc1, yd1⟩ := RatAt.below HB.out BB1.out
        go_wp2_with fail
        refine (CB.out _ (HRr.out.below (BB1.out))).mono ?_
        rintro e wc2 ⟨rfl, bc2⟩
        have BB2 := hid (below_up (BB1.out) bc2)
        clear bc2 xa1 xb1 xc1 xd1 ya1 yb1 yc1 yd1
        obtain ⟨xa2, xb2, xc2, xd2⟩ := RatAt.below HA.out BB2.out
        obtain ⟨ya2, yb2, yc2, yd2⟩ := RatAt.below HB.out BB2.out
        go_wp2_with fail
        refine (CC.out _ (HRr.out.below (BB2.out))).mono ?_
        rintro e wc3 ⟨rfl, bc3⟩
        have BB3 := hid (below_up (BB2.out) bc3)
        clear bc3 xa2 xb2 xc2 xd2 ya2 yb2 yc2 yd2
        obtain ⟨xa3, xb3, xc3, xd3⟩ := RatAt.below HA.out BB3.out
        obtain ⟨ya3, yb3, yc3, yd3⟩ := RatAt.below HB.out BB3.out
        go_wp2_with fail
        refine (CK.out _ (HRr.out.below (BB3.out))).mono ?_
        rintro e wc4 ⟨rfl, bc4⟩
        have BB4 := hid (below_up (BB3.out) bc4)
        clear bc4 xa3 xb3 xc3 xd3 ya3 yb3 yc3 yd3
        obtain ⟨xa4, xb4, xc4, xd4⟩ := RatAt.below HA.out BB4.out
        obtain ⟨ya4, yb4, yc4, yd4⟩ := RatAt.below HB.out BB4.out
        go_wp2_with fail
        simp only [Exit.jump]
        go_ret
        exact ⟨congrArg (fun r => Ending.returned (Value.int .i64 r)) HRR.out, below_up HBW.out BB4.out⟩
      rw [hk] at CK he
      have HRR := hid he
      clear he hk hkl HX2
      obtain ⟨xa0, xb0, xc0, xd0⟩ := HA.out
      obtain ⟨ya0, yb0, yc0, yd0⟩ := HB.out
      go_wp2_with fail
      refine (CA.out _ (HRr.out.below (Below.refl _ _))).mono ?_
      rintro e wc1 ⟨rfl, bc1⟩
      have BB1 := hid (below_up (Below.refl _ _) bc1)
      clear bc1 xa0 xb0 xc0 xd0 ya0 yb0 yc0 yd0
      obtain ⟨xa1, xb1, xc1, xd1⟩ := RatAt.below HA.out BB1.out
      obtain ⟨ya1, yb1, yc1, yd1⟩ := RatAt.below HB.out BB1.out
      go_wp2_with fail
      refine (CB.out _ (HRr.out.below (BB1.out))).mono ?_
      rintro e wc2 ⟨rfl, bc2⟩
      have BB2 := hid (below_up (BB1.out) bc2)
      clear bc2 xa1 xb1 xc1 xd1 ya1 yb1 yc1 yd1
      obtain ⟨xa2, xb2, xc2, xd2⟩ := RatAt.below HA.out BB2.out
      obtain ⟨ya2, yb2, yc2, yd2⟩ := RatAt.below HB.out BB2.out
      go_wp2_with fail
      refine (CC.out _ (HRr.out.below (BB2.out))).mono ?_
      rintro e wc3 ⟨rfl, bc3⟩
      have BB3 := hid (below_up (BB2.out) bc3)
      clear bc3 xa2 xb2 xc2 xd2 ya2 yb2 yc2 yd2
      obtain ⟨xa3, xb3, xc3, xd3⟩ := RatAt.below HA.out BB3.out
      obtain ⟨ya3, yb3, yc3, yd3⟩ := RatAt.below HB.out BB3.out
      go_wp2_with fail
      refine (CK.out _ (HRr.out.below (BB3.out))).mono ?_
      rintro e wc4 ⟨rfl, bc4⟩
      have BB4 := hid (below_up (BB3.out) bc4)
      clear bc4 xa3 xb3 xc3 xd3 ya3 yb3 yc3 yd3
      obtain ⟨xa4, xb4, xc4, xd4⟩ := RatAt.below HA.out BB4.out
      obtain ⟨ya4, yb4, yc4, yd4⟩ := RatAt.below HB.out BB4.out
      go_wp2_with fail
      simp only [Exit.jump]
      go_ret
      exact ⟨congrArg (fun r => Ending.returned (Value.int .i64 r)) HRR.out, below_up HBW.out BB4.out⟩
    rw [decide_eq_false ht1] at ht0
    have hx := HX2.out hr0 ht1
    have HXX := hid hx
    clear he hr0 ht1 HX2 hx CK
    obtain ⟨xa0, xb0, xc0, xd0⟩ := HA.out
    obtain ⟨ya0, yb0, yc0, yd0⟩ := HB.out
    go_wp2_with fail
    refine (CA.out _ (HRr.out.below (Below.refl _ _))).mono ?_
    rintro e wc1 ⟨rfl, bc1⟩
    have BB1 := hid (below_up (Below.refl _ _) bc1)
    clear bc1 xa0 xb0 xc0 xd0 ya0 yb0 yc0 yd0
    obtain ⟨xa1, xb1, xc1, xd1⟩ := RatAt.below HA.out BB1.out
    obtain ⟨ya1, yb1, yc1, yd1⟩ := RatAt.below HB.out BB1.out
    go_wp2_with fail
    refine (CB.out _ (HRr.out.below (BB1.out))).mono ?_
    rintro e wc2 ⟨rfl, bc2⟩
    have BB2 := hid (below_up (BB1.out) bc2)
    clear bc2 xa1 xb1 xc1 xd1 ya1 yb1 yc1 yd1
    obtain ⟨xa2, xb2, xc2, xd2⟩ := RatAt.below HA.out BB2.out
    obtain ⟨ya2, yb2, yc2, yd2⟩ := RatAt.below HB.out BB2.out
    go_wp2_with fail
    refine (CC.out _ (HRr.out.below (BB2.out))).mono ?_
    rintro e wc3 ⟨rfl, bc3⟩
    have BB3 := hid (below_up (BB2.out) bc3)
    clear bc3 xa2 xb2 xc2 xd2 ya2 yb2 yc2 yd2
    obtain ⟨xa3, xb3, xc3, xd3⟩ := RatAt.below HA.out BB3.out
    obtain ⟨ya3, yb3, yc3, yd3⟩ := RatAt.below HB.out BB3.out
    go_wp2_with fail
    go_step3
    have hst := two_stores (x := textI c) (y := textI (m % c)) (z := textI d) (u := textI (n % d)) (by omega) (RatAt.below HA.out BB3.out) (RatAt.below HB.out BB3.out)
    refine ⟨rfl, ⟨c, m % c, d, n % d, ⟨_, _, _, _, _, _, _, _, _, _, _, _, _, _, _, _, _, _, _, _, _, _, _, _, _, _, _, _, _, _, _, _, _, _, _, _, _, _, _, _, _, _, _, _, _, _, _, _, _, _, _, _, _, _, _, _, rfl⟩, HXX.out.1, hst.1, hst.2, ((((below_up HBW.out BB3.out).setCell (p := ⟨w.heap.size, 0, none⟩) (Nat.le_refl _) _).setCell (p := ⟨w.heap.size, 1, none⟩) (Nat.le_refl _) _).setCell (p := ⟨w.heap.size + 1, 0, none⟩) (Nat.le_succ _) _).setCell (p := ⟨w.heap.size + 1, 1, none⟩) (Nat.le_succ _) _⟩, ?_⟩
    show CmpMu w.heap.size _ < CmpMu w.heap.size wr
    rw [cmpMu_at hst.1 hst.2 HF.out.2.2.2 HF.out.2.2.1, cmpMu_at HA.out HB.out HF.out.1 HF.out.2.1]
    exact HXX.out.2
  have hr := hw (by omega)
  rw [hz] at hr CC
  have HRR := hid hr
  clear hr hw he hz hl hn0 ht0
  obtain ⟨xa0, xb0, xc0, xd0⟩ := HA.out
  obtain ⟨ya0, yb0, yc0, yd0⟩ := HB.out
  go_wp2_with fail
  refine (CA.out _ (HRr.out.below (Below.refl _ _))).mono ?_
  rintro e wc1 ⟨rfl, bc1⟩
  have BB1 := hid (below_up (Below.refl _ _) bc1)
  clear bc1 xa0 xb0 xc0 xd0 ya0 yb0 yc0 yd0
  obtain ⟨xa1, xb1, xc1, xd1⟩ := RatAt.below HA.out BB1.out
  obtain ⟨ya1, yb1, yc1, yd1⟩ := RatAt.below HB.out BB1.out
  go_wp2_with fail
  refine (CB.out _ (HRr.out.below (BB1.out))).mono ?_
  rintro e wc2 ⟨rfl, bc2⟩
  have BB2 := hid (below_up (BB1.out) bc2)
  clear bc2 xa1 xb1 xc1 xd1 ya1 yb1 yc1 yd1
  obtain ⟨xa2, xb2, xc2, xd2⟩ := RatAt.below HA.out BB2.out
  obtain ⟨ya2, yb2, yc2, yd2⟩ := RatAt.below HB.out BB2.out
  go_wp2_with fail
  refine (CC.out _ (HRr.out.below (BB2.out))).mono ?_
  rintro e wc3 ⟨rfl, bc3⟩
  have BB3 := hid (below_up (BB2.out) bc3)
  clear bc3 xa2 xb2 xc2 xd2 ya2 yb2 yc2 yd2
  obtain ⟨xa3, xb3, xc3, xd3⟩ := RatAt.below HA.out BB3.out
  obtain ⟨ya3, yb3, yc3, yd3⟩ := RatAt.below HB.out BB3.out
  go_wp2_with fail
  simp only [Exit.jump]
  go_ret
  exact ⟨congrArg (fun r => Ending.returned (Value.int .i64 r)) HRR.out, below_up HBW.out BB3.out⟩
theorem text_size {q : Rat} (h : FitsQ q) : (nT q).size ≤ 1099511627776 ∧ (dT q).size ≤ 1099511627776 := by
 have := nT_size h
 have := dT_size h
 omega
theorem addB_fits {an ad bn bd : ByteArray} (h : addB an ad bn bd = true) : FitsQ (valQ an ad + valQ bn bd) := by
 simp only [addB, Bool.and_eq_true] at h
 obtain ⟨hb, ⟨_, _, h3⟩, h4⟩ := h
 rw [← add_val hb]
 exact divInt_fits ((fitB_iff _).1 h4) ((fitB_iff _).1 h3) (Int.mul_ne_zero (den_ne (both_parts hb).1) (den_ne (both_parts hb).2))
theorem subB_fits {an ad bn bd : ByteArray} (h : subB an ad bn bd = true) : FitsQ (valQ an ad - valQ bn bd) := by
 simp only [subB, Bool.and_eq_true] at h
 obtain ⟨hb, ⟨_, _, h3⟩, h4⟩ := h
 rw [← sub_val hb]
 exact divInt_fits ((fitB_iff _).1 h4) ((fitB_iff _).1 h3) (Int.mul_ne_zero (den_ne (both_parts hb).1) (den_ne (both_parts hb).2))
theorem mulB_fits {an ad bn bd : ByteArray} (h : mulB an ad bn bd = true) : FitsQ (valQ an ad * valQ bn bd) := by
 simp only [mulB, Bool.and_eq_true] at h
 obtain ⟨hb, h3, h4⟩ := h
 rw [← mul_val]
 exact divInt_fits ((fitB_iff _).1 h3) ((fitB_iff _).1 h4) (Int.mul_ne_zero (den_ne (both_parts hb).1) (den_ne (both_parts hb).2))
theorem divB_fits {an ad bn bd : ByteArray} (h : divB an ad bn bd = true) : FitsQ (valQ an ad / valQ bn bd) := by
 simp only [divB, Bool.and_eq_true] at h
 obtain ⟨hb, ⟨h3, h4⟩, h5⟩ := h
 rw [← div_val]
 exact divInt_fits ((fitB_iff _).1 h3) ((fitB_iff _).1 h4) (Int.mul_ne_zero (den_ne (both_parts hb).1) (of_decide_eq_true h5))
theorem out_size {b : Bool} {x : Rat} (h : b = true → FitsQ x) : (outN b x).size ≤ 1099511627776 ∧ (outD b x).size ≤ 1099511627776 := by
 cases b with
 | false => exact ⟨show (ByteArray.empty).size ≤ 1099511627776 by decide, show (ByteArray.empty).size ≤ 1099511627776 by decide⟩
 | true => exact text_size (h rfl)
theorem StepIs.form {W : World} {v : Value} {f : StepF} (h : StepIs W v f) : ∃ (g : Nat) (c : Array Value), v = .func (.func g) #[] c := by
 obtain ⟨_, g, c, e, _⟩ := h
 exact ⟨g, c, e⟩
theorem keep4 {W0 : World} {A B C : Nat} {an ad bn bd x y : ByteArray} (h : ∀ W, Below W0.heap.size W0 W → RatAt W A an ad ∧ RatAt W B bn bd ∧ RatAt W C x y) {W : World} (b : Below W0.heap.size W0 W) :
 (W.cell? ⟨A, 0, none⟩ = some (.string an) ∧ W.cell? ⟨A, 1, none⟩ = some (.string ad)) ∧ (W.cell? ⟨B, 0, none⟩ = some (.string bn) ∧ W.cell? ⟨B, 1, none⟩ = some (.string bd)) :=
 ⟨⟨(h W b).1.1, (h W b).1.2.1⟩, (h W b).2.1.1, (h W b).2.1.2.1⟩
theorem steps_one {W : World} {v : Value} {f : StepF} (h : StepIs W v f) : StepsIs W [v] [f] := ⟨h, trivial⟩
theorem steps_two {W : World} {v u : Value} {f g : StepF} (h : StepIs W v f) (h2 : StepIs W u g) : StepsIs W [v, u] [f, g] := ⟨h, h2, trivial⟩
theorem lit_at (W : World) (l : List Value) (W' : World) (h : W.alloc (.cells l.toArray 104) = W') : StepsAt W' (.slice (some ⟨W.heap.size, 0, none⟩) l.length l.length) l := by
 refine .inr ⟨W.heap.size, rfl, fun j u hj => ?_⟩
 have := cells_new W l #[] 104 j u hj
 rw [Array.append_empty] at this
 rw [← h]
 exact this
theorem add_q (an ad bn bd : ByteArray) (h1 : an.size ≤ 1099511627776) (h2 : ad.size ≤ 1099511627776) (h3 : bn.size ≤ 1099511627776) (h4 : bd.size ≤ 1099511627776) (w : World) (hR : Ready w) :
 Calls Tryz.prog 45 #[.agg #[.string an, .string ad], .agg #[.string bn, .string bd]] w fun e w' => e = .returned (.tuple #[.agg #[.string (outN (addB an ad bn bd) (valQ an ad + valQ bn bd)), .string (outD (addB an ad bn bd) (valQ an ad + valQ bn bd))], .int .i64 (outE (addB an ad bn bd))]) ∧ Below w.heap.size w w' := by
 obtain ⟨W0, hW0, b0, hcc⟩ := box_three w an ad bn bd ⟨#[]⟩ ⟨#[]⟩
 have HW := hid hW0; have HC := hid hcc; have B0 := hid b0
 have HR := hid (hR.below b0)
 have P0 := hid (Below.refl W0.heap.size W0)
 clear hW0 hcc b0
 clear hR
 have ct := fun W (h : Ready W) => timesQ_any bd bd h4 h4 W h
 have cw := fun W (h : Ready W) => withQ_add bn ad h3 h2 W h
 have hO : (if bothB an ad bn bd then chain ([timesF bd bd, withF (· + ·) bn ad] ++ [unsF, lowF]) an ad else none) = if addB an ad bn bd then some (nT (valQ an ad + valQ bn bd), dT (valQ an ad + valQ bn bd)) else none := by
  cases hv : bothB an ad bn bd with
  | false => rw [if_neg (by decide)]; unfold addB; rw [hv]; rfl
  | true => rw [if_pos rfl]; exact chain_add hv
 have cc := fun W (h : Ready W) (v : Value) (vals : List Value) (hl : vals.length ≤ 1000) (hv : StepsAt W v vals) (hf : StepsIs W vals [timesF bd bd, withF (· + ·) bn ad]) => combine_any an ad bn bd h1 h2 h3 h4 v vals [timesF bd bd, withF (· + ·) bn ad] hl _ hO W h hv hf
 obtain ⟨p1, p2, p3⟩ := pair_out (addB an ad bn bd) (valQ an ad + valQ bn bd)
 rw [p1, p2, p3] at cc
 clear p1 p2 p3 hO
 generalize outN (addB an ad bn bd) (valQ an ad + valQ bn bd) = XN at *
 generalize outD (addB an ad bn bd) (valQ an ad + valQ bn bd) = XD at *
 generalize outE (addB an ad bn bd) = XE at *
 have CC := hid cc; have CT := hid ct; have CW := hid cw
 clear cc ct cw h1 h2 h3 h4
 go_enter Tryz.func45, Tryz.ntmps45
 obtain ⟨⟨ca0, cb0, cc0, cd0⟩, ⟨ce0, cf0, cg0, ch0⟩, ⟨ci0, cj0, ck0, cl0⟩⟩ := HC.out _ (Below.refl _ _)
 go_wp2_with (rw [HW.out])
 go_region_held3 (fun W => (W.cell? ⟨w.heap.size, 0, none⟩ = some (.string an) ∧ W.cell? ⟨w.heap.size, 1, none⟩ = some (.string ad)) ∧ (W.cell? ⟨w.heap.size + 1, 0, none⟩ = some (.string bn) ∧ W.cell? ⟨w.heap.size + 1, 1, none⟩ = some (.string bd)))
  (first | exact keep4 HC.out ⟨rfl, rfl, rfl, Nat.le_refl _, fun _ _ => rfl⟩ | exact keep4 HC.out hb1 | exact keep4 HC.out hb12 | exact keep4 HC.out (hb12.alloc hb12.size _) | exact keep4 HC.out hb3 | ((have hq := HC.out _ hb3); simp [go_sem, hq.1.1, hq.1.2.1, hq.2.1.1, hq.2.1.2.1]))
  (first | (go_at_call 88; (with_reducible refine (CT.out _ ?_).mono ?_); exact HR.out.below ⟨rfl, rfl, rfl, Nat.le_refl _, fun _ _ => rfl⟩; (rintro e w5 ⟨v1, rfl, hi1, hb1'⟩); (obtain ⟨g1, k1, rfl⟩ := hi1.form); have hb1 : Below W0.heap.size W0 w5 := ⟨hb1'.os, hb1'.tape, hb1'.output, hb1'.size, hb1'.block⟩) | (go_at_call 89; (with_reducible refine (CW.out _ ?_).mono ?_); exact HR.out.below hb1; (rintro e w6 ⟨v2, rfl, hi2, hb2'⟩); (obtain ⟨g2, k2, rfl⟩ := hi2.form); have hb2 : Below w5.heap.size w5 w6 := ⟨hb2'.os, hb2'.tape, hb2'.output, hb2'.size, hb2'.block⟩; have hi1' := hi1.below hb2; have hb12 := below_up hb1 hb2) | (go_at_call 87; (refine (CC.out _ (HR.out.below (hb12.alloc hb12.size _)) _ [_, _] (by simp) (lit_at w6 [_, _] _ rfl) (steps_two (hi1'.below ((Below.refl _ _).alloc (Nat.le_refl _) _)) (hi2.below ((Below.refl _ _).alloc (Nat.le_refl _) _)))).mono ?_); (rintro e w7 ⟨rfl, hb3'⟩); (have hb3 : Below W0.heap.size W0 w7 := below_up (hb12.alloc hb12.size _) hb3'); (obtain ⟨_, _, ⟨ci7, cj7, ck7, cl7⟩⟩ := HC.out _ hb3)))
 all_goals (
  have P7 := hid hb3
  go_wp2
  exact bodyPost_ret (v := .tuple #[.agg #[.string XN, .string XD], .int .i64 XE]) (by simp [results, Tryz.results45, go_sem, ci7, cj7]) rfl ⟨rfl, rat_done B0.out (by omega) P7.out _ _⟩)
theorem sub_q (an ad bn bd : ByteArray) (h1 : an.size ≤ 1099511627776) (h2 : ad.size ≤ 1099511627776) (h3 : bn.size ≤ 1099511627776) (h4 : bd.size ≤ 1099511627776) (w : World) (hR : Ready w) :
 Calls Tryz.prog 49 #[.agg #[.string an, .string ad], .agg #[.string bn, .string bd]] w fun e w' => e = .returned (.tuple #[.agg #[.string (outN (subB an ad bn bd) (valQ an ad - valQ bn bd)), .string (outD (subB an ad bn bd) (valQ an ad - valQ bn bd))], .int .i64 (outE (subB an ad bn bd))]) ∧ Below w.heap.size w w' := by
 obtain ⟨W0, hW0, b0, hcc⟩ := box_three w an ad bn bd ⟨#[]⟩ ⟨#[]⟩
 have HW := hid hW0; have HC := hid hcc; have B0 := hid b0
 have HR := hid (hR.below b0)
 have P0 := hid (Below.refl W0.heap.size W0)
 clear hW0 hcc b0
 clear hR
 have ct := fun W (h : Ready W) => timesQ_any bd bd h4 h4 W h
 have cw := fun W (h : Ready W) => withQ_sub bn ad h3 h2 W h
 have hO : (if bothB an ad bn bd then chain ([timesF bd bd, withF (· - ·) bn ad] ++ [unsF, lowF]) an ad else none) = if subB an ad bn bd then some (nT (valQ an ad - valQ bn bd), dT (valQ an ad - valQ bn bd)) else none := by
  cases hv : bothB an ad bn bd with
  | false => rw [if_neg (by decide)]; unfold subB; rw [hv]; rfl
  | true => rw [if_pos rfl]; exact chain_sub hv
 have cc := fun W (h : Ready W) (v : Value) (vals : List Value) (hl : vals.length ≤ 1000) (hv : StepsAt W v vals) (hf : StepsIs W vals [timesF bd bd, withF (· - ·) bn ad]) => combine_any an ad bn bd h1 h2 h3 h4 v vals [timesF bd bd, withF (· - ·) bn ad] hl _ hO W h hv hf
 obtain ⟨p1, p2, p3⟩ := pair_out (subB an ad bn bd) (valQ an ad - valQ bn bd)
 rw [p1, p2, p3] at cc
 clear p1 p2 p3 hO
 generalize outN (subB an ad bn bd) (valQ an ad - valQ bn bd) = XN at *
 generalize outD (subB an ad bn bd) (valQ an ad - valQ bn bd) = XD at *
 generalize outE (subB an ad bn bd) = XE at *
 have CC := hid cc; have CT := hid ct; have CW := hid cw
 clear cc ct cw h1 h2 h3 h4
 go_enter Tryz.func49, Tryz.ntmps49
 obtain ⟨⟨ca0, cb0, cc0, cd0⟩, ⟨ce0, cf0, cg0, ch0⟩, ⟨ci0, cj0, ck0, cl0⟩⟩ := HC.out _ (Below.refl _ _)
 go_wp2_with (rw [HW.out])
 go_region_held3 (fun W => (W.cell? ⟨w.heap.size, 0, none⟩ = some (.string an) ∧ W.cell? ⟨w.heap.size, 1, none⟩ = some (.string ad)) ∧ (W.cell? ⟨w.heap.size + 1, 0, none⟩ = some (.string bn) ∧ W.cell? ⟨w.heap.size + 1, 1, none⟩ = some (.string bd)))
  (first | exact keep4 HC.out ⟨rfl, rfl, rfl, Nat.le_refl _, fun _ _ => rfl⟩ | exact keep4 HC.out hb1 | exact keep4 HC.out hb12 | exact keep4 HC.out (hb12.alloc hb12.size _) | exact keep4 HC.out hb3 | ((have hq := HC.out _ hb3); simp [go_sem, hq.1.1, hq.1.2.1, hq.2.1.1, hq.2.1.2.1]))
  (first | (go_at_call 88; (with_reducible refine (CT.out _ ?_).mono ?_); exact HR.out.below ⟨rfl, rfl, rfl, Nat.le_refl _, fun _ _ => rfl⟩; (rintro e w5 ⟨v1, rfl, hi1, hb1'⟩); (obtain ⟨g1, k1, rfl⟩ := hi1.form); have hb1 : Below W0.heap.size W0 w5 := ⟨hb1'.os, hb1'.tape, hb1'.output, hb1'.size, hb1'.block⟩) | (go_at_call 89; (with_reducible refine (CW.out _ ?_).mono ?_); exact HR.out.below hb1; (rintro e w6 ⟨v2, rfl, hi2, hb2'⟩); (obtain ⟨g2, k2, rfl⟩ := hi2.form); have hb2 : Below w5.heap.size w5 w6 := ⟨hb2'.os, hb2'.tape, hb2'.output, hb2'.size, hb2'.block⟩; have hi1' := hi1.below hb2; have hb12 := below_up hb1 hb2) | (go_at_call 87; (refine (CC.out _ (HR.out.below (hb12.alloc hb12.size _)) _ [_, _] (by simp) (lit_at w6 [_, _] _ rfl) (steps_two (hi1'.below ((Below.refl _ _).alloc (Nat.le_refl _) _)) (hi2.below ((Below.refl _ _).alloc (Nat.le_refl _) _)))).mono ?_); (rintro e w7 ⟨rfl, hb3'⟩); (have hb3 : Below W0.heap.size W0 w7 := below_up (hb12.alloc hb12.size _) hb3'); (obtain ⟨_, _, ⟨ci7, cj7, ck7, cl7⟩⟩ := HC.out _ hb3)))
 all_goals (
  have P7 := hid hb3
  go_wp2
  exact bodyPost_ret (v := .tuple #[.agg #[.string XN, .string XD], .int .i64 XE]) (by simp [results, Tryz.results49, go_sem, ci7, cj7]) rfl ⟨rfl, rat_done B0.out (by omega) P7.out _ _⟩)
theorem mul_q (an ad bn bd : ByteArray) (h1 : an.size ≤ 1099511627776) (h2 : ad.size ≤ 1099511627776) (h3 : bn.size ≤ 1099511627776) (h4 : bd.size ≤ 1099511627776) (w : World) (hR : Ready w) :
 Calls Tryz.prog 51 #[.agg #[.string an, .string ad], .agg #[.string bn, .string bd]] w fun e w' => e = .returned (.tuple #[.agg #[.string (outN (mulB an ad bn bd) (valQ an ad * valQ bn bd)), .string (outD (mulB an ad bn bd) (valQ an ad * valQ bn bd))], .int .i64 (outE (mulB an ad bn bd))]) ∧ Below w.heap.size w w' := by
 obtain ⟨W0, hW0, b0, hcc⟩ := box_three w an ad bn bd ⟨#[]⟩ ⟨#[]⟩
 have HW := hid hW0; have HC := hid hcc; have B0 := hid b0
 have HR := hid (hR.below b0)
 have P0 := hid (Below.refl W0.heap.size W0)
 clear hW0 hcc b0
 clear hR
 have ct := fun W (h : Ready W) => timesQ_any bn bd h3 h4 W h
 have hO : (if bothB an ad bn bd then chain ([timesF bn bd] ++ [unsF, lowF]) an ad else none) = if mulB an ad bn bd then some (nT (valQ an ad * valQ bn bd), dT (valQ an ad * valQ bn bd)) else none := by
  cases hv : bothB an ad bn bd with
  | false => rw [if_neg (by decide)]; unfold mulB; rw [hv]; rfl
  | true => rw [if_pos rfl]; exact chain_mul hv
 have cc := fun W (h : Ready W) (v : Value) (vals : List Value) (hl : vals.length ≤ 1000) (hv : StepsAt W v vals) (hf : StepsIs W vals [timesF bn bd]) => combine_any an ad bn bd h1 h2 h3 h4 v vals [timesF bn bd] hl _ hO W h hv hf
 obtain ⟨p1, p2, p3⟩ := pair_out (mulB an ad bn bd) (valQ an ad * valQ bn bd)
 rw [p1, p2, p3] at cc
 clear p1 p2 p3 hO
 generalize outN (mulB an ad bn bd) (valQ an ad * valQ bn bd) = XN at *
 generalize outD (mulB an ad bn bd) (valQ an ad * valQ bn bd) = XD at *
 generalize outE (mulB an ad bn bd) = XE at *
 have CC := hid cc; have CT := hid ct
 clear cc ct h1 h2 h3 h4
 go_enter Tryz.func51, Tryz.ntmps51
 obtain ⟨⟨ca0, cb0, cc0, cd0⟩, ⟨ce0, cf0, cg0, ch0⟩, ⟨ci0, cj0, ck0, cl0⟩⟩ := HC.out _ (Below.refl _ _)
 go_wp2_with (rw [HW.out])
 go_region_held3 (fun W => (W.cell? ⟨w.heap.size, 0, none⟩ = some (.string an) ∧ W.cell? ⟨w.heap.size, 1, none⟩ = some (.string ad)) ∧ (W.cell? ⟨w.heap.size + 1, 0, none⟩ = some (.string bn) ∧ W.cell? ⟨w.heap.size + 1, 1, none⟩ = some (.string bd)))
  (first | exact keep4 HC.out ⟨rfl, rfl, rfl, Nat.le_refl _, fun _ _ => rfl⟩ | exact keep4 HC.out hb1 | exact keep4 HC.out (hb1.alloc hb1.size _) | exact keep4 HC.out hb3 | ((have hq := HC.out _ hb3); simp [go_sem, hq.1.1, hq.1.2.1, hq.2.1.1, hq.2.1.2.1]))
  (first | (go_at_call 88; (with_reducible refine (CT.out _ ?_).mono ?_); exact HR.out.below ⟨rfl, rfl, rfl, Nat.le_refl _, fun _ _ => rfl⟩; (rintro e w5 ⟨v1, rfl, hi1, hb1'⟩); (obtain ⟨g1, k1, rfl⟩ := hi1.form); have hb1 : Below W0.heap.size W0 w5 := ⟨hb1'.os, hb1'.tape, hb1'.output, hb1'.size, hb1'.block⟩) | (go_at_call 87; (refine (CC.out _ (HR.out.below (hb1.alloc hb1.size _)) _ [_] (by simp) (lit_at w5 [_] _ rfl) (steps_one (hi1.below ((Below.refl _ _).alloc (Nat.le_refl _) _)))).mono ?_); (rintro e w7 ⟨rfl, hb3'⟩); (have hb3 : Below W0.heap.size W0 w7 := below_up (hb1.alloc hb1.size _) hb3'); (obtain ⟨_, _, ⟨ci7, cj7, ck7, cl7⟩⟩ := HC.out _ hb3)))
 all_goals (
  have P7 := hid hb3
  go_wp2
  exact bodyPost_ret (v := .tuple #[.agg #[.string XN, .string XD], .int .i64 XE]) (by simp [results, Tryz.results51, go_sem, ci7, cj7]) rfl ⟨rfl, rat_done B0.out (by omega) P7.out _ _⟩)
theorem div_q (an ad bn bd : ByteArray) (h1 : an.size ≤ 1099511627776) (h2 : ad.size ≤ 1099511627776) (h3 : bn.size ≤ 1099511627776) (h4 : bd.size ≤ 1099511627776) (w : World) (hR : Ready w) :
 Calls Tryz.prog 55 #[.agg #[.string an, .string ad], .agg #[.string bn, .string bd]] w fun e w' => e = .returned (.tuple #[.agg #[.string (outN (divB an ad bn bd) (valQ an ad / valQ bn bd)), .string (outD (divB an ad bn bd) (valQ an ad / valQ bn bd))], .int .i64 (outE (divB an ad bn bd))]) ∧ Below w.heap.size w w' := by
 obtain ⟨W0, hW0, b0, hcc⟩ := box_three w an ad bn bd ⟨#[]⟩ ⟨#[]⟩
 have HW := hid hW0; have HC := hid hcc; have B0 := hid b0
 have HR := hid (hR.below b0)
 have P0 := hid (Below.refl W0.heap.size W0)
 clear hW0 hcc b0
 clear hR
 have ct := fun W (h : Ready W) => timesQ_any bd bn h4 h3 W h
 have hO : (if bothB an ad bn bd then chain ([timesF bd bn] ++ [unsF, lowF]) an ad else none) = if divB an ad bn bd then some (nT (valQ an ad / valQ bn bd), dT (valQ an ad / valQ bn bd)) else none := by
  cases hv : bothB an ad bn bd with
  | false => rw [if_neg (by decide)]; unfold divB; rw [hv]; rfl
  | true => rw [if_pos rfl]; exact chain_div hv
 have cc := fun W (h : Ready W) (v : Value) (vals : List Value) (hl : vals.length ≤ 1000) (hv : StepsAt W v vals) (hf : StepsIs W vals [timesF bd bn]) => combine_any an ad bn bd h1 h2 h3 h4 v vals [timesF bd bn] hl _ hO W h hv hf
 obtain ⟨p1, p2, p3⟩ := pair_out (divB an ad bn bd) (valQ an ad / valQ bn bd)
 rw [p1, p2, p3] at cc
 clear p1 p2 p3 hO
 generalize outN (divB an ad bn bd) (valQ an ad / valQ bn bd) = XN at *
 generalize outD (divB an ad bn bd) (valQ an ad / valQ bn bd) = XD at *
 generalize outE (divB an ad bn bd) = XE at *
 have CC := hid cc; have CT := hid ct
 clear cc ct h1 h2 h3 h4
 go_enter Tryz.func55, Tryz.ntmps55
 obtain ⟨⟨ca0, cb0, cc0, cd0⟩, ⟨ce0, cf0, cg0, ch0⟩, ⟨ci0, cj0, ck0, cl0⟩⟩ := HC.out _ (Below.refl _ _)
 go_wp2_with (rw [HW.out])
 go_region_held3 (fun W => (W.cell? ⟨w.heap.size, 0, none⟩ = some (.string an) ∧ W.cell? ⟨w.heap.size, 1, none⟩ = some (.string ad)) ∧ (W.cell? ⟨w.heap.size + 1, 0, none⟩ = some (.string bn) ∧ W.cell? ⟨w.heap.size + 1, 1, none⟩ = some (.string bd)))
  (first | exact keep4 HC.out ⟨rfl, rfl, rfl, Nat.le_refl _, fun _ _ => rfl⟩ | exact keep4 HC.out hb1 | exact keep4 HC.out (hb1.alloc hb1.size _) | exact keep4 HC.out hb3 | ((have hq := HC.out _ hb3); simp [go_sem, hq.1.1, hq.1.2.1, hq.2.1.1, hq.2.1.2.1]))
  (first | (go_at_call 88; (with_reducible refine (CT.out _ ?_).mono ?_); exact HR.out.below ⟨rfl, rfl, rfl, Nat.le_refl _, fun _ _ => rfl⟩; (rintro e w5 ⟨v1, rfl, hi1, hb1'⟩); (obtain ⟨g1, k1, rfl⟩ := hi1.form); have hb1 : Below W0.heap.size W0 w5 := ⟨hb1'.os, hb1'.tape, hb1'.output, hb1'.size, hb1'.block⟩) | (go_at_call 87; (refine (CC.out _ (HR.out.below (hb1.alloc hb1.size _)) _ [_] (by simp) (lit_at w5 [_] _ rfl) (steps_one (hi1.below ((Below.refl _ _).alloc (Nat.le_refl _) _)))).mono ?_); (rintro e w7 ⟨rfl, hb3'⟩); (have hb3 : Below W0.heap.size W0 w7 := below_up (hb1.alloc hb1.size _) hb3'); (obtain ⟨_, _, ⟨ci7, cj7, ck7, cl7⟩⟩ := HC.out _ hb3)))
 all_goals (
  have P7 := hid hb3
  go_wp2
  exact bodyPost_ret (v := .tuple #[.agg #[.string XN, .string XD], .int .i64 XE]) (by simp [results, Tryz.results55, go_sem, ci7, cj7]) rfl ⟨rfl, rat_done B0.out (by omega) P7.out _ _⟩)
end Go.Proofs.YtcglcgphgahnpaaGreatDoor
