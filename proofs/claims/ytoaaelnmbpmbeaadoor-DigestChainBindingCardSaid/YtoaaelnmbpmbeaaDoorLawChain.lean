/-
  DigestChainBinding returns true for all arguments: the walk.
-/
import Derived.Test.YtoaaelnmbpmbeaaDoorHeads
import Derived.Deep.RegionHeld3
namespace Go.Proofs.YtoaaelnmbpmbeaaDoor
open Go Go.Proofs Go.RowKit Go.Lib

def zeros : Array Value := (List.replicate 32 (Value.int .u8 0)).toArray
theorem make_zeros (W : World) : (Instr.makeSlice 43 (.int .i64 32) (.int .i64 32)).run Tryd.prog W = .ok (.slice (some ⟨W.heap.size, 0, none⟩) 32 32) (W.alloc (.cells zeros 5)) := make_zero W
theorem conv_zeros (W' : World) (g : Nat) (h : W'.heap[g]? = some (.cells zeros 5)) :
    (convert 43 9 (.slice (some ⟨g, 0, none⟩) 32 32)).run Tryd.prog W' = .ok (.string zero32) W' := by
  have hb : Bytes W' g 0 zero32 := by
    intro i hi
    have hi2 : i < 32 := hi
    rw [zero_at i hi, Nat.zero_add, cell_of_row _ _ i _ _ _ h, zeros, List.getElem?_toArray, List.getElem?_replicate, if_pos hi2]
    rfl
  exact run_convert_whole (P := Tryd.prog) W' 43 5 9 Tryd.underlying43 Tryd.underlying5 Tryd.underlying9 g 0 zero32 hb 32

/-- The conversion in the region of the zero digest, by a name. -/
def hidOp (s : String) : Oper := { dst := some 77, op := Op.convert 43 9 (Operand.tmp 76), type := 9, pos := s, after := #[{ on := 15, ground := Ground.data }, { on := 5, ground := Ground.guard }], guard := some (5, true) }

set_option maxRecDepth 100000 in
set_option maxHeartbeats 16000000 in
theorem chain_walk (ap : Option Addr) (np cp : Nat) (tp : Nat → ByteArray) (aq : Option Addr) (nq cq : Nat) (tq : Nat → ByteArray) (w : World)
    (hnp : np ≤ maxLen) (hIp : StrsIn w ap np tp) (hnq : nq ≤ maxLen) (hIq : StrsIn w aq nq tq) (hR : Ready w) :
    Calls Tryd.prog 9 #[.slice ap np cp, .slice aq nq cq] w fun e w' => e = .returned (.bool true) ∧ Below w.heap.size w w' := by
  have HR := Lib.hid hR
  clear hR
  obtain ⟨P, hP⟩ : ∃ M, min np 20 = M := ⟨_, rfl⟩
  obtain ⟨Q, hQ⟩ : ∃ M, min nq 20 = M := ⟨_, rfl⟩
  have hP70 : P ≤ 20 := by omega
  have hQ70 : Q ≤ 20 := by omega
  obtain ⟨p, hp⟩ : ∃ l, fewL tp P = l := ⟨_, rfl⟩
  obtain ⟨q, hq⟩ : ∃ l, fewL tq Q = l := ⟨_, rfl⟩
  have hpl : p.length = P := by rw [← hp]; exact fewL_length tp P
  have hql : q.length = Q := by rw [← hq]; exact fewL_length tq Q
  have hpz : ∀ x ∈ p, x.size ≤ 60 := by rw [← hp]; exact fewL_small tp P
  have hqz : ∀ x ∈ q, x.size ≤ 60 := by rw [← hq]; exact fewL_small tq Q
  have cp' := fun W hb => few_call ap np cp tp 20 P p hnp (by decide) hP hp w W hIp hb
  have cq' := fun W hb => few_call aq nq cq tq 20 Q q hnq (by decide) hQ hq w W hIq hb
  have PL := Lib.hid hpl; have QL := Lib.hid hql; have PZ := Lib.hid hpz; have QZ := Lib.hid hqz; have CP := Lib.hid cp'; have CQ := Lib.hid cq'
  clear hP hQ hp hq hpl hql hpz hqz cp' cq' hIp hIq hnp hnq
  go_enter Tryd.func9, Tryd.ntmps9
  go_wp2_with fail
  refine (sane_any _ HR.out).mono ?_
  rintro e w1 ⟨rfl, b1⟩
  have B1 := Lib.hid b1
  clear b1
  go_wp2_with fail
  refine (CP.out _ B1.out).mono ?_
  rintro e w2 ⟨adp, capp, rfl, hhp, b2⟩
  have K2 := Lib.hid (Keeps.mk (w := w) (W := w2) (B1.out.trans (b2.mono B1.out.size)) hhp ((HR.out.below B1.out).below b2))
  clear hhp b2 B1
  go_wp2_with fail
  refine (CQ.out _ K2.out.hb).mono ?_
  rintro e w3 ⟨adq, capq, rfl, hhq, b3⟩
  have K3 := Lib.hid (K2.out.go b3)
  have J3 := Lib.hid (Keeps.mk K3.out.hb hhq K3.out.hr)
  clear hhq b3 K2 CP CQ HR
  have ca := heads_any p adp P capp w3 K3.out.hh PL.out (by omega) (fun x hx => by have := PZ.out x hx; omega) K3.out.hr
  have cb := fun W (h : Keeps w W adq capq q) => heads_any q adq Q capq W h.hh QL.out (by omega) (fun x hx => by have := QZ.out x hx; omega) h.hr
  have cs := fun W (h1 : Keeps w W adp capp p) (h2 : Keeps w W adq capq q) => same_any p q adp adq P Q capp capq W h1.hh h2.hh PL.out QL.out
  have hlA := headR_length p.reverse
  have hlB := headR_length q.reverse
  rw [List.length_reverse, PL.out] at hlA
  rw [List.length_reverse, QL.out] at hlB
  have hsA := headR_small p.reverse (fun x hx => by have := PZ.out x (by simpa using hx); omega)
  have hsB := headR_small q.reverse (fun x hx => by have := QZ.out x (by simpa using hx); omega)
  have hzA := headV_size p.reverse
  have hbind := fun (hne : p ≠ q) => chain_binds p.reverse q.reverse (fun e => hne (by simpa using congrArg List.reverse e))
  have hsame : p = q → headV p.reverse = headV q.reverse := fun e => by rw [e]
  obtain ⟨A, eA⟩ : ∃ A, headR p.reverse = A := ⟨_, rfl⟩
  obtain ⟨B, eB⟩ : ∃ B, headR q.reverse = B := ⟨_, rfl⟩
  obtain ⟨vA, evA⟩ : ∃ A, headV p.reverse = A := ⟨_, rfl⟩
  obtain ⟨vB, evB⟩ : ∃ B, headV q.reverse = B := ⟨_, rfl⟩
  rw [eA] at ca hlA hsA hbind
  rw [eB] at cb hlB hsB hbind
  rw [evA] at ca hzA hbind hsame
  rw [evB] at cb hbind hsame
  have CA := Lib.hid ca; have CB := Lib.hid cb; have CS := Lib.hid cs; have LA := Lib.hid hlA; have LB := Lib.hid hlB; have SA := Lib.hid hsA; have SB := Lib.hid hsB; have HB := Lib.hid hbind; have HS := Lib.hid hsame
  clear ca cb cs hlA hlB hsA hsB hbind hsame eA eB evA evB PZ QZ
  go_wp2_with fail
  refine CA.out.mono ?_
  rintro e w4 ⟨v4, rfl, ho4, b4⟩
  obtain ⟨ad4, cap4, rfl, hh4⟩ := own_holds P ho4 LA.out (by omega)
  have K4 := Lib.hid (K3.out.go b4); have J4 := Lib.hid (J3.out.go b4)
  have X4 := Lib.hid (Keeps.mk K4.out.hb hh4 K4.out.hr)
  clear ho4 b4 hh4 K3 J3 CA
  go_wp2_with fail
  refine (CB.out _ J4.out).mono ?_
  rintro e w5 ⟨v5, rfl, ho5, b5⟩
  obtain ⟨ad5, cap5, rfl, hh5⟩ := own_holds Q ho5 LB.out (by omega)
  have K5 := Lib.hid (K4.out.go b5); have J5 := Lib.hid (J4.out.go b5); have X5 := Lib.hid (X4.out.go b5)
  have Y5 := Lib.hid (Keeps.mk K5.out.hb hh5 K5.out.hr)
  clear ho5 b5 hh5 K4 J4 X4 CB
  have hz1 : ((vA.size : Int) == 32) = true := by rw [beq_iff_eq]; omega
  have hz2 : ((vA.size : Int) != 32) = false := by rw [bne, hz1]; rfl
  go_wp2_with fail
  refine (CS.out _ K5.out J5.out).mono ?_
  rintro e w6 ⟨rfl, b6⟩
  have X6 := Lib.hid (X5.out.go b6); have Y6 := Lib.hid (Y5.out.go b6)
  clear b6 K5 J5 X5 Y5 CS
  by_cases hpq : p = q
  · have hvv : vA = vB := HS.out hpq
    have hd : decide (p = q) = true := decide_eq_true hpq
    have he1 : (vA.toList == vB.toList) = true := by rw [str_eq_iff, decide_eq_true hvv]
    have he2 : (vA.toList != vB.toList) = false := by rw [bne, he1]; rfl
    rw [hd]
    have HVV := Lib.hid hvv
    clear hpq hvv hd HS HB
    go_wp2_with fail
    go_ret
    exact ⟨rfl, X6.out.hb⟩
  · have hd : decide (p = q) = false := decide_eq_false hpq
    rw [hd]
    by_cases hvv : vA = vB
    · have he1 : (vA.toList == vB.toList) = true := by rw [str_eq_iff, decide_eq_true hvv]
      have he2 : (vA.toList != vB.toList) = false := by rw [bne, he1]; rfl
      have hb := HB.out hpq hvv
      have hcc := fun W (h1 : Keeps w W ad4 cap4 A) (h2 : Keeps w W ad5 cap5 B) => collide_any A B ad4 ad5 P Q cap4 cap5 W h1.hh h2.hh LA.out LB.out (fun x hx => by have := SA.out x hx; omega) (fun x hx => by have := SB.out x hx; omega) h1.hr
      obtain ⟨C, hC⟩ : ∃ C, collF A B = C := ⟨_, rfl⟩
      rw [hC] at hb hcc
      have CC := Lib.hid hcc
      have HVV := Lib.hid hvv
      have HLO := Lib.hid hb
      clear hpq hvv hd HS HB hb hcc hC
      by_cases hPQ : P = Q
      · have hlone := lone_eq A B (by rw [LA.out, LB.out, hPQ])
        have hCt : C = true := by
          rcases HLO.out with h | ⟨z, h, _⟩
          · exact h
          · rw [hlone] at h; cases h
        subst hCt
        subst hPQ
        clear hlone HLO
        have hg : ((P : Int) == (P : Int)) = true := by simp
        go_wp2_with fail
        go_quiet (fail)
        go_wp2_with fail
        refine (CC.out _ ?_ ?_).mono ?_
        · exact keep_same X6.out rfl rfl rfl rfl
        · exact keep_same Y6.out rfl rfl rfl rfl
        rintro e w7 ⟨rfl, b7⟩
        have X7 := Lib.hid (X6.out.on b7 rfl rfl rfl rfl)
        go_wp2
        go_ret
        exact ⟨rfl, X7.out.hb⟩
      · by_cases hlt : P < Q
        · have hne1 : ((P : Int) == (Q : Int)) = false := by rw [beq_eq_false_iff_ne]; omega
          have hne2 : ((P : Int) != (Q : Int)) = true := by rw [bne, hne1]; rfl
          have hgt : (P : Int) < (Q : Int) := by omega
          have hlone := lone_lt A B (by rw [LA.out, LB.out]; omega)
          have hmin1 : min (P : Int) (Q : Int) = (P : Int) := by omega
          have hmin2 : (if (Q : Int) < (P : Int) then (Q : Int) else (P : Int)) = (P : Int) := by split <;> omega
          have hml : P < B.length := by rw [LB.out]; omega
          have hmi : (P : Int) < (Q : Int) := by omega
          obtain ⟨b, o, rfl, hlb, hSt⟩ := Y6.out.hh.at (by omega)
          have hcb := fun W (h : Below w6.heap.size w6 W) => (h.cell (p := ⟨b, o + P, none⟩) hlb).trans (hSt P hml)
          rw [LA.out, List.getElem?_eq_getElem hml] at hlone
          have hzs := SB.out B[P] (List.getElem_mem _)
          obtain ⟨z, hz⟩ : ∃ z, B[P] = z := ⟨_, rfl⟩
          rw [hz] at hlone hzs hcb
          have csum := fun W h => sum_any z (by omega) W h
          have hCq : C = true ∨ sha z = zero32 := by
            rcases HLO.out with h | ⟨z', h, h0⟩
            · exact .inl h
            · rw [hlone] at h; cases h; exact .inr h0
          obtain ⟨T, hT⟩ : ∃ T, sha z = T := ⟨_, rfl⟩
          rw [hT] at csum hCq
          have hcell := hcb w6 (Below.refl _ _)
          have hcell2 := hcb (w6.alloc (.cells zeros 5)) ((Below.refl _ _).alloc (Nat.le_refl _) _)
          have hmk := make_zeros
          have hcvC := fun w0 => conv_zeros (World.alloc w0 (.cells zeros 5)) w0.heap.size (heap_alloc_new w0 _)
          have hcvD := fun w0 => conv_zeros (World.alloc w0 (.cells zeros 5)).drew w0.heap.size (heap_alloc_new w0 _)
          obtain ⟨zz, hzz⟩ : ∃ zz, zero32 = zz := ⟨_, rfl⟩
          rw [hzz] at hCq hcvC hcvD
          have hcvG := fun W' g h => (by have := conv_zeros W' g h; rwa [hzz] at this : (convert 43 9 (.slice (some ⟨g, 0, none⟩) 32 32)).run Tryd.prog W' = .ok (.string zz) W')
          have HCB := Lib.hid hcb; have CSUM := Lib.hid csum; have HCQ := Lib.hid hCq; have HCV := Lib.hid hcvG
          obtain ⟨fl, hfl⟩ : ∃ fl, (T.toList == zz.toList) = fl := ⟨_, rfl⟩
          have hflag : C = true ∨ fl = true := by
            rcases HCQ.out with h | h
            · exact .inl h
            · right; rw [← hfl, str_eq_iff, decide_eq_true h]
          have HFL := Lib.hid hflag
          clear hcb csum hCq hlone HLO hz hT hzz hcvG hml hSt HCQ hflag
          have hOp : ∀ s, hidOp s = { dst := some 77, op := Op.convert 43 9 (Operand.tmp 76), type := 9, pos := s, after := #[{ on := 15, ground := Ground.data }, { on := 5, ground := Ground.guard }], guard := some (5, true) } := fun _ => rfl
          go_wp2_with fail
          rw [← hOp]
          go_region_held3 (fun W => W.cell? ⟨b, o + P, none⟩ = some (.string z))
            (first | exact HCB.out _ (below_same (Below.refl _ _) rfl rfl rfl rfl) | exact HCB.out _ (below_same ((Below.refl w6.heap.size w6).alloc (Nat.le_refl _) (.cells zeros 5)) rfl rfl rfl rfl) | exact HCB.out _ (below_same hbA rfl rfl rfl rfl) | exact HCB.out _ (below_same (hbA.alloc hbA.size (.cells zeros 5)) rfl rfl rfl rfl))
            (first | (go_at_call 13; (with_reducible refine (CSUM.out _ ?_).mono ?_); (first | exact ready_same Y6.out.hr rfl rfl rfl rfl | exact ready_same (Y6.out.hr.below ((Below.refl w6.heap.size w6).alloc (Nat.le_refl _) (.cells zeros 5))) rfl rfl rfl rfl); rintro e wA ⟨rfl, bA⟩; have hbA : Below w6.heap.size w6 wA := (by first | exact Below.on (Below.refl w6.heap.size w6) bA (Nat.le_refl _) rfl rfl rfl rfl | exact Below.on ((Below.refl w6.heap.size w6).alloc (Nat.le_refl _) (.cells zeros 5)) bA (by simp) rfl rfl rfl rfl); (try have hcvB := HCV.out wA w6.heap.size ((bA.block w6.heap.size (by simp)).trans (heap_alloc_new w6 _)))))
          all_goals (
            go_wp2_with fail
            refine (CC.out _ ?_ ?_).mono ?_
            · first | exact X6.out.go (below_same hbA rfl rfl rfl rfl) | exact X6.out.go (below_same (hbA.alloc hbA.size (.cells zeros 5)) rfl rfl rfl rfl)
            · first | exact Y6.out.go (below_same hbA rfl rfl rfl rfl) | exact Y6.out.go (below_same (hbA.alloc hbA.size (.cells zeros 5)) rfl rfl rfl rfl)
            rintro e w7 ⟨rfl, b7⟩
            have hw7 : Below w.heap.size w w7 := by
              first
                | exact ((X6.out.go (below_same hbA rfl rfl rfl rfl)).go b7).hb
                | exact ((X6.out.go (below_same (hbA.alloc hbA.size (.cells zeros 5)) rfl rfl rfl rfl)).go b7).hb
            clear hcvC hcvD hmk hcell hcell2 HCB
            cases C with
            | true =>
              go_wp2
              go_ret
              exact ⟨rfl, hw7⟩
            | false =>
              have hfl1 : fl = true := by
                rcases HFL.out with h | h
                · cases h
                · exact h
              subst hfl1
              go_wp2
              go_ret
              exact ⟨rfl, hw7⟩)
        · have hne1 : ((P : Int) == (Q : Int)) = false := by rw [beq_eq_false_iff_ne]; omega
          have hne2 : ((P : Int) != (Q : Int)) = true := by rw [bne, hne1]; rfl
          have hgt : ¬ (P : Int) < (Q : Int) := by omega
          have hlone := lone_gt A B (by rw [LA.out, LB.out]; omega)
          have hmin1 : min (P : Int) (Q : Int) = (Q : Int) := by omega
          have hmin2 : (if (Q : Int) < (P : Int) then (Q : Int) else (P : Int)) = (Q : Int) := by split <;> omega
          have hml : Q < A.length := by rw [LA.out]; omega
          have hmi : (Q : Int) < (P : Int) := by omega
          obtain ⟨b, o, rfl, hlb, hSt⟩ := X6.out.hh.at (by omega)
          have hcb := fun W (h : Below w6.heap.size w6 W) => (h.cell (p := ⟨b, o + Q, none⟩) hlb).trans (hSt Q hml)
          rw [LB.out, List.getElem?_eq_getElem hml] at hlone
          have hzs := SA.out A[Q] (List.getElem_mem _)
          obtain ⟨z, hz⟩ : ∃ z, A[Q] = z := ⟨_, rfl⟩
          rw [hz] at hlone hzs hcb
          have csum := fun W h => sum_any z (by omega) W h
          have hCq : C = true ∨ sha z = zero32 := by
            rcases HLO.out with h | ⟨z', h, h0⟩
            · exact .inl h
            · rw [hlone] at h; cases h; exact .inr h0
          obtain ⟨T, hT⟩ : ∃ T, sha z = T := ⟨_, rfl⟩
          rw [hT] at csum hCq
          have hcell := hcb w6 (Below.refl _ _)
          have hcell2 := hcb (w6.alloc (.cells zeros 5)) ((Below.refl _ _).alloc (Nat.le_refl _) _)
          have hmk := make_zeros
          have hcvC := fun w0 => conv_zeros (World.alloc w0 (.cells zeros 5)) w0.heap.size (heap_alloc_new w0 _)
          have hcvD := fun w0 => conv_zeros (World.alloc w0 (.cells zeros 5)).drew w0.heap.size (heap_alloc_new w0 _)
          obtain ⟨zz, hzz⟩ : ∃ zz, zero32 = zz := ⟨_, rfl⟩
          rw [hzz] at hCq hcvC hcvD
          have hcvG := fun W' g h => (by have := conv_zeros W' g h; rwa [hzz] at this : (convert 43 9 (.slice (some ⟨g, 0, none⟩) 32 32)).run Tryd.prog W' = .ok (.string zz) W')
          have HCB := Lib.hid hcb; have CSUM := Lib.hid csum; have HCQ := Lib.hid hCq; have HCV := Lib.hid hcvG
          obtain ⟨fl, hfl⟩ : ∃ fl, (T.toList == zz.toList) = fl := ⟨_, rfl⟩
          have hflag : C = true ∨ fl = true := by
            rcases HCQ.out with h | h
            · exact .inl h
            · right; rw [← hfl, str_eq_iff, decide_eq_true h]
          have HFL := Lib.hid hflag
          clear hcb csum hCq hlone HLO hz hT hzz hcvG hml hSt HCQ hflag
          have hOp : ∀ s, hidOp s = { dst := some 77, op := Op.convert 43 9 (Operand.tmp 76), type := 9, pos := s, after := #[{ on := 15, ground := Ground.data }, { on := 5, ground := Ground.guard }], guard := some (5, true) } := fun _ => rfl
          go_wp2_with fail
          rw [← hOp]
          go_region_held3 (fun W => W.cell? ⟨b, o + Q, none⟩ = some (.string z))
            (first | exact HCB.out _ (below_same (Below.refl _ _) rfl rfl rfl rfl) | exact HCB.out _ (below_same ((Below.refl w6.heap.size w6).alloc (Nat.le_refl _) (.cells zeros 5)) rfl rfl rfl rfl) | exact HCB.out _ (below_same hbA rfl rfl rfl rfl) | exact HCB.out _ (below_same (hbA.alloc hbA.size (.cells zeros 5)) rfl rfl rfl rfl))
            (first | (go_at_call 13; (with_reducible refine (CSUM.out _ ?_).mono ?_); (first | exact ready_same X6.out.hr rfl rfl rfl rfl | exact ready_same (X6.out.hr.below ((Below.refl w6.heap.size w6).alloc (Nat.le_refl _) (.cells zeros 5))) rfl rfl rfl rfl); rintro e wA ⟨rfl, bA⟩; have hbA : Below w6.heap.size w6 wA := (by first | exact Below.on (Below.refl w6.heap.size w6) bA (Nat.le_refl _) rfl rfl rfl rfl | exact Below.on ((Below.refl w6.heap.size w6).alloc (Nat.le_refl _) (.cells zeros 5)) bA (by simp) rfl rfl rfl rfl); (try have hcvB := HCV.out wA w6.heap.size ((bA.block w6.heap.size (by simp)).trans (heap_alloc_new w6 _)))))
          all_goals (
            go_wp2_with fail
            refine (CC.out _ ?_ ?_).mono ?_
            · first | exact X6.out.go (below_same hbA rfl rfl rfl rfl) | exact X6.out.go (below_same (hbA.alloc hbA.size (.cells zeros 5)) rfl rfl rfl rfl)
            · first | exact Y6.out.go (below_same hbA rfl rfl rfl rfl) | exact Y6.out.go (below_same (hbA.alloc hbA.size (.cells zeros 5)) rfl rfl rfl rfl)
            rintro e w7 ⟨rfl, b7⟩
            have hw7 : Below w.heap.size w w7 := by
              first
                | exact ((X6.out.go (below_same hbA rfl rfl rfl rfl)).go b7).hb
                | exact ((X6.out.go (below_same (hbA.alloc hbA.size (.cells zeros 5)) rfl rfl rfl rfl)).go b7).hb
            clear hcvC hcvD hmk hcell hcell2 HCB
            cases C with
            | true =>
              go_wp2
              go_ret
              exact ⟨rfl, hw7⟩
            | false =>
              have hfl1 : fl = true := by
                rcases HFL.out with h | h
                · cases h
                · exact h
              subst hfl1
              go_wp2
              go_ret
              exact ⟨rfl, hw7⟩)
    · have he1 : (vA.toList == vB.toList) = false := by rw [str_eq_iff, decide_eq_false hvv]
      have he2 : (vA.toList != vB.toList) = true := by rw [bne, he1]; rfl
      have HVV := Lib.hid hvv
      clear hpq hvv hd HS HB
      go_wp2_with fail
      go_ret
      exact ⟨rfl, X6.out.hb⟩

theorem chain_walk0 (a0 : Option Addr) (n0 c0 : Nat) (a1 : Option Addr) (n1 c1 : Nat) (w : World) (h : n0 ≤ maxLen ∧ ∃ t, StrsIn w a0 n0 t) (h2 : n1 ≤ maxLen ∧ ∃ t, StrsIn w a1 n1 t) (hT : HasK w) (h0 : 0 < w.heap.size) :
    Calls Tryd.prog 9 #[.slice a0 n0 c0, .slice a1 n1 c1] w fun e w' => e = .returned (.bool true) ∧ Below w.heap.size w w' := by
  obtain ⟨l1, t, hI⟩ := h
  obtain ⟨l2, u, hJ⟩ := h2
  exact chain_walk a0 n0 c0 t a1 n1 c1 u w l1 hI l2 hJ ⟨hT, h0⟩
end Go.Proofs.YtoaaelnmbpmbeaaDoor
