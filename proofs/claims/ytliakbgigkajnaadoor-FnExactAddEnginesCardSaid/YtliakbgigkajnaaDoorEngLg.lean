/-
  The walk of the exact law of AddEngines. Condition: texts that fit in memory.
-/
import Derived.Test.YtliakbgigkajnaaDoorEngN
import Derived.Test.YtliakbgigkajnaaDoorEngEx
import Derived.Deep.Cut
namespace Go.Proofs.YtliakbgigkajnaaDoor
set_option maxRecDepth 4000
set_option linter.unusedVariables false
open Go.RowKit
set_option maxHeartbeats 4000000 in
theorem exAddEngines (v0 : Value) (cs0 : List ByteArray) (v1 : Value) (cs1 : List ByteArray) (w : World) (hv0 : LiesS w 0 w.heap.size v0 cs0) (hm0 : ∀ c ∈ cs0, c.size ≤ 9223372036854775807) (hv1 : LiesS w 0 w.heap.size v1 cs1) (hm1 : ∀ c ∈ cs1, c.size ≤ 9223372036854775807) : Calls Tryd.prog 7 #[.agg #[v0], .agg #[v1]] w (Gives (.bool true) w) := by
  have HV0 := hidH hv0
  have HM0 := hidH hm0
  have HV1 := hidH hv1
  have HM1 := hidH hm1
  obtain ⟨a0, cap0, rfl⟩ := hv0.some
  obtain ⟨a1, cap1, rfl⟩ := hv1.some
  have B_0 := hidH (bMore (belowN w (.cells #[.slice a0 cs0.length cap0] 24)) (.cells #[.slice a1 cs1.length cap1] 24))
  have S_0 : Hid (w.heap.size + 2 ≤ ((w.alloc (.cells #[.slice a0 cs0.length cap0] 24)).alloc (.cells #[.slice a1 cs1.length cap1] 24)).heap.size) := hidH (by simp)
  have EA_0 := hidH ((LEngAt.fresh w (.slice a0 cs0.length cap0)).below (belowN (w.alloc (.cells #[.slice a0 cs0.length cap0] 24)) (.cells #[.slice a1 cs1.length cap1] 24)))
  have EB_0 := hidH (LEngAt.newAt (w.alloc (.cells #[.slice a0 cs0.length cap0] 24)) (.slice a1 cs1.length cap1) (w.heap.size + 1) (by simp))
  have cA := EA_0.out.cell
  have cB := EB_0.out.cell
  clear hv0 hm0 hv1 hm1
  go_enter Tryd.func7, Tryd.ntmps7
  go_wp2_with fail
  refine (szEng_any _ cs0 1048576 _ _ _ (HV0.out.below B_0.out) HM0.out (by omega)).mono ?_; rintro e w1 ⟨r, rfl, hr, hb⟩
  have S_1 := hidH hb.size
  have B_1 := hidH (bThen B_0.out hb)
  have EA_1 := hidH (EA_0.out.below hb)
  have EB_1 := hidH (EB_0.out.below hb)
  clear cA cB
  clear hb
  clear B_0  EA_0 EB_0
  have cA := EA_1.out.cell
  have cB := EB_1.out.cell
  rcases hr with rfl | ⟨⟨m0, rfl, hm0⟩, hn0, hz0⟩
  · go_wp2
    go_ret
    exact ⟨rfl, B_1.out⟩
  clear hz0
  go_wp2_with fail
  refine (szEng_any _ cs1 m0 _ _ _ (HV1.out.below B_1.out) HM1.out (by omega)).mono ?_; rintro e w2 ⟨r, rfl, hr, hb⟩
  have S_2 := hidH hb.size
  have B_2 := hidH (bThen B_1.out hb)
  have EA_2 := hidH (EA_1.out.below hb)
  have EB_2 := hidH (EB_1.out.below hb)
  clear cA cB
  clear hb
  clear B_1  EA_1 EB_1
  have cA := EA_2.out.cell
  have cB := EB_2.out.cell
  rcases hr with rfl | ⟨⟨m1, rfl, _⟩, hn1, hz1⟩
  · go_wp2
    go_ret
    exact ⟨rfl, B_2.out⟩
  clear hz1
  have HT := hidH (fun W (hb : Below w.heap.size w W) => toEng_any (.slice a0 cs0.length cap0) cs0 W ((HV0.out.below hb).mono (Nat.le_refl _) hb.size) hn0)
  have HU := hidH (fun W (hb : Below w.heap.size w W) => toEng_any (.slice a1 cs1.length cap1) cs1 W ((HV1.out.below hb).mono (Nat.le_refl _) hb.size) (by omega))
  have HSP := hidH (fun W t lo hi u lo2 hi2 (h : LiesS W lo hi t cs0) (k : LiesS W lo2 hi2 u cs1) => sAddEngines_any t u cs0 cs1 W lo hi lo2 hi2 h k HM0.out HM1.out)
  have HIM := hidH (fun W t lo hi u lo2 hi2 (h : LiesS W lo hi t cs0) (k : LiesS W lo2 hi2 u cs1) => addEngines_any t u cs0 cs1 W lo hi lo2 hi2 h k HM0.out HM1.out)
  have hrs := addL_len cs0 cs1
  generalize addL cs0 cs1 = rs at HSP HIM hrs
  generalize addB cs0 cs1 = rb at HSP HIM
  go_wp2_with fail
  go_cut [6, 7] from 27 (fun s6 s7 wx => ∃ (kb : Nat) (au : Option Addr) (cu : Nat), s6 = .pointer (some ⟨kb, 0, none⟩) ∧ s7 = .bool rb ∧ w2.heap.size ≤ kb ∧ kb < wx.heap.size ∧ EngAt wx kb (.slice au rs.length cu) ∧ RowS wx w2.heap.size wx.heap.size (.slice au rs.length cu) rs ∧ Below w2.heap.size w2 wx)
  case first =>
    refine wp_region_held_drew (S := fun w' => w'.cell? ⟨w.heap.size, 0, none⟩ = some (.slice a0 cs0.length cap0) ∧ w'.cell? ⟨w.heap.size + 1, 0, none⟩ = some (.slice a1 cs1.length cap1)) (by kernel_rfl) ⟨cA, cB⟩ (fun hHeld => ?_)
    try dsimp only
    have V_0 := hidH ((Below.refl w2.heap.size w2).drew)
    generalize w2.drew = wd at V_0 hHeld ⊢
    refine onH 0 (some 28) (v := ?_) (by kernel_rfl) (by kernel_rfl) (by kernel_rfl) (fun _ _ _ h => h) (by rfl) hHeld ?_ ?_
    rotate_left
    · intro o ho; simp only [List.getElem?_toArray, List.getElem?_cons_zero, Option.some.injEq] at ho; subst ho; intro w hSw; (try dsimp only at hSw)
      go_simp
      try with_reducible rfl
    try simp only [Act.put, List.setIfInBounds_toArray, List.set_cons_zero, List.set_cons_succ]
    refine onH 2 (some 30) (v := ?_) (by kernel_rfl) (by kernel_rfl) (by kernel_rfl) (fun _ _ _ h => h) (by rfl) hHeld ?_ ?_
    rotate_left
    · intro o ho; simp only [List.getElem?_toArray, List.getElem?_cons_succ, List.getElem?_cons_zero, Option.some.injEq] at ho; subst ho; intro w hSw; (try dsimp only at hSw)
      go_simp
      try with_reducible rfl
    try simp only [Act.put, List.setIfInBounds_toArray, List.set_cons_zero, List.set_cons_succ]
    refine callH2 1 8 (by kernel_rfl) ?_ ?_
    · skip
      intro o ho; simp only [List.getElem?_toArray, List.getElem?_cons_succ, List.getElem?_cons_zero, Option.some.injEq] at ho; subst ho; intro K hK
      go_simp
      go_at_call 11
      (with_reducible refine (HT.out _ (bThen B_2.out V_0.out)).mono ?_)
      rintro e v1 ⟨t1, rfl, hr, hb⟩
      have V_1 := hidH (bThen V_0.out hb)
      have T_1 := hidH hr
      have aA_1 := (EA_2.out.below V_1.out).cell
      have aB_1 := (EB_2.out.below V_1.out).cell
      clear hr hb hHeld
      go_wp2_with fail
      refine hK.out _ _ ?_ (fun hHeld => ?_)
      · exact ⟨aA_1, aB_1⟩
      clear hK K
      try simp only [Act.put, List.setIfInBounds_toArray, List.set_cons_zero, List.set_cons_succ]
      refine callH2 3 8 (by kernel_rfl) ?_ ?_
      · skip
        intro o ho; simp only [List.getElem?_toArray, List.getElem?_cons_succ, List.getElem?_cons_zero, Option.some.injEq] at ho; subst ho; intro K hK
        go_simp
        go_at_call 11
        (with_reducible refine (HU.out _ (bThen B_2.out V_1.out)).mono ?_)
        rintro e v2 ⟨t2, rfl, hr, hb⟩
        have V_2 := hidH (bThen V_1.out hb)
        have T_2 := hidH (T_1.out.below hb)
        have U_2 := hidH hr
        have aA_2 := (EA_2.out.below V_2.out).cell
        have aB_2 := (EB_2.out.below V_2.out).cell
        clear hr hb hHeld
        go_wp2_with fail
        refine hK.out _ _ ?_ (fun hHeld => ?_)
        · exact ⟨aA_2, aB_2⟩
        clear hK K
        try simp only [Act.put, List.setIfInBounds_toArray, List.set_cons_zero, List.set_cons_succ]
        refine callH2 4 8 (by kernel_rfl) ?_ ?_
        · skip
          intro o ho; simp only [List.getElem?_toArray, List.getElem?_cons_succ, List.getElem?_cons_zero, Option.some.injEq] at ho; subst ho; intro K hK
          go_simp
          go_at_call 25
          (with_reducible refine (HSP.out _ _ _ _ _ _ _ T_2.out.lies U_2.out.lies).mono ?_)
          rintro e v3 ⟨t3, rfl, hr, hb⟩
          obtain ⟨au, cu, rfl⟩ := hr.some
          have V_3 := hidH (bThen V_2.out hb)
          have T_3 := hidH (T_2.out.below hb)
          have U_3 := hidH (U_2.out.below hb)
          have R_3 := hidH hr
          have aA_3 := (EA_2.out.below V_3.out).cell
          have aB_3 := (EB_2.out.below V_3.out).cell
          clear hr hb hHeld
          go_wp2_with fail
          refine hK.out _ _ ?_ (fun hHeld => ?_)
          · exact ⟨aA_3, aB_3⟩
          clear hK K
          try simp only [Act.put, List.setIfInBounds_toArray, List.set_cons_zero, List.set_cons_succ]
          refine onH 5 (some 27) (v := ?_) (by kernel_rfl) (by kernel_rfl) (by kernel_rfl) (fun _ _ _ h => h) (by rfl) hHeld ?_ ?_
          rotate_left
          · intro o ho; simp only [List.getElem?_toArray, List.getElem?_cons_succ, List.getElem?_cons_zero, Option.some.injEq] at ho; subst ho; intro w hSw; (try dsimp only at hSw)
            go_simp
            try with_reducible rfl
          try simp only [Act.put, List.setIfInBounds_toArray, List.set_cons_zero, List.set_cons_succ]
          refine onH 6 (some 33) (v := ?_) (by kernel_rfl) (by kernel_rfl) (by kernel_rfl) (fun _ _ _ h => h) (by rfl) hHeld ?_ ?_
          rotate_left
          · intro o ho; simp only [List.getElem?_toArray, List.getElem?_cons_succ, List.getElem?_cons_zero, Option.some.injEq] at ho; subst ho; intro w hSw; (try dsimp only at hSw)
            go_simp
            try with_reducible rfl
          try simp only [Act.put, List.setIfInBounds_toArray, List.set_cons_zero, List.set_cons_succ]
          refine onH 7 (some 34) (v := ?_) (by kernel_rfl) (by kernel_rfl) (by kernel_rfl) (fun _ _ _ h => h) (by rfl) hHeld ?_ ?_
          rotate_left
          · intro o ho; simp only [List.getElem?_toArray, List.getElem?_cons_succ, List.getElem?_cons_zero, Option.some.injEq] at ho; subst ho; intro w hSw; (try dsimp only at hSw)
            go_simp
            try with_reducible rfl
          try simp only [Act.put, List.setIfInBounds_toArray, List.set_cons_zero, List.set_cons_succ]
          refine callH 8 (by kernel_rfl) ?_
          intro o ho; simp only [List.getElem?_toArray, List.getElem?_cons_succ, List.getElem?_cons_zero, Option.some.injEq] at ho; subst ho; intro K hK
          go_simp
          have V_4 := hidH (V_3.out.alloc V_3.out.size (.cells #[.slice none 0 0] 27))
          have N_4 := hidH (EngAt.fresh v3 (.slice none 0 0))
          have T_4 := hidH (T_3.out.below (belowN v3 (.cells #[.slice none 0 0] 27)))
          have U_4 := hidH (U_3.out.below (belowN v3 (.cells #[.slice none 0 0] 27)))
          have R_4 := hidH (R_3.out.below (belowN v3 (.cells #[.slice none 0 0] 27)))
          have Z_4 := hidH (show v3.heap.size ≤ (v3.alloc (.cells #[.slice none 0 0] 27)).heap.size by simp)
          have aA_4 := (EA_2.out.below V_4.out).cell
          have aB_4 := (EB_2.out.below V_4.out).cell
          generalize v3.alloc (.cells #[.slice none 0 0] 27) = wa4 at V_4 N_4 T_4 U_4 R_4 Z_4 aA_4 aB_4 ⊢
          clear hHeld
          refine hK.out _ _ ?_ (fun hHeld => ?_)
          · exact ⟨aA_4, aB_4⟩
          clear hK K
          try simp only [Act.put, List.setIfInBounds_toArray, List.set_cons_zero, List.set_cons_succ]
          have cN := N_4.out.cell
          have fN := N_4.out.free 0
          refine callH 9 (by kernel_rfl) ?_
          intro o ho; simp only [List.getElem?_toArray, List.getElem?_cons_succ, List.getElem?_cons_zero, Option.some.injEq] at ho; subst ho; intro K hK
          go_simp
          clear hHeld
          refine hK.out _ _ ?_ (fun hHeld => ?_)
          · exact ⟨(by rw [World.cell?_setCell_other _ _ _ _ (by intro h; injection h; have z1 := V_3.out.size; have z2 := EA_2.out.lt; have z3 := EB_2.out.lt; omega)]; exact aA_4), (by rw [World.cell?_setCell_other _ _ _ _ (by intro h; injection h; have z1 := V_3.out.size; have z2 := EA_2.out.lt; have z3 := EB_2.out.lt; omega)]; exact aB_4)⟩
          clear hK K
          try simp only [Act.put, List.setIfInBounds_toArray, List.set_cons_zero, List.set_cons_succ]
          clear cN fN
          refine onH 10 (some 7) (v := ?_) (by kernel_rfl) (by kernel_rfl) (by kernel_rfl) (fun _ _ _ h => h) (by rfl) hHeld ?_ ?_
          rotate_left
          · intro o ho; simp only [List.getElem?_toArray, List.getElem?_cons_succ, List.getElem?_cons_zero, Option.some.injEq] at ho; subst ho; intro w hSw; (try dsimp only at hSw)
            go_simp
            try with_reducible rfl
          try simp only [Act.put, List.setIfInBounds_toArray, List.set_cons_zero, List.set_cons_succ]
          refine wpAnyH_done (by kernel_rfl) ?_ _
          go_wp2_with fail
          go_meet
          exact ⟨_, _, _, rfl, rfl, V_3.out.size, (N_4.out.put _).lt, N_4.out.put _, (R_4.out.apart (Apart.of_onto (Onto.setCell v3.heap.size 0 wa4 _) (Nat.le_refl _) (Nat.lt_succ_self _)) (.inl (Nat.le_refl _))).mono V_2.out.size (by have z := Z_4.out; simp; omega), V_4.out.setCell V_3.out.size _⟩
        · skip
          intro o ho; simp only [List.getElem?_toArray, List.getElem?_cons_succ, List.getElem?_cons_zero, Option.some.injEq] at ho; subst ho; intro K hK
          go_simp
          have V_3 := hidH (V_2.out.alloc V_2.out.size (.cells #[.slice none 0 0] 27))
          have N_3 := hidH (EngAt.fresh v2 (.slice none 0 0))
          have T_3 := hidH (T_2.out.below (belowN v2 (.cells #[.slice none 0 0] 27)))
          have U_3 := hidH (U_2.out.below (belowN v2 (.cells #[.slice none 0 0] 27)))
          have Z_3 := hidH (show v2.heap.size ≤ (v2.alloc (.cells #[.slice none 0 0] 27)).heap.size by simp)
          have aA_3 := (EA_2.out.below V_3.out).cell
          have aB_3 := (EB_2.out.below V_3.out).cell
          generalize v2.alloc (.cells #[.slice none 0 0] 27) = wa3 at V_3 N_3 T_3 U_3 Z_3 aA_3 aB_3 ⊢
          clear hHeld
          refine hK.out _ _ ?_ (fun hHeld => ?_)
          · exact ⟨aA_3, aB_3⟩
          clear hK K
          try simp only [Act.put, List.setIfInBounds_toArray, List.set_cons_zero, List.set_cons_succ]
          refine callH 4 (by kernel_rfl) ?_
          intro o ho; simp only [List.getElem?_toArray, List.getElem?_cons_succ, List.getElem?_cons_zero, Option.some.injEq] at ho; subst ho; intro K hK
          go_simp
          go_at_call 25
          (with_reducible refine (HSP.out _ _ _ _ _ _ _ T_3.out.lies U_3.out.lies).mono ?_)
          rintro e v4 ⟨t4, rfl, hr, hb⟩
          obtain ⟨au, cu, rfl⟩ := hr.some
          have V_4 := hidH (bThen V_3.out hb)
          have T_4 := hidH (T_3.out.below hb)
          have U_4 := hidH (U_3.out.below hb)
          have N_4 := hidH (N_3.out.below hb)
          have R_4 := hidH hr
          have aA_4 := (EA_2.out.below V_4.out).cell
          have aB_4 := (EB_2.out.below V_4.out).cell
          clear hr hb hHeld
          go_wp2_with fail
          refine hK.out _ _ ?_ (fun hHeld => ?_)
          · exact ⟨aA_4, aB_4⟩
          clear hK K
          try simp only [Act.put, List.setIfInBounds_toArray, List.set_cons_zero, List.set_cons_succ]
          refine onH 5 (some 27) (v := ?_) (by kernel_rfl) (by kernel_rfl) (by kernel_rfl) (fun _ _ _ h => h) (by rfl) hHeld ?_ ?_
          rotate_left
          · intro o ho; simp only [List.getElem?_toArray, List.getElem?_cons_succ, List.getElem?_cons_zero, Option.some.injEq] at ho; subst ho; intro w hSw; (try dsimp only at hSw)
            go_simp
            try with_reducible rfl
          try simp only [Act.put, List.setIfInBounds_toArray, List.set_cons_zero, List.set_cons_succ]
          refine onH 6 (some 33) (v := ?_) (by kernel_rfl) (by kernel_rfl) (by kernel_rfl) (fun _ _ _ h => h) (by rfl) hHeld ?_ ?_
          rotate_left
          · intro o ho; simp only [List.getElem?_toArray, List.getElem?_cons_succ, List.getElem?_cons_zero, Option.some.injEq] at ho; subst ho; intro w hSw; (try dsimp only at hSw)
            go_simp
            try with_reducible rfl
          try simp only [Act.put, List.setIfInBounds_toArray, List.set_cons_zero, List.set_cons_succ]
          refine onH 7 (some 34) (v := ?_) (by kernel_rfl) (by kernel_rfl) (by kernel_rfl) (fun _ _ _ h => h) (by rfl) hHeld ?_ ?_
          rotate_left
          · intro o ho; simp only [List.getElem?_toArray, List.getElem?_cons_succ, List.getElem?_cons_zero, Option.some.injEq] at ho; subst ho; intro w hSw; (try dsimp only at hSw)
            go_simp
            try with_reducible rfl
          try simp only [Act.put, List.setIfInBounds_toArray, List.set_cons_zero, List.set_cons_succ]
          have cN := N_4.out.cell
          have fN := N_4.out.free 0
          refine callH 9 (by kernel_rfl) ?_
          intro o ho; simp only [List.getElem?_toArray, List.getElem?_cons_succ, List.getElem?_cons_zero, Option.some.injEq] at ho; subst ho; intro K hK
          go_simp
          clear hHeld
          refine hK.out _ _ ?_ (fun hHeld => ?_)
          · exact ⟨(by rw [World.cell?_setCell_other _ _ _ _ (by intro h; injection h; have z1 := V_2.out.size; have z2 := EA_2.out.lt; have z3 := EB_2.out.lt; omega)]; exact aA_4), (by rw [World.cell?_setCell_other _ _ _ _ (by intro h; injection h; have z1 := V_2.out.size; have z2 := EA_2.out.lt; have z3 := EB_2.out.lt; omega)]; exact aB_4)⟩
          clear hK K
          try simp only [Act.put, List.setIfInBounds_toArray, List.set_cons_zero, List.set_cons_succ]
          clear cN fN
          refine onH 10 (some 7) (v := ?_) (by kernel_rfl) (by kernel_rfl) (by kernel_rfl) (fun _ _ _ h => h) (by rfl) hHeld ?_ ?_
          rotate_left
          · intro o ho; simp only [List.getElem?_toArray, List.getElem?_cons_succ, List.getElem?_cons_zero, Option.some.injEq] at ho; subst ho; intro w hSw; (try dsimp only at hSw)
            go_simp
            try with_reducible rfl
          try simp only [Act.put, List.setIfInBounds_toArray, List.set_cons_zero, List.set_cons_succ]
          refine wpAnyH_done (by kernel_rfl) ?_ _
          go_wp2_with fail
          go_meet
          exact ⟨_, _, _, rfl, rfl, V_2.out.size, (N_4.out.put _).lt, N_4.out.put _, (R_4.out.apart (Apart.of_onto (Onto.setCell v2.heap.size 0 v4 _) (Nat.le_refl _) (Nat.lt_succ_self _)) (.inr N_3.out.lt)).mono V_3.out.size (by simp), V_4.out.setCell V_2.out.size _⟩
      · skip
        intro o ho; simp only [List.getElem?_toArray, List.getElem?_cons_succ, List.getElem?_cons_zero, Option.some.injEq] at ho; subst ho; intro K hK
        go_simp
        have V_2 := hidH (V_1.out.alloc V_1.out.size (.cells #[.slice none 0 0] 27))
        have N_2 := hidH (EngAt.fresh v1 (.slice none 0 0))
        have T_2 := hidH (T_1.out.below (belowN v1 (.cells #[.slice none 0 0] 27)))
        have Z_2 := hidH (show v1.heap.size ≤ (v1.alloc (.cells #[.slice none 0 0] 27)).heap.size by simp)
        have aA_2 := (EA_2.out.below V_2.out).cell
        have aB_2 := (EB_2.out.below V_2.out).cell
        generalize v1.alloc (.cells #[.slice none 0 0] 27) = wa2 at V_2 N_2 T_2 Z_2 aA_2 aB_2 ⊢
        clear hHeld
        refine hK.out _ _ ?_ (fun hHeld => ?_)
        · exact ⟨aA_2, aB_2⟩
        clear hK K
        try simp only [Act.put, List.setIfInBounds_toArray, List.set_cons_zero, List.set_cons_succ]
        refine callH 3 (by kernel_rfl) ?_
        intro o ho; simp only [List.getElem?_toArray, List.getElem?_cons_succ, List.getElem?_cons_zero, Option.some.injEq] at ho; subst ho; intro K hK
        go_simp
        go_at_call 11
        (with_reducible refine (HU.out _ (bThen B_2.out V_2.out)).mono ?_)
        rintro e v3 ⟨t3, rfl, hr, hb⟩
        have V_3 := hidH (bThen V_2.out hb)
        have T_3 := hidH (T_2.out.below hb)
        have N_3 := hidH (N_2.out.below hb)
        have U_3 := hidH hr
        have aA_3 := (EA_2.out.below V_3.out).cell
        have aB_3 := (EB_2.out.below V_3.out).cell
        clear hr hb hHeld
        go_wp2_with fail
        refine hK.out _ _ ?_ (fun hHeld => ?_)
        · exact ⟨aA_3, aB_3⟩
        clear hK K
        try simp only [Act.put, List.setIfInBounds_toArray, List.set_cons_zero, List.set_cons_succ]
        refine callH 4 (by kernel_rfl) ?_
        intro o ho; simp only [List.getElem?_toArray, List.getElem?_cons_succ, List.getElem?_cons_zero, Option.some.injEq] at ho; subst ho; intro K hK
        go_simp
        go_at_call 25
        (with_reducible refine (HSP.out _ _ _ _ _ _ _ T_3.out.lies U_3.out.lies).mono ?_)
        rintro e v4 ⟨t4, rfl, hr, hb⟩
        obtain ⟨au, cu, rfl⟩ := hr.some
        have V_4 := hidH (bThen V_3.out hb)
        have T_4 := hidH (T_3.out.below hb)
        have U_4 := hidH (U_3.out.below hb)
        have N_4 := hidH (N_3.out.below hb)
        have R_4 := hidH hr
        have aA_4 := (EA_2.out.below V_4.out).cell
        have aB_4 := (EB_2.out.below V_4.out).cell
        clear hr hb hHeld
        go_wp2_with fail
        refine hK.out _ _ ?_ (fun hHeld => ?_)
        · exact ⟨aA_4, aB_4⟩
        clear hK K
        try simp only [Act.put, List.setIfInBounds_toArray, List.set_cons_zero, List.set_cons_succ]
        refine onH 5 (some 27) (v := ?_) (by kernel_rfl) (by kernel_rfl) (by kernel_rfl) (fun _ _ _ h => h) (by rfl) hHeld ?_ ?_
        rotate_left
        · intro o ho; simp only [List.getElem?_toArray, List.getElem?_cons_succ, List.getElem?_cons_zero, Option.some.injEq] at ho; subst ho; intro w hSw; (try dsimp only at hSw)
          go_simp
          try with_reducible rfl
        try simp only [Act.put, List.setIfInBounds_toArray, List.set_cons_zero, List.set_cons_succ]
        refine onH 6 (some 33) (v := ?_) (by kernel_rfl) (by kernel_rfl) (by kernel_rfl) (fun _ _ _ h => h) (by rfl) hHeld ?_ ?_
        rotate_left
        · intro o ho; simp only [List.getElem?_toArray, List.getElem?_cons_succ, List.getElem?_cons_zero, Option.some.injEq] at ho; subst ho; intro w hSw; (try dsimp only at hSw)
          go_simp
          try with_reducible rfl
        try simp only [Act.put, List.setIfInBounds_toArray, List.set_cons_zero, List.set_cons_succ]
        refine onH 7 (some 34) (v := ?_) (by kernel_rfl) (by kernel_rfl) (by kernel_rfl) (fun _ _ _ h => h) (by rfl) hHeld ?_ ?_
        rotate_left
        · intro o ho; simp only [List.getElem?_toArray, List.getElem?_cons_succ, List.getElem?_cons_zero, Option.some.injEq] at ho; subst ho; intro w hSw; (try dsimp only at hSw)
          go_simp
          try with_reducible rfl
        try simp only [Act.put, List.setIfInBounds_toArray, List.set_cons_zero, List.set_cons_succ]
        have cN := N_4.out.cell
        have fN := N_4.out.free 0
        refine callH 9 (by kernel_rfl) ?_
        intro o ho; simp only [List.getElem?_toArray, List.getElem?_cons_succ, List.getElem?_cons_zero, Option.some.injEq] at ho; subst ho; intro K hK
        go_simp
        clear hHeld
        refine hK.out _ _ ?_ (fun hHeld => ?_)
        · exact ⟨(by rw [World.cell?_setCell_other _ _ _ _ (by intro h; injection h; have z1 := V_1.out.size; have z2 := EA_2.out.lt; have z3 := EB_2.out.lt; omega)]; exact aA_4), (by rw [World.cell?_setCell_other _ _ _ _ (by intro h; injection h; have z1 := V_1.out.size; have z2 := EA_2.out.lt; have z3 := EB_2.out.lt; omega)]; exact aB_4)⟩
        clear hK K
        try simp only [Act.put, List.setIfInBounds_toArray, List.set_cons_zero, List.set_cons_succ]
        clear cN fN
        refine onH 10 (some 7) (v := ?_) (by kernel_rfl) (by kernel_rfl) (by kernel_rfl) (fun _ _ _ h => h) (by rfl) hHeld ?_ ?_
        rotate_left
        · intro o ho; simp only [List.getElem?_toArray, List.getElem?_cons_succ, List.getElem?_cons_zero, Option.some.injEq] at ho; subst ho; intro w hSw; (try dsimp only at hSw)
          go_simp
          try with_reducible rfl
        try simp only [Act.put, List.setIfInBounds_toArray, List.set_cons_zero, List.set_cons_succ]
        refine wpAnyH_done (by kernel_rfl) ?_ _
        go_wp2_with fail
        go_meet
        exact ⟨_, _, _, rfl, rfl, V_1.out.size, (N_4.out.put _).lt, N_4.out.put _, (R_4.out.apart (Apart.of_onto (Onto.setCell v1.heap.size 0 v4 _) (Nat.le_refl _) (Nat.lt_succ_self _)) (.inr N_3.out.lt)).mono V_3.out.size (by simp), V_4.out.setCell V_1.out.size _⟩
    · skip
      intro o ho; simp only [List.getElem?_toArray, List.getElem?_cons_succ, List.getElem?_cons_zero, Option.some.injEq] at ho; subst ho; intro K hK
      go_simp
      have V_1 := hidH (V_0.out.alloc V_0.out.size (.cells #[.slice none 0 0] 27))
      have N_1 := hidH (EngAt.fresh wd (.slice none 0 0))
      have Z_1 := hidH (show wd.heap.size ≤ (wd.alloc (.cells #[.slice none 0 0] 27)).heap.size by simp)
      have aA_1 := (EA_2.out.below V_1.out).cell
      have aB_1 := (EB_2.out.below V_1.out).cell
      generalize wd.alloc (.cells #[.slice none 0 0] 27) = wa1 at V_1 N_1  Z_1 aA_1 aB_1 ⊢
      clear hHeld
      refine hK.out _ _ ?_ (fun hHeld => ?_)
      · exact ⟨aA_1, aB_1⟩
      clear hK K
      try simp only [Act.put, List.setIfInBounds_toArray, List.set_cons_zero, List.set_cons_succ]
      refine callH 1 (by kernel_rfl) ?_
      intro o ho; simp only [List.getElem?_toArray, List.getElem?_cons_succ, List.getElem?_cons_zero, Option.some.injEq] at ho; subst ho; intro K hK
      go_simp
      go_at_call 11
      (with_reducible refine (HT.out _ (bThen B_2.out V_1.out)).mono ?_)
      rintro e v2 ⟨t2, rfl, hr, hb⟩
      have V_2 := hidH (bThen V_1.out hb)
      have N_2 := hidH (N_1.out.below hb)
      have T_2 := hidH hr
      have aA_2 := (EA_2.out.below V_2.out).cell
      have aB_2 := (EB_2.out.below V_2.out).cell
      clear hr hb hHeld
      go_wp2_with fail
      refine hK.out _ _ ?_ (fun hHeld => ?_)
      · exact ⟨aA_2, aB_2⟩
      clear hK K
      try simp only [Act.put, List.setIfInBounds_toArray, List.set_cons_zero, List.set_cons_succ]
      refine callH 3 (by kernel_rfl) ?_
      intro o ho; simp only [List.getElem?_toArray, List.getElem?_cons_succ, List.getElem?_cons_zero, Option.some.injEq] at ho; subst ho; intro K hK
      go_simp
      go_at_call 11
      (with_reducible refine (HU.out _ (bThen B_2.out V_2.out)).mono ?_)
      rintro e v3 ⟨t3, rfl, hr, hb⟩
      have V_3 := hidH (bThen V_2.out hb)
      have T_3 := hidH (T_2.out.below hb)
      have N_3 := hidH (N_2.out.below hb)
      have U_3 := hidH hr
      have aA_3 := (EA_2.out.below V_3.out).cell
      have aB_3 := (EB_2.out.below V_3.out).cell
      clear hr hb hHeld
      go_wp2_with fail
      refine hK.out _ _ ?_ (fun hHeld => ?_)
      · exact ⟨aA_3, aB_3⟩
      clear hK K
      try simp only [Act.put, List.setIfInBounds_toArray, List.set_cons_zero, List.set_cons_succ]
      refine callH 4 (by kernel_rfl) ?_
      intro o ho; simp only [List.getElem?_toArray, List.getElem?_cons_succ, List.getElem?_cons_zero, Option.some.injEq] at ho; subst ho; intro K hK
      go_simp
      go_at_call 25
      (with_reducible refine (HSP.out _ _ _ _ _ _ _ T_3.out.lies U_3.out.lies).mono ?_)
      rintro e v4 ⟨t4, rfl, hr, hb⟩
      obtain ⟨au, cu, rfl⟩ := hr.some
      have V_4 := hidH (bThen V_3.out hb)
      have T_4 := hidH (T_3.out.below hb)
      have U_4 := hidH (U_3.out.below hb)
      have N_4 := hidH (N_3.out.below hb)
      have R_4 := hidH hr
      have aA_4 := (EA_2.out.below V_4.out).cell
      have aB_4 := (EB_2.out.below V_4.out).cell
      clear hr hb hHeld
      go_wp2_with fail
      refine hK.out _ _ ?_ (fun hHeld => ?_)
      · exact ⟨aA_4, aB_4⟩
      clear hK K
      try simp only [Act.put, List.setIfInBounds_toArray, List.set_cons_zero, List.set_cons_succ]
      refine onH 5 (some 27) (v := ?_) (by kernel_rfl) (by kernel_rfl) (by kernel_rfl) (fun _ _ _ h => h) (by rfl) hHeld ?_ ?_
      rotate_left
      · intro o ho; simp only [List.getElem?_toArray, List.getElem?_cons_succ, List.getElem?_cons_zero, Option.some.injEq] at ho; subst ho; intro w hSw; (try dsimp only at hSw)
        go_simp
        try with_reducible rfl
      try simp only [Act.put, List.setIfInBounds_toArray, List.set_cons_zero, List.set_cons_succ]
      refine onH 6 (some 33) (v := ?_) (by kernel_rfl) (by kernel_rfl) (by kernel_rfl) (fun _ _ _ h => h) (by rfl) hHeld ?_ ?_
      rotate_left
      · intro o ho; simp only [List.getElem?_toArray, List.getElem?_cons_succ, List.getElem?_cons_zero, Option.some.injEq] at ho; subst ho; intro w hSw; (try dsimp only at hSw)
        go_simp
        try with_reducible rfl
      try simp only [Act.put, List.setIfInBounds_toArray, List.set_cons_zero, List.set_cons_succ]
      refine onH 7 (some 34) (v := ?_) (by kernel_rfl) (by kernel_rfl) (by kernel_rfl) (fun _ _ _ h => h) (by rfl) hHeld ?_ ?_
      rotate_left
      · intro o ho; simp only [List.getElem?_toArray, List.getElem?_cons_succ, List.getElem?_cons_zero, Option.some.injEq] at ho; subst ho; intro w hSw; (try dsimp only at hSw)
        go_simp
        try with_reducible rfl
      try simp only [Act.put, List.setIfInBounds_toArray, List.set_cons_zero, List.set_cons_succ]
      have cN := N_4.out.cell
      have fN := N_4.out.free 0
      refine callH 9 (by kernel_rfl) ?_
      intro o ho; simp only [List.getElem?_toArray, List.getElem?_cons_succ, List.getElem?_cons_zero, Option.some.injEq] at ho; subst ho; intro K hK
      go_simp
      clear hHeld
      refine hK.out _ _ ?_ (fun hHeld => ?_)
      · exact ⟨(by rw [World.cell?_setCell_other _ _ _ _ (by intro h; injection h; have z1 := V_0.out.size; have z2 := EA_2.out.lt; have z3 := EB_2.out.lt; omega)]; exact aA_4), (by rw [World.cell?_setCell_other _ _ _ _ (by intro h; injection h; have z1 := V_0.out.size; have z2 := EA_2.out.lt; have z3 := EB_2.out.lt; omega)]; exact aB_4)⟩
      clear hK K
      try simp only [Act.put, List.setIfInBounds_toArray, List.set_cons_zero, List.set_cons_succ]
      clear cN fN
      refine onH 10 (some 7) (v := ?_) (by kernel_rfl) (by kernel_rfl) (by kernel_rfl) (fun _ _ _ h => h) (by rfl) hHeld ?_ ?_
      rotate_left
      · intro o ho; simp only [List.getElem?_toArray, List.getElem?_cons_succ, List.getElem?_cons_zero, Option.some.injEq] at ho; subst ho; intro w hSw; (try dsimp only at hSw)
        go_simp
        try with_reducible rfl
      try simp only [Act.put, List.setIfInBounds_toArray, List.set_cons_zero, List.set_cons_succ]
      refine wpAnyH_done (by kernel_rfl) ?_ _
      go_wp2_with fail
      go_meet
      exact ⟨_, _, _, rfl, rfl, V_0.out.size, (N_4.out.put _).lt, N_4.out.put _, (R_4.out.apart (Apart.of_onto (Onto.setCell wd.heap.size 0 v4 _) (Nat.le_refl _) (Nat.lt_succ_self _)) (.inr N_3.out.lt)).mono V_3.out.size (by simp), V_4.out.setCell V_0.out.size _⟩
  case rest =>
    obtain ⟨kb900, au900, cu900, rfl, rfl, hkb, hkl, hEK, hRK, hBK⟩ := hcut
    have B_3 := hidH (bThen B_2.out hBK)
    have S_3 := hidH hBK.size
    have EA_3 := hidH (EA_2.out.below hBK)
    have EB_3 := hidH (EB_2.out.below hBK)
    have W_3 := hidH hRK
    have EW_3 := hidH hEK
    have S_900 := hidH hkl
    have S_901 := hidH hkb
    clear cA cB
    clear hkb hkl hEK hRK hBK B_2  EA_2 EB_2
    have cA := EA_3.out.cell
    have cB := EB_3.out.cell
    have cW := EW_3.out.cell
    go_wp2_with fail
    refine (HT.out _ B_3.out).mono ?_; rintro e w3 ⟨x0, rfl, hr, hb⟩
    have S_4 := hidH hb.size
    have B_4 := hidH (bThen B_3.out hb)
    have W_4 := hidH (W_3.out.below hb)
    have EA_4 := hidH (EA_3.out.below hb)
    have EB_4 := hidH (EB_3.out.below hb)
    have EW_4 := hidH (EW_3.out.below hb)
    have X_4 := hidH hr
    clear cA cB cW
    clear hb hr
    clear B_3 W_3 EA_3 EB_3 EW_3
    have cA := EA_4.out.cell
    have cB := EB_4.out.cell
    have cW := EW_4.out.cell
    obtain ⟨ax, cx, rfl⟩ := X_4.out.some
    have B_5 := hidH (bMore B_4.out (.cells #[.slice ax cs0.length cx] 27))
    have S_5 : Hid (w3.heap.size + 1 ≤ (w3.alloc (.cells #[.slice ax cs0.length cx] 27)).heap.size) := hidH (by simp)
    have W_5 := hidH (W_4.out.below (belowN w3 (.cells #[.slice ax cs0.length cx] 27)))
    have X_5 := hidH (X_4.out.below (belowN w3 (.cells #[.slice ax cs0.length cx] 27)))
    have EA_5 := hidH (EA_4.out.below (belowN w3 (.cells #[.slice ax cs0.length cx] 27)))
    have EB_5 := hidH (EB_4.out.below (belowN w3 (.cells #[.slice ax cs0.length cx] 27)))
    have EW_5 := hidH (EW_4.out.below (belowN w3 (.cells #[.slice ax cs0.length cx] 27)))
    have EX_5 := hidH (EngAt.fresh w3 (.slice ax cs0.length cx))
    clear cA cB cW
    clear B_4 W_4 X_4 EA_4 EB_4 EW_4
    have cA := EA_5.out.cell
    have cB := EB_5.out.cell
    have cW := EW_5.out.cell
    have cX := EX_5.out.cell
    go_wp2_with fail
    refine (HU.out _ B_5.out).mono ?_; rintro e w4 ⟨x1, rfl, hr, hb⟩
    have S_6 := hidH hb.size
    have B_6 := hidH (bThen B_5.out hb)
    have W_6 := hidH (W_5.out.below hb)
    have X_6 := hidH (X_5.out.below hb)
    have EA_6 := hidH (EA_5.out.below hb)
    have EB_6 := hidH (EB_5.out.below hb)
    have EW_6 := hidH (EW_5.out.below hb)
    have EX_6 := hidH (EX_5.out.below hb)
    have Y_6 := hidH hr
    clear cA cB cW cX
    clear hb hr
    clear B_5 W_5 X_5 EA_5 EB_5 EW_5 EX_5
    have cA := EA_6.out.cell
    have cB := EB_6.out.cell
    have cW := EW_6.out.cell
    have cX := EX_6.out.cell
    obtain ⟨ay, cy, rfl⟩ := Y_6.out.some
    have B_7 := hidH (bMore B_6.out (.cells #[.slice ay cs1.length cy] 27))
    have S_7 : Hid (w4.heap.size + 1 ≤ (w4.alloc (.cells #[.slice ay cs1.length cy] 27)).heap.size) := hidH (by simp)
    have W_7 := hidH (W_6.out.below (belowN w4 (.cells #[.slice ay cs1.length cy] 27)))
    have X_7 := hidH (X_6.out.below (belowN w4 (.cells #[.slice ay cs1.length cy] 27)))
    have Y_7 := hidH (Y_6.out.below (belowN w4 (.cells #[.slice ay cs1.length cy] 27)))
    have EA_7 := hidH (EA_6.out.below (belowN w4 (.cells #[.slice ay cs1.length cy] 27)))
    have EB_7 := hidH (EB_6.out.below (belowN w4 (.cells #[.slice ay cs1.length cy] 27)))
    have EW_7 := hidH (EW_6.out.below (belowN w4 (.cells #[.slice ay cs1.length cy] 27)))
    have EX_7 := hidH (EX_6.out.below (belowN w4 (.cells #[.slice ay cs1.length cy] 27)))
    have EY_7 := hidH (EngAt.fresh w4 (.slice ay cs1.length cy))
    clear cA cB cW cX
    clear B_6 W_6 X_6 Y_6 EA_6 EB_6 EW_6 EX_6
    have cA := EA_7.out.cell
    have cB := EB_7.out.cell
    have cW := EW_7.out.cell
    have cX := EX_7.out.cell
    have cY := EY_7.out.cell
    go_wp2_with fail
    refine (HIM.out _ _ _ _ _ _ _ X_7.out.lies Y_7.out.lies).mono ?_; rintro e w5 ⟨g, rfl, hr, hb⟩
    have S_8 := hidH hb.size
    have B_8 := hidH (bThen B_7.out hb)
    have W_8 := hidH (W_7.out.below hb)
    have X_8 := hidH (X_7.out.below hb)
    have Y_8 := hidH (Y_7.out.below hb)
    have EA_8 := hidH (EA_7.out.below hb)
    have EB_8 := hidH (EB_7.out.below hb)
    have EW_8 := hidH (EW_7.out.below hb)
    have EX_8 := hidH (EX_7.out.below hb)
    have EY_8 := hidH (EY_7.out.below hb)
    have G_8 := hidH hr
    clear cA cB cW cX cY
    clear hb hr
    clear B_7 W_7 X_7 Y_7 EA_7 EB_7 EW_7 EX_7 EY_7
    have cA := EA_8.out.cell
    have cB := EB_8.out.cell
    have cW := EW_8.out.cell
    have cX := EX_8.out.cell
    have cY := EY_8.out.cell
    obtain ⟨ag, cg, rfl⟩ := G_8.out.some
    have B_9 := hidH (bMore B_8.out (.cells #[.slice ag rs.length cg] 27))
    have S_9 : Hid (w5.heap.size + 1 ≤ (w5.alloc (.cells #[.slice ag rs.length cg] 27)).heap.size) := hidH (by simp)
    have W_9 := hidH (W_8.out.below (belowN w5 (.cells #[.slice ag rs.length cg] 27)))
    have X_9 := hidH (X_8.out.below (belowN w5 (.cells #[.slice ag rs.length cg] 27)))
    have Y_9 := hidH (Y_8.out.below (belowN w5 (.cells #[.slice ag rs.length cg] 27)))
    have G_9 := hidH (G_8.out.below (belowN w5 (.cells #[.slice ag rs.length cg] 27)))
    have EA_9 := hidH (EA_8.out.below (belowN w5 (.cells #[.slice ag rs.length cg] 27)))
    have EB_9 := hidH (EB_8.out.below (belowN w5 (.cells #[.slice ag rs.length cg] 27)))
    have EW_9 := hidH (EW_8.out.below (belowN w5 (.cells #[.slice ag rs.length cg] 27)))
    have EX_9 := hidH (EX_8.out.below (belowN w5 (.cells #[.slice ag rs.length cg] 27)))
    have EY_9 := hidH (EY_8.out.below (belowN w5 (.cells #[.slice ag rs.length cg] 27)))
    have EG_9 := hidH (EngAt.fresh w5 (.slice ag rs.length cg))
    clear cA cB cW cX cY
    clear B_8 W_8 X_8 Y_8 G_8 EA_8 EB_8 EW_8 EX_8 EY_8
    have cA := EA_9.out.cell
    have cB := EB_9.out.cell
    have cW := EW_9.out.cell
    have cX := EX_9.out.cell
    have cY := EY_9.out.cell
    have cG := EG_9.out.cell
    go_wp2_with fail
    refine (eqEng_yes _ _ rs _ _ _ _ _ G_9.out.lies W_9.out.lies).mono ?_; rintro e w6 ⟨rfl, hb⟩
    have S_10 := hidH hb.size
    have B_10 := hidH (bThen B_9.out hb)
    have W_10 := hidH (W_9.out.below hb)
    have X_10 := hidH (X_9.out.below hb)
    have Y_10 := hidH (Y_9.out.below hb)
    have G_10 := hidH (G_9.out.below hb)
    have EA_10 := hidH (EA_9.out.below hb)
    have EB_10 := hidH (EB_9.out.below hb)
    have EW_10 := hidH (EW_9.out.below hb)
    have EX_10 := hidH (EX_9.out.below hb)
    have EY_10 := hidH (EY_9.out.below hb)
    have EG_10 := hidH (EG_9.out.below hb)
    clear cA cB cW cX cY cG
    clear hb
    clear B_9 W_9 X_9 Y_9 G_9 EA_9 EB_9 EW_9 EX_9 EY_9 EG_9
    have cA := EA_10.out.cell
    have cB := EB_10.out.cell
    have cW := EW_10.out.cell
    have cX := EX_10.out.cell
    have cY := EY_10.out.cell
    have cG := EG_10.out.cell
    go_wp2_with fail
    go_region_with (first
      | (go_at_call 11; (with_reducible refine (HT.out _ B_10.out.drew).mono ?_); rintro e w7 ⟨yy, rfl, hr, hb⟩; (have B_11 := hidH (bThen B_10.out.drew hb)); (have YY := hidH hr); (have W_11 := hidH (W_10.out.below (bDrew hb))); (have X_11 := hidH (X_10.out.below (bDrew hb))); (have Y_11 := hidH (Y_10.out.below (bDrew hb))); (have G_11 := hidH (G_10.out.below (bDrew hb))); (have EA_11 := hidH (EA_10.out.below (bDrew hb))); (have dA := EA_11.out.cell); (have EB_11 := hidH (EB_10.out.below (bDrew hb))); (have dB := EB_11.out.cell); (have EW_11 := hidH (EW_10.out.below (bDrew hb))); (have dW := EW_11.out.cell); (have EX_11 := hidH (EX_10.out.below (bDrew hb))); (have dX := EX_11.out.cell); (have EY_11 := hidH (EY_10.out.below (bDrew hb))); (have dY := EY_11.out.cell); (have EG_11 := hidH (EG_10.out.below (bDrew hb))); (have dG := EG_11.out.cell); clear hb hr)
      | (go_at_call 13; (with_reducible refine (eqEng_yes _ _ cs0 _ _ _ _ _ X_11.out.lies YY.out.lies).mono ?_); rintro e w8 ⟨rfl, hb⟩; (have B_12 := hidH (bThen B_11.out hb)); (have W_12 := hidH (W_11.out.below hb)); (have X_12 := hidH (X_11.out.below hb)); (have Y_12 := hidH (Y_11.out.below hb)); (have G_12 := hidH (G_11.out.below hb)); (have EA_12 := hidH (EA_11.out.below hb)); (have EB_12 := hidH (EB_11.out.below hb)); (have EW_12 := hidH (EW_11.out.below hb)); (have EX_12 := hidH (EX_11.out.below hb)); (have EY_12 := hidH (EY_11.out.below hb)); (have EG_12 := hidH (EG_11.out.below hb)); clear hb))
    all_goals
      clear cA dA
      clear cB dB
      clear cW dW
      clear cX dX
      clear cY dY
      clear cG dG
      clear YY B_10 B_11 W_10 W_11 X_10 X_11 Y_10 Y_11 G_10 G_11 EA_10 EA_11 EB_10 EB_11 EW_10 EW_11 EX_10 EX_11 EY_10 EY_11 EG_10 EG_11
      have cA := EA_12.out.cell
      have cB := EB_12.out.cell
      have cW := EW_12.out.cell
      have cX := EX_12.out.cell
      have cY := EY_12.out.cell
      have cG := EG_12.out.cell
      go_wp2_with fail
      go_region_with (first
        | (go_at_call 11; (with_reducible refine (HU.out _ B_12.out.drew).mono ?_); rintro e w9 ⟨yy, rfl, hr, hb⟩; (have B_13 := hidH (bThen B_12.out.drew hb)); (have YY := hidH hr); (have W_13 := hidH (W_12.out.below (bDrew hb))); (have X_13 := hidH (X_12.out.below (bDrew hb))); (have Y_13 := hidH (Y_12.out.below (bDrew hb))); (have G_13 := hidH (G_12.out.below (bDrew hb))); (have EA_13 := hidH (EA_12.out.below (bDrew hb))); (have dA := EA_13.out.cell); (have EB_13 := hidH (EB_12.out.below (bDrew hb))); (have dB := EB_13.out.cell); (have EW_13 := hidH (EW_12.out.below (bDrew hb))); (have dW := EW_13.out.cell); (have EX_13 := hidH (EX_12.out.below (bDrew hb))); (have dX := EX_13.out.cell); (have EY_13 := hidH (EY_12.out.below (bDrew hb))); (have dY := EY_13.out.cell); (have EG_13 := hidH (EG_12.out.below (bDrew hb))); (have dG := EG_13.out.cell); clear hb hr)
        | (go_at_call 13; (with_reducible refine (eqEng_yes _ _ cs1 _ _ _ _ _ Y_13.out.lies YY.out.lies).mono ?_); rintro e w10 ⟨rfl, hb⟩; (have B_14 := hidH (bThen B_13.out hb)); (have W_14 := hidH (W_13.out.below hb)); (have X_14 := hidH (X_13.out.below hb)); (have Y_14 := hidH (Y_13.out.below hb)); (have G_14 := hidH (G_13.out.below hb)); (have EA_14 := hidH (EA_13.out.below hb)); (have EB_14 := hidH (EB_13.out.below hb)); (have EW_14 := hidH (EW_13.out.below hb)); (have EX_14 := hidH (EX_13.out.below hb)); (have EY_14 := hidH (EY_13.out.below hb)); (have EG_14 := hidH (EG_13.out.below hb)); clear hb))
      all_goals
        clear cA dA
        clear cB dB
        clear cW dW
        clear cX dX
        clear cY dY
        clear cG dG
        clear YY B_12 B_13 W_12 W_13 X_12 X_13 Y_12 Y_13 G_12 G_13 EA_12 EA_13 EB_12 EB_13 EW_12 EW_13 EX_12 EX_13 EY_12 EY_13 EG_12 EG_13
        have cA := EA_14.out.cell
        have cB := EB_14.out.cell
        have cW := EW_14.out.cell
        have cX := EX_14.out.cell
        have cY := EY_14.out.cell
        have cG := EG_14.out.cell
        go_wp2_with fail
        refine (markEng_any _ cs0 1 _ _ _ X_14.out (by omega) (by omega) hn0).mono ?_; rintro e w11 ⟨rfl, hr, ha⟩
        have S_15 := hidH ha.size
        have B_15 := hidH (B_14.out.trans (ha.below (by have z0 := S_0.out; have z1 := S_1.out; have z2 := S_2.out; have z3 := S_3.out; have z900 := S_900.out; have z901 := S_901.out; have z4 := S_4.out; have z5 := S_5.out; have z6 := S_6.out; have z7 := S_7.out; have z8 := S_8.out; have z9 := S_9.out; have z10 := S_10.out; omega) B_14.out.size))
        have W_15 := hidH (W_14.out.apart ha (by have z0 := S_0.out; have z1 := S_1.out; have z2 := S_2.out; have z3 := S_3.out; have z900 := S_900.out; have z901 := S_901.out; have z4 := S_4.out; have z5 := S_5.out; have z6 := S_6.out; have z7 := S_7.out; have z8 := S_8.out; have z9 := S_9.out; have z10 := S_10.out; omega))
        have Y_15 := hidH (Y_14.out.apart ha (by have z0 := S_0.out; have z1 := S_1.out; have z2 := S_2.out; have z3 := S_3.out; have z900 := S_900.out; have z901 := S_901.out; have z4 := S_4.out; have z5 := S_5.out; have z6 := S_6.out; have z7 := S_7.out; have z8 := S_8.out; have z9 := S_9.out; have z10 := S_10.out; omega))
        have G_15 := hidH (G_14.out.apart ha (by have z0 := S_0.out; have z1 := S_1.out; have z2 := S_2.out; have z3 := S_3.out; have z900 := S_900.out; have z901 := S_901.out; have z4 := S_4.out; have z5 := S_5.out; have z6 := S_6.out; have z7 := S_7.out; have z8 := S_8.out; have z9 := S_9.out; have z10 := S_10.out; omega))
        have EA_15 := hidH (EA_14.out.apart ha (by have := EA_14.out.lt; have z0 := S_0.out; have z1 := S_1.out; have z2 := S_2.out; have z3 := S_3.out; have z900 := S_900.out; have z901 := S_901.out; have z4 := S_4.out; have z5 := S_5.out; have z6 := S_6.out; have z7 := S_7.out; have z8 := S_8.out; have z9 := S_9.out; have z10 := S_10.out; omega))
        have EB_15 := hidH (EB_14.out.apart ha (by have := EB_14.out.lt; have z0 := S_0.out; have z1 := S_1.out; have z2 := S_2.out; have z3 := S_3.out; have z900 := S_900.out; have z901 := S_901.out; have z4 := S_4.out; have z5 := S_5.out; have z6 := S_6.out; have z7 := S_7.out; have z8 := S_8.out; have z9 := S_9.out; have z10 := S_10.out; omega))
        have EW_15 := hidH (EW_14.out.apart ha (by have := EW_14.out.lt; have z0 := S_0.out; have z1 := S_1.out; have z2 := S_2.out; have z3 := S_3.out; have z900 := S_900.out; have z901 := S_901.out; have z4 := S_4.out; have z5 := S_5.out; have z6 := S_6.out; have z7 := S_7.out; have z8 := S_8.out; have z9 := S_9.out; have z10 := S_10.out; omega))
        have EX_15 := hidH (EX_14.out.apart ha (by have := EX_14.out.lt; have z0 := S_0.out; have z1 := S_1.out; have z2 := S_2.out; have z3 := S_3.out; have z900 := S_900.out; have z901 := S_901.out; have z4 := S_4.out; have z5 := S_5.out; have z6 := S_6.out; have z7 := S_7.out; have z8 := S_8.out; have z9 := S_9.out; have z10 := S_10.out; omega))
        have EY_15 := hidH (EY_14.out.apart ha (by have := EY_14.out.lt; have z0 := S_0.out; have z1 := S_1.out; have z2 := S_2.out; have z3 := S_3.out; have z900 := S_900.out; have z901 := S_901.out; have z4 := S_4.out; have z5 := S_5.out; have z6 := S_6.out; have z7 := S_7.out; have z8 := S_8.out; have z9 := S_9.out; have z10 := S_10.out; omega))
        have EG_15 := hidH (EG_14.out.apart ha (by have := EG_14.out.lt; have z0 := S_0.out; have z1 := S_1.out; have z2 := S_2.out; have z3 := S_3.out; have z900 := S_900.out; have z901 := S_901.out; have z4 := S_4.out; have z5 := S_5.out; have z6 := S_6.out; have z7 := S_7.out; have z8 := S_8.out; have z9 := S_9.out; have z10 := S_10.out; omega))
        have X_15 := hidH hr
        clear cA cB cW cX cY cG
        clear ha hr
        clear B_14 W_14 X_14 Y_14 G_14 EA_14 EB_14 EW_14 EX_14 EY_14 EG_14
        have cA := EA_15.out.cell
        have cB := EB_15.out.cell
        have cW := EW_15.out.cell
        have cX := EX_15.out.cell
        have cY := EY_15.out.cell
        have cG := EG_15.out.cell
        clear X_15
        clear cX EX_15
        go_wp2_with fail
        refine (markEng_any _ cs1 (1 + cs0.length) _ _ _ Y_15.out (by omega) (by omega) (by omega)).mono ?_; rintro e w12 ⟨rfl, hr, ha⟩
        have S_16 := hidH ha.size
        have B_16 := hidH (B_15.out.trans (ha.below (by have z0 := S_0.out; have z1 := S_1.out; have z2 := S_2.out; have z3 := S_3.out; have z900 := S_900.out; have z901 := S_901.out; have z4 := S_4.out; have z5 := S_5.out; have z6 := S_6.out; have z7 := S_7.out; have z8 := S_8.out; have z9 := S_9.out; have z10 := S_10.out; have z15 := S_15.out; omega) B_15.out.size))
        have W_16 := hidH (W_15.out.apart ha (by have z0 := S_0.out; have z1 := S_1.out; have z2 := S_2.out; have z3 := S_3.out; have z900 := S_900.out; have z901 := S_901.out; have z4 := S_4.out; have z5 := S_5.out; have z6 := S_6.out; have z7 := S_7.out; have z8 := S_8.out; have z9 := S_9.out; have z10 := S_10.out; have z15 := S_15.out; omega))
        have G_16 := hidH (G_15.out.apart ha (by have z0 := S_0.out; have z1 := S_1.out; have z2 := S_2.out; have z3 := S_3.out; have z900 := S_900.out; have z901 := S_901.out; have z4 := S_4.out; have z5 := S_5.out; have z6 := S_6.out; have z7 := S_7.out; have z8 := S_8.out; have z9 := S_9.out; have z10 := S_10.out; have z15 := S_15.out; omega))
        have EA_16 := hidH (EA_15.out.apart ha (by have := EA_15.out.lt; have z0 := S_0.out; have z1 := S_1.out; have z2 := S_2.out; have z3 := S_3.out; have z900 := S_900.out; have z901 := S_901.out; have z4 := S_4.out; have z5 := S_5.out; have z6 := S_6.out; have z7 := S_7.out; have z8 := S_8.out; have z9 := S_9.out; have z10 := S_10.out; have z15 := S_15.out; omega))
        have EB_16 := hidH (EB_15.out.apart ha (by have := EB_15.out.lt; have z0 := S_0.out; have z1 := S_1.out; have z2 := S_2.out; have z3 := S_3.out; have z900 := S_900.out; have z901 := S_901.out; have z4 := S_4.out; have z5 := S_5.out; have z6 := S_6.out; have z7 := S_7.out; have z8 := S_8.out; have z9 := S_9.out; have z10 := S_10.out; have z15 := S_15.out; omega))
        have EW_16 := hidH (EW_15.out.apart ha (by have := EW_15.out.lt; have z0 := S_0.out; have z1 := S_1.out; have z2 := S_2.out; have z3 := S_3.out; have z900 := S_900.out; have z901 := S_901.out; have z4 := S_4.out; have z5 := S_5.out; have z6 := S_6.out; have z7 := S_7.out; have z8 := S_8.out; have z9 := S_9.out; have z10 := S_10.out; have z15 := S_15.out; omega))
        have EY_16 := hidH (EY_15.out.apart ha (by have := EY_15.out.lt; have z0 := S_0.out; have z1 := S_1.out; have z2 := S_2.out; have z3 := S_3.out; have z900 := S_900.out; have z901 := S_901.out; have z4 := S_4.out; have z5 := S_5.out; have z6 := S_6.out; have z7 := S_7.out; have z8 := S_8.out; have z9 := S_9.out; have z10 := S_10.out; have z15 := S_15.out; omega))
        have EG_16 := hidH (EG_15.out.apart ha (by have := EG_15.out.lt; have z0 := S_0.out; have z1 := S_1.out; have z2 := S_2.out; have z3 := S_3.out; have z900 := S_900.out; have z901 := S_901.out; have z4 := S_4.out; have z5 := S_5.out; have z6 := S_6.out; have z7 := S_7.out; have z8 := S_8.out; have z9 := S_9.out; have z10 := S_10.out; have z15 := S_15.out; omega))
        have Y_16 := hidH hr
        clear cA cB cW cY cG
        clear ha hr
        clear B_15 W_15 Y_15 G_15 EA_15 EB_15 EW_15 EY_15 EG_15
        have cA := EA_16.out.cell
        have cB := EB_16.out.cell
        have cW := EW_16.out.cell
        have cY := EY_16.out.cell
        have cG := EG_16.out.cell
        clear Y_16
        clear cY EY_16
        go_wp2_with fail
        refine (eqEng_yes _ _ rs _ _ _ _ _ G_16.out.lies W_16.out.lies).mono ?_; rintro e w13 ⟨rfl, hb⟩
        have S_17 := hidH hb.size
        have B_17 := hidH (bThen B_16.out hb)
        have W_17 := hidH (W_16.out.below hb)
        have G_17 := hidH (G_16.out.below hb)
        have EA_17 := hidH (EA_16.out.below hb)
        have EB_17 := hidH (EB_16.out.below hb)
        have EW_17 := hidH (EW_16.out.below hb)
        have EG_17 := hidH (EG_16.out.below hb)
        clear cA cB cW cG
        clear hb
        clear B_16 W_16 G_16 EA_16 EB_16 EW_16 EG_16
        have cA := EA_17.out.cell
        have cB := EB_17.out.cell
        have cW := EW_17.out.cell
        have cG := EG_17.out.cell
        go_wp2_with fail
        refine (markEng_any _ rs 1 _ _ _ G_17.out (by omega) (by omega) hrs).mono ?_; rintro e w14 ⟨rfl, hr, ha⟩
        have S_18 := hidH ha.size
        have B_18 := hidH (B_17.out.trans (ha.below (by have z0 := S_0.out; have z1 := S_1.out; have z2 := S_2.out; have z3 := S_3.out; have z900 := S_900.out; have z901 := S_901.out; have z4 := S_4.out; have z5 := S_5.out; have z6 := S_6.out; have z7 := S_7.out; have z8 := S_8.out; have z9 := S_9.out; have z10 := S_10.out; have z15 := S_15.out; have z16 := S_16.out; have z17 := S_17.out; omega) B_17.out.size))
        have W_18 := hidH (W_17.out.apart ha (by have z0 := S_0.out; have z1 := S_1.out; have z2 := S_2.out; have z3 := S_3.out; have z900 := S_900.out; have z901 := S_901.out; have z4 := S_4.out; have z5 := S_5.out; have z6 := S_6.out; have z7 := S_7.out; have z8 := S_8.out; have z9 := S_9.out; have z10 := S_10.out; have z15 := S_15.out; have z16 := S_16.out; have z17 := S_17.out; omega))
        have EA_18 := hidH (EA_17.out.apart ha (by have := EA_17.out.lt; have z0 := S_0.out; have z1 := S_1.out; have z2 := S_2.out; have z3 := S_3.out; have z900 := S_900.out; have z901 := S_901.out; have z4 := S_4.out; have z5 := S_5.out; have z6 := S_6.out; have z7 := S_7.out; have z8 := S_8.out; have z9 := S_9.out; have z10 := S_10.out; have z15 := S_15.out; have z16 := S_16.out; have z17 := S_17.out; omega))
        have EB_18 := hidH (EB_17.out.apart ha (by have := EB_17.out.lt; have z0 := S_0.out; have z1 := S_1.out; have z2 := S_2.out; have z3 := S_3.out; have z900 := S_900.out; have z901 := S_901.out; have z4 := S_4.out; have z5 := S_5.out; have z6 := S_6.out; have z7 := S_7.out; have z8 := S_8.out; have z9 := S_9.out; have z10 := S_10.out; have z15 := S_15.out; have z16 := S_16.out; have z17 := S_17.out; omega))
        have EW_18 := hidH (EW_17.out.apart ha (by have := EW_17.out.lt; have z0 := S_0.out; have z1 := S_1.out; have z2 := S_2.out; have z3 := S_3.out; have z900 := S_900.out; have z901 := S_901.out; have z4 := S_4.out; have z5 := S_5.out; have z6 := S_6.out; have z7 := S_7.out; have z8 := S_8.out; have z9 := S_9.out; have z10 := S_10.out; have z15 := S_15.out; have z16 := S_16.out; have z17 := S_17.out; omega))
        have EG_18 := hidH (EG_17.out.apart ha (by have := EG_17.out.lt; have z0 := S_0.out; have z1 := S_1.out; have z2 := S_2.out; have z3 := S_3.out; have z900 := S_900.out; have z901 := S_901.out; have z4 := S_4.out; have z5 := S_5.out; have z6 := S_6.out; have z7 := S_7.out; have z8 := S_8.out; have z9 := S_9.out; have z10 := S_10.out; have z15 := S_15.out; have z16 := S_16.out; have z17 := S_17.out; omega))
        have G_18 := hidH hr
        clear cA cB cW cG
        clear ha hr
        clear B_17 W_17 G_17 EA_17 EB_17 EW_17 EG_17
        have cA := EA_18.out.cell
        have cB := EB_18.out.cell
        have cW := EW_18.out.cell
        have cG := EG_18.out.cell
        go_wp2_with fail
        refine (heldEng_any _ 1 rs.length _ _ _ G_18.out.lies (by omega) (by omega) hrs).mono ?_; rintro e w15 ⟨rfl, hb⟩
        have S_19 := hidH hb.size
        have B_19 := hidH (bThen B_18.out hb)
        have W_19 := hidH (W_18.out.below hb)
        have G_19 := hidH (G_18.out.below hb)
        have EA_19 := hidH (EA_18.out.below hb)
        have EB_19 := hidH (EB_18.out.below hb)
        have EW_19 := hidH (EW_18.out.below hb)
        have EG_19 := hidH (EG_18.out.below hb)
        clear cA cB cW cG
        clear hb
        clear B_18 W_18 G_18 EA_18 EB_18 EW_18 EG_18
        have cA := EA_19.out.cell
        have cB := EB_19.out.cell
        have cW := EW_19.out.cell
        have cG := EG_19.out.cell
        go_wp2_with fail
        go_cut [15, 16] from 94 (fun s6 s7 wx => ∃ (kb : Nat) (au : Option Addr) (cu : Nat), s6 = .pointer (some ⟨kb, 0, none⟩) ∧ s7 = .bool rb ∧ w15.heap.size ≤ kb ∧ kb < wx.heap.size ∧ EngAt wx kb (.slice au rs.length cu) ∧ RowS wx w15.heap.size wx.heap.size (.slice au rs.length cu) rs ∧ Below w15.heap.size w15 wx)
        case first =>
          refine wp_region_held_drew (S := fun w' => w'.cell? ⟨w.heap.size, 0, none⟩ = some (.slice a0 cs0.length cap0) ∧ w'.cell? ⟨w.heap.size + 1, 0, none⟩ = some (.slice a1 cs1.length cap1)) (by kernel_rfl) ⟨cA, cB⟩ (fun hHeld => ?_)
          try dsimp only
          have V_0 := hidH ((Below.refl w15.heap.size w15).drew)
          generalize w15.drew = wd at V_0 hHeld ⊢
          refine onH 0 (some 95) (v := ?_) (by kernel_rfl) (by kernel_rfl) (by kernel_rfl) (fun _ _ _ h => h) (by rfl) hHeld ?_ ?_
          rotate_left
          · intro o ho; simp only [List.getElem?_toArray, List.getElem?_cons_zero, Option.some.injEq] at ho; subst ho; intro w hSw; (try dsimp only at hSw)
            go_simp
            try with_reducible rfl
          try simp only [Act.put, List.setIfInBounds_toArray, List.set_cons_zero, List.set_cons_succ]
          refine onH 2 (some 97) (v := ?_) (by kernel_rfl) (by kernel_rfl) (by kernel_rfl) (fun _ _ _ h => h) (by rfl) hHeld ?_ ?_
          rotate_left
          · intro o ho; simp only [List.getElem?_toArray, List.getElem?_cons_succ, List.getElem?_cons_zero, Option.some.injEq] at ho; subst ho; intro w hSw; (try dsimp only at hSw)
            go_simp
            try with_reducible rfl
          try simp only [Act.put, List.setIfInBounds_toArray, List.set_cons_zero, List.set_cons_succ]
          refine callH2 1 8 (by kernel_rfl) ?_ ?_
          · skip
            intro o ho; simp only [List.getElem?_toArray, List.getElem?_cons_succ, List.getElem?_cons_zero, Option.some.injEq] at ho; subst ho; intro K hK
            go_simp
            go_at_call 11
            (with_reducible refine (HT.out _ (bThen B_19.out V_0.out)).mono ?_)
            rintro e v1 ⟨t1, rfl, hr, hb⟩
            have V_1 := hidH (bThen V_0.out hb)
            have T_1 := hidH hr
            have aA_1 := (EA_19.out.below V_1.out).cell
            have aB_1 := (EB_19.out.below V_1.out).cell
            clear hr hb hHeld
            go_wp2_with fail
            refine hK.out _ _ ?_ (fun hHeld => ?_)
            · exact ⟨aA_1, aB_1⟩
            clear hK K
            try simp only [Act.put, List.setIfInBounds_toArray, List.set_cons_zero, List.set_cons_succ]
            refine callH2 3 8 (by kernel_rfl) ?_ ?_
            · skip
              intro o ho; simp only [List.getElem?_toArray, List.getElem?_cons_succ, List.getElem?_cons_zero, Option.some.injEq] at ho; subst ho; intro K hK
              go_simp
              go_at_call 11
              (with_reducible refine (HU.out _ (bThen B_19.out V_1.out)).mono ?_)
              rintro e v2 ⟨t2, rfl, hr, hb⟩
              have V_2 := hidH (bThen V_1.out hb)
              have T_2 := hidH (T_1.out.below hb)
              have U_2 := hidH hr
              have aA_2 := (EA_19.out.below V_2.out).cell
              have aB_2 := (EB_19.out.below V_2.out).cell
              clear hr hb hHeld
              go_wp2_with fail
              refine hK.out _ _ ?_ (fun hHeld => ?_)
              · exact ⟨aA_2, aB_2⟩
              clear hK K
              try simp only [Act.put, List.setIfInBounds_toArray, List.set_cons_zero, List.set_cons_succ]
              refine callH2 4 8 (by kernel_rfl) ?_ ?_
              · skip
                intro o ho; simp only [List.getElem?_toArray, List.getElem?_cons_succ, List.getElem?_cons_zero, Option.some.injEq] at ho; subst ho; intro K hK
                go_simp
                go_at_call 26
                (with_reducible refine (HIM.out _ _ _ _ _ _ _ T_2.out.lies U_2.out.lies).mono ?_)
                rintro e v3 ⟨t3, rfl, hr, hb⟩
                obtain ⟨au, cu, rfl⟩ := hr.some
                have V_3 := hidH (bThen V_2.out hb)
                have T_3 := hidH (T_2.out.below hb)
                have U_3 := hidH (U_2.out.below hb)
                have R_3 := hidH hr
                have aA_3 := (EA_19.out.below V_3.out).cell
                have aB_3 := (EB_19.out.below V_3.out).cell
                clear hr hb hHeld
                go_wp2_with fail
                refine hK.out _ _ ?_ (fun hHeld => ?_)
                · exact ⟨aA_3, aB_3⟩
                clear hK K
                try simp only [Act.put, List.setIfInBounds_toArray, List.set_cons_zero, List.set_cons_succ]
                refine onH 5 (some 94) (v := ?_) (by kernel_rfl) (by kernel_rfl) (by kernel_rfl) (fun _ _ _ h => h) (by rfl) hHeld ?_ ?_
                rotate_left
                · intro o ho; simp only [List.getElem?_toArray, List.getElem?_cons_succ, List.getElem?_cons_zero, Option.some.injEq] at ho; subst ho; intro w hSw; (try dsimp only at hSw)
                  go_simp
                  try with_reducible rfl
                try simp only [Act.put, List.setIfInBounds_toArray, List.set_cons_zero, List.set_cons_succ]
                refine onH 6 (some 100) (v := ?_) (by kernel_rfl) (by kernel_rfl) (by kernel_rfl) (fun _ _ _ h => h) (by rfl) hHeld ?_ ?_
                rotate_left
                · intro o ho; simp only [List.getElem?_toArray, List.getElem?_cons_succ, List.getElem?_cons_zero, Option.some.injEq] at ho; subst ho; intro w hSw; (try dsimp only at hSw)
                  go_simp
                  try with_reducible rfl
                try simp only [Act.put, List.setIfInBounds_toArray, List.set_cons_zero, List.set_cons_succ]
                refine onH 7 (some 101) (v := ?_) (by kernel_rfl) (by kernel_rfl) (by kernel_rfl) (fun _ _ _ h => h) (by rfl) hHeld ?_ ?_
                rotate_left
                · intro o ho; simp only [List.getElem?_toArray, List.getElem?_cons_succ, List.getElem?_cons_zero, Option.some.injEq] at ho; subst ho; intro w hSw; (try dsimp only at hSw)
                  go_simp
                  try with_reducible rfl
                try simp only [Act.put, List.setIfInBounds_toArray, List.set_cons_zero, List.set_cons_succ]
                refine callH 8 (by kernel_rfl) ?_
                intro o ho; simp only [List.getElem?_toArray, List.getElem?_cons_succ, List.getElem?_cons_zero, Option.some.injEq] at ho; subst ho; intro K hK
                go_simp
                have V_4 := hidH (V_3.out.alloc V_3.out.size (.cells #[.slice none 0 0] 27))
                have N_4 := hidH (EngAt.fresh v3 (.slice none 0 0))
                have T_4 := hidH (T_3.out.below (belowN v3 (.cells #[.slice none 0 0] 27)))
                have U_4 := hidH (U_3.out.below (belowN v3 (.cells #[.slice none 0 0] 27)))
                have R_4 := hidH (R_3.out.below (belowN v3 (.cells #[.slice none 0 0] 27)))
                have Z_4 := hidH (show v3.heap.size ≤ (v3.alloc (.cells #[.slice none 0 0] 27)).heap.size by simp)
                have aA_4 := (EA_19.out.below V_4.out).cell
                have aB_4 := (EB_19.out.below V_4.out).cell
                generalize v3.alloc (.cells #[.slice none 0 0] 27) = wa4 at V_4 N_4 T_4 U_4 R_4 Z_4 aA_4 aB_4 ⊢
                clear hHeld
                refine hK.out _ _ ?_ (fun hHeld => ?_)
                · exact ⟨aA_4, aB_4⟩
                clear hK K
                try simp only [Act.put, List.setIfInBounds_toArray, List.set_cons_zero, List.set_cons_succ]
                have cN := N_4.out.cell
                have fN := N_4.out.free 0
                refine callH 9 (by kernel_rfl) ?_
                intro o ho; simp only [List.getElem?_toArray, List.getElem?_cons_succ, List.getElem?_cons_zero, Option.some.injEq] at ho; subst ho; intro K hK
                go_simp
                clear hHeld
                refine hK.out _ _ ?_ (fun hHeld => ?_)
                · exact ⟨(by rw [World.cell?_setCell_other _ _ _ _ (by intro h; injection h; have z1 := V_3.out.size; have z2 := EA_19.out.lt; have z3 := EB_19.out.lt; omega)]; exact aA_4), (by rw [World.cell?_setCell_other _ _ _ _ (by intro h; injection h; have z1 := V_3.out.size; have z2 := EA_19.out.lt; have z3 := EB_19.out.lt; omega)]; exact aB_4)⟩
                clear hK K
                try simp only [Act.put, List.setIfInBounds_toArray, List.set_cons_zero, List.set_cons_succ]
                clear cN fN
                refine onH 10 (some 16) (v := ?_) (by kernel_rfl) (by kernel_rfl) (by kernel_rfl) (fun _ _ _ h => h) (by rfl) hHeld ?_ ?_
                rotate_left
                · intro o ho; simp only [List.getElem?_toArray, List.getElem?_cons_succ, List.getElem?_cons_zero, Option.some.injEq] at ho; subst ho; intro w hSw; (try dsimp only at hSw)
                  go_simp
                  try with_reducible rfl
                try simp only [Act.put, List.setIfInBounds_toArray, List.set_cons_zero, List.set_cons_succ]
                refine wpAnyH_done (by kernel_rfl) ?_ _
                go_wp2_with fail
                go_meet
                exact ⟨_, _, _, rfl, rfl, V_3.out.size, (N_4.out.put _).lt, N_4.out.put _, (R_4.out.apart (Apart.of_onto (Onto.setCell v3.heap.size 0 wa4 _) (Nat.le_refl _) (Nat.lt_succ_self _)) (.inl (Nat.le_refl _))).mono V_2.out.size (by have z := Z_4.out; simp; omega), V_4.out.setCell V_3.out.size _⟩
              · skip
                intro o ho; simp only [List.getElem?_toArray, List.getElem?_cons_succ, List.getElem?_cons_zero, Option.some.injEq] at ho; subst ho; intro K hK
                go_simp
                have V_3 := hidH (V_2.out.alloc V_2.out.size (.cells #[.slice none 0 0] 27))
                have N_3 := hidH (EngAt.fresh v2 (.slice none 0 0))
                have T_3 := hidH (T_2.out.below (belowN v2 (.cells #[.slice none 0 0] 27)))
                have U_3 := hidH (U_2.out.below (belowN v2 (.cells #[.slice none 0 0] 27)))
                have Z_3 := hidH (show v2.heap.size ≤ (v2.alloc (.cells #[.slice none 0 0] 27)).heap.size by simp)
                have aA_3 := (EA_19.out.below V_3.out).cell
                have aB_3 := (EB_19.out.below V_3.out).cell
                generalize v2.alloc (.cells #[.slice none 0 0] 27) = wa3 at V_3 N_3 T_3 U_3 Z_3 aA_3 aB_3 ⊢
                clear hHeld
                refine hK.out _ _ ?_ (fun hHeld => ?_)
                · exact ⟨aA_3, aB_3⟩
                clear hK K
                try simp only [Act.put, List.setIfInBounds_toArray, List.set_cons_zero, List.set_cons_succ]
                refine callH 4 (by kernel_rfl) ?_
                intro o ho; simp only [List.getElem?_toArray, List.getElem?_cons_succ, List.getElem?_cons_zero, Option.some.injEq] at ho; subst ho; intro K hK
                go_simp
                go_at_call 26
                (with_reducible refine (HIM.out _ _ _ _ _ _ _ T_3.out.lies U_3.out.lies).mono ?_)
                rintro e v4 ⟨t4, rfl, hr, hb⟩
                obtain ⟨au, cu, rfl⟩ := hr.some
                have V_4 := hidH (bThen V_3.out hb)
                have T_4 := hidH (T_3.out.below hb)
                have U_4 := hidH (U_3.out.below hb)
                have N_4 := hidH (N_3.out.below hb)
                have R_4 := hidH hr
                have aA_4 := (EA_19.out.below V_4.out).cell
                have aB_4 := (EB_19.out.below V_4.out).cell
                clear hr hb hHeld
                go_wp2_with fail
                refine hK.out _ _ ?_ (fun hHeld => ?_)
                · exact ⟨aA_4, aB_4⟩
                clear hK K
                try simp only [Act.put, List.setIfInBounds_toArray, List.set_cons_zero, List.set_cons_succ]
                refine onH 5 (some 94) (v := ?_) (by kernel_rfl) (by kernel_rfl) (by kernel_rfl) (fun _ _ _ h => h) (by rfl) hHeld ?_ ?_
                rotate_left
                · intro o ho; simp only [List.getElem?_toArray, List.getElem?_cons_succ, List.getElem?_cons_zero, Option.some.injEq] at ho; subst ho; intro w hSw; (try dsimp only at hSw)
                  go_simp
                  try with_reducible rfl
                try simp only [Act.put, List.setIfInBounds_toArray, List.set_cons_zero, List.set_cons_succ]
                refine onH 6 (some 100) (v := ?_) (by kernel_rfl) (by kernel_rfl) (by kernel_rfl) (fun _ _ _ h => h) (by rfl) hHeld ?_ ?_
                rotate_left
                · intro o ho; simp only [List.getElem?_toArray, List.getElem?_cons_succ, List.getElem?_cons_zero, Option.some.injEq] at ho; subst ho; intro w hSw; (try dsimp only at hSw)
                  go_simp
                  try with_reducible rfl
                try simp only [Act.put, List.setIfInBounds_toArray, List.set_cons_zero, List.set_cons_succ]
                refine onH 7 (some 101) (v := ?_) (by kernel_rfl) (by kernel_rfl) (by kernel_rfl) (fun _ _ _ h => h) (by rfl) hHeld ?_ ?_
                rotate_left
                · intro o ho; simp only [List.getElem?_toArray, List.getElem?_cons_succ, List.getElem?_cons_zero, Option.some.injEq] at ho; subst ho; intro w hSw; (try dsimp only at hSw)
                  go_simp
                  try with_reducible rfl
                try simp only [Act.put, List.setIfInBounds_toArray, List.set_cons_zero, List.set_cons_succ]
                have cN := N_4.out.cell
                have fN := N_4.out.free 0
                refine callH 9 (by kernel_rfl) ?_
                intro o ho; simp only [List.getElem?_toArray, List.getElem?_cons_succ, List.getElem?_cons_zero, Option.some.injEq] at ho; subst ho; intro K hK
                go_simp
                clear hHeld
                refine hK.out _ _ ?_ (fun hHeld => ?_)
                · exact ⟨(by rw [World.cell?_setCell_other _ _ _ _ (by intro h; injection h; have z1 := V_2.out.size; have z2 := EA_19.out.lt; have z3 := EB_19.out.lt; omega)]; exact aA_4), (by rw [World.cell?_setCell_other _ _ _ _ (by intro h; injection h; have z1 := V_2.out.size; have z2 := EA_19.out.lt; have z3 := EB_19.out.lt; omega)]; exact aB_4)⟩
                clear hK K
                try simp only [Act.put, List.setIfInBounds_toArray, List.set_cons_zero, List.set_cons_succ]
                clear cN fN
                refine onH 10 (some 16) (v := ?_) (by kernel_rfl) (by kernel_rfl) (by kernel_rfl) (fun _ _ _ h => h) (by rfl) hHeld ?_ ?_
                rotate_left
                · intro o ho; simp only [List.getElem?_toArray, List.getElem?_cons_succ, List.getElem?_cons_zero, Option.some.injEq] at ho; subst ho; intro w hSw; (try dsimp only at hSw)
                  go_simp
                  try with_reducible rfl
                try simp only [Act.put, List.setIfInBounds_toArray, List.set_cons_zero, List.set_cons_succ]
                refine wpAnyH_done (by kernel_rfl) ?_ _
                go_wp2_with fail
                go_meet
                exact ⟨_, _, _, rfl, rfl, V_2.out.size, (N_4.out.put _).lt, N_4.out.put _, (R_4.out.apart (Apart.of_onto (Onto.setCell v2.heap.size 0 v4 _) (Nat.le_refl _) (Nat.lt_succ_self _)) (.inr N_3.out.lt)).mono V_3.out.size (by simp), V_4.out.setCell V_2.out.size _⟩
            · skip
              intro o ho; simp only [List.getElem?_toArray, List.getElem?_cons_succ, List.getElem?_cons_zero, Option.some.injEq] at ho; subst ho; intro K hK
              go_simp
              have V_2 := hidH (V_1.out.alloc V_1.out.size (.cells #[.slice none 0 0] 27))
              have N_2 := hidH (EngAt.fresh v1 (.slice none 0 0))
              have T_2 := hidH (T_1.out.below (belowN v1 (.cells #[.slice none 0 0] 27)))
              have Z_2 := hidH (show v1.heap.size ≤ (v1.alloc (.cells #[.slice none 0 0] 27)).heap.size by simp)
              have aA_2 := (EA_19.out.below V_2.out).cell
              have aB_2 := (EB_19.out.below V_2.out).cell
              generalize v1.alloc (.cells #[.slice none 0 0] 27) = wa2 at V_2 N_2 T_2 Z_2 aA_2 aB_2 ⊢
              clear hHeld
              refine hK.out _ _ ?_ (fun hHeld => ?_)
              · exact ⟨aA_2, aB_2⟩
              clear hK K
              try simp only [Act.put, List.setIfInBounds_toArray, List.set_cons_zero, List.set_cons_succ]
              refine callH 3 (by kernel_rfl) ?_
              intro o ho; simp only [List.getElem?_toArray, List.getElem?_cons_succ, List.getElem?_cons_zero, Option.some.injEq] at ho; subst ho; intro K hK
              go_simp
              go_at_call 11
              (with_reducible refine (HU.out _ (bThen B_19.out V_2.out)).mono ?_)
              rintro e v3 ⟨t3, rfl, hr, hb⟩
              have V_3 := hidH (bThen V_2.out hb)
              have T_3 := hidH (T_2.out.below hb)
              have N_3 := hidH (N_2.out.below hb)
              have U_3 := hidH hr
              have aA_3 := (EA_19.out.below V_3.out).cell
              have aB_3 := (EB_19.out.below V_3.out).cell
              clear hr hb hHeld
              go_wp2_with fail
              refine hK.out _ _ ?_ (fun hHeld => ?_)
              · exact ⟨aA_3, aB_3⟩
              clear hK K
              try simp only [Act.put, List.setIfInBounds_toArray, List.set_cons_zero, List.set_cons_succ]
              refine callH 4 (by kernel_rfl) ?_
              intro o ho; simp only [List.getElem?_toArray, List.getElem?_cons_succ, List.getElem?_cons_zero, Option.some.injEq] at ho; subst ho; intro K hK
              go_simp
              go_at_call 26
              (with_reducible refine (HIM.out _ _ _ _ _ _ _ T_3.out.lies U_3.out.lies).mono ?_)
              rintro e v4 ⟨t4, rfl, hr, hb⟩
              obtain ⟨au, cu, rfl⟩ := hr.some
              have V_4 := hidH (bThen V_3.out hb)
              have T_4 := hidH (T_3.out.below hb)
              have U_4 := hidH (U_3.out.below hb)
              have N_4 := hidH (N_3.out.below hb)
              have R_4 := hidH hr
              have aA_4 := (EA_19.out.below V_4.out).cell
              have aB_4 := (EB_19.out.below V_4.out).cell
              clear hr hb hHeld
              go_wp2_with fail
              refine hK.out _ _ ?_ (fun hHeld => ?_)
              · exact ⟨aA_4, aB_4⟩
              clear hK K
              try simp only [Act.put, List.setIfInBounds_toArray, List.set_cons_zero, List.set_cons_succ]
              refine onH 5 (some 94) (v := ?_) (by kernel_rfl) (by kernel_rfl) (by kernel_rfl) (fun _ _ _ h => h) (by rfl) hHeld ?_ ?_
              rotate_left
              · intro o ho; simp only [List.getElem?_toArray, List.getElem?_cons_succ, List.getElem?_cons_zero, Option.some.injEq] at ho; subst ho; intro w hSw; (try dsimp only at hSw)
                go_simp
                try with_reducible rfl
              try simp only [Act.put, List.setIfInBounds_toArray, List.set_cons_zero, List.set_cons_succ]
              refine onH 6 (some 100) (v := ?_) (by kernel_rfl) (by kernel_rfl) (by kernel_rfl) (fun _ _ _ h => h) (by rfl) hHeld ?_ ?_
              rotate_left
              · intro o ho; simp only [List.getElem?_toArray, List.getElem?_cons_succ, List.getElem?_cons_zero, Option.some.injEq] at ho; subst ho; intro w hSw; (try dsimp only at hSw)
                go_simp
                try with_reducible rfl
              try simp only [Act.put, List.setIfInBounds_toArray, List.set_cons_zero, List.set_cons_succ]
              refine onH 7 (some 101) (v := ?_) (by kernel_rfl) (by kernel_rfl) (by kernel_rfl) (fun _ _ _ h => h) (by rfl) hHeld ?_ ?_
              rotate_left
              · intro o ho; simp only [List.getElem?_toArray, List.getElem?_cons_succ, List.getElem?_cons_zero, Option.some.injEq] at ho; subst ho; intro w hSw; (try dsimp only at hSw)
                go_simp
                try with_reducible rfl
              try simp only [Act.put, List.setIfInBounds_toArray, List.set_cons_zero, List.set_cons_succ]
              have cN := N_4.out.cell
              have fN := N_4.out.free 0
              refine callH 9 (by kernel_rfl) ?_
              intro o ho; simp only [List.getElem?_toArray, List.getElem?_cons_succ, List.getElem?_cons_zero, Option.some.injEq] at ho; subst ho; intro K hK
              go_simp
              clear hHeld
              refine hK.out _ _ ?_ (fun hHeld => ?_)
              · exact ⟨(by rw [World.cell?_setCell_other _ _ _ _ (by intro h; injection h; have z1 := V_1.out.size; have z2 := EA_19.out.lt; have z3 := EB_19.out.lt; omega)]; exact aA_4), (by rw [World.cell?_setCell_other _ _ _ _ (by intro h; injection h; have z1 := V_1.out.size; have z2 := EA_19.out.lt; have z3 := EB_19.out.lt; omega)]; exact aB_4)⟩
              clear hK K
              try simp only [Act.put, List.setIfInBounds_toArray, List.set_cons_zero, List.set_cons_succ]
              clear cN fN
              refine onH 10 (some 16) (v := ?_) (by kernel_rfl) (by kernel_rfl) (by kernel_rfl) (fun _ _ _ h => h) (by rfl) hHeld ?_ ?_
              rotate_left
              · intro o ho; simp only [List.getElem?_toArray, List.getElem?_cons_succ, List.getElem?_cons_zero, Option.some.injEq] at ho; subst ho; intro w hSw; (try dsimp only at hSw)
                go_simp
                try with_reducible rfl
              try simp only [Act.put, List.setIfInBounds_toArray, List.set_cons_zero, List.set_cons_succ]
              refine wpAnyH_done (by kernel_rfl) ?_ _
              go_wp2_with fail
              go_meet
              exact ⟨_, _, _, rfl, rfl, V_1.out.size, (N_4.out.put _).lt, N_4.out.put _, (R_4.out.apart (Apart.of_onto (Onto.setCell v1.heap.size 0 v4 _) (Nat.le_refl _) (Nat.lt_succ_self _)) (.inr N_3.out.lt)).mono V_3.out.size (by simp), V_4.out.setCell V_1.out.size _⟩
          · skip
            intro o ho; simp only [List.getElem?_toArray, List.getElem?_cons_succ, List.getElem?_cons_zero, Option.some.injEq] at ho; subst ho; intro K hK
            go_simp
            have V_1 := hidH (V_0.out.alloc V_0.out.size (.cells #[.slice none 0 0] 27))
            have N_1 := hidH (EngAt.fresh wd (.slice none 0 0))
            have Z_1 := hidH (show wd.heap.size ≤ (wd.alloc (.cells #[.slice none 0 0] 27)).heap.size by simp)
            have aA_1 := (EA_19.out.below V_1.out).cell
            have aB_1 := (EB_19.out.below V_1.out).cell
            generalize wd.alloc (.cells #[.slice none 0 0] 27) = wa1 at V_1 N_1  Z_1 aA_1 aB_1 ⊢
            clear hHeld
            refine hK.out _ _ ?_ (fun hHeld => ?_)
            · exact ⟨aA_1, aB_1⟩
            clear hK K
            try simp only [Act.put, List.setIfInBounds_toArray, List.set_cons_zero, List.set_cons_succ]
            refine callH 1 (by kernel_rfl) ?_
            intro o ho; simp only [List.getElem?_toArray, List.getElem?_cons_succ, List.getElem?_cons_zero, Option.some.injEq] at ho; subst ho; intro K hK
            go_simp
            go_at_call 11
            (with_reducible refine (HT.out _ (bThen B_19.out V_1.out)).mono ?_)
            rintro e v2 ⟨t2, rfl, hr, hb⟩
            have V_2 := hidH (bThen V_1.out hb)
            have N_2 := hidH (N_1.out.below hb)
            have T_2 := hidH hr
            have aA_2 := (EA_19.out.below V_2.out).cell
            have aB_2 := (EB_19.out.below V_2.out).cell
            clear hr hb hHeld
            go_wp2_with fail
            refine hK.out _ _ ?_ (fun hHeld => ?_)
            · exact ⟨aA_2, aB_2⟩
            clear hK K
            try simp only [Act.put, List.setIfInBounds_toArray, List.set_cons_zero, List.set_cons_succ]
            refine callH 3 (by kernel_rfl) ?_
            intro o ho; simp only [List.getElem?_toArray, List.getElem?_cons_succ, List.getElem?_cons_zero, Option.some.injEq] at ho; subst ho; intro K hK
            go_simp
            go_at_call 11
            (with_reducible refine (HU.out _ (bThen B_19.out V_2.out)).mono ?_)
            rintro e v3 ⟨t3, rfl, hr, hb⟩
            have V_3 := hidH (bThen V_2.out hb)
            have T_3 := hidH (T_2.out.below hb)
            have N_3 := hidH (N_2.out.below hb)
            have U_3 := hidH hr
            have aA_3 := (EA_19.out.below V_3.out).cell
            have aB_3 := (EB_19.out.below V_3.out).cell
            clear hr hb hHeld
            go_wp2_with fail
            refine hK.out _ _ ?_ (fun hHeld => ?_)
            · exact ⟨aA_3, aB_3⟩
            clear hK K
            try simp only [Act.put, List.setIfInBounds_toArray, List.set_cons_zero, List.set_cons_succ]
            refine callH 4 (by kernel_rfl) ?_
            intro o ho; simp only [List.getElem?_toArray, List.getElem?_cons_succ, List.getElem?_cons_zero, Option.some.injEq] at ho; subst ho; intro K hK
            go_simp
            go_at_call 26
            (with_reducible refine (HIM.out _ _ _ _ _ _ _ T_3.out.lies U_3.out.lies).mono ?_)
            rintro e v4 ⟨t4, rfl, hr, hb⟩
            obtain ⟨au, cu, rfl⟩ := hr.some
            have V_4 := hidH (bThen V_3.out hb)
            have T_4 := hidH (T_3.out.below hb)
            have U_4 := hidH (U_3.out.below hb)
            have N_4 := hidH (N_3.out.below hb)
            have R_4 := hidH hr
            have aA_4 := (EA_19.out.below V_4.out).cell
            have aB_4 := (EB_19.out.below V_4.out).cell
            clear hr hb hHeld
            go_wp2_with fail
            refine hK.out _ _ ?_ (fun hHeld => ?_)
            · exact ⟨aA_4, aB_4⟩
            clear hK K
            try simp only [Act.put, List.setIfInBounds_toArray, List.set_cons_zero, List.set_cons_succ]
            refine onH 5 (some 94) (v := ?_) (by kernel_rfl) (by kernel_rfl) (by kernel_rfl) (fun _ _ _ h => h) (by rfl) hHeld ?_ ?_
            rotate_left
            · intro o ho; simp only [List.getElem?_toArray, List.getElem?_cons_succ, List.getElem?_cons_zero, Option.some.injEq] at ho; subst ho; intro w hSw; (try dsimp only at hSw)
              go_simp
              try with_reducible rfl
            try simp only [Act.put, List.setIfInBounds_toArray, List.set_cons_zero, List.set_cons_succ]
            refine onH 6 (some 100) (v := ?_) (by kernel_rfl) (by kernel_rfl) (by kernel_rfl) (fun _ _ _ h => h) (by rfl) hHeld ?_ ?_
            rotate_left
            · intro o ho; simp only [List.getElem?_toArray, List.getElem?_cons_succ, List.getElem?_cons_zero, Option.some.injEq] at ho; subst ho; intro w hSw; (try dsimp only at hSw)
              go_simp
              try with_reducible rfl
            try simp only [Act.put, List.setIfInBounds_toArray, List.set_cons_zero, List.set_cons_succ]
            refine onH 7 (some 101) (v := ?_) (by kernel_rfl) (by kernel_rfl) (by kernel_rfl) (fun _ _ _ h => h) (by rfl) hHeld ?_ ?_
            rotate_left
            · intro o ho; simp only [List.getElem?_toArray, List.getElem?_cons_succ, List.getElem?_cons_zero, Option.some.injEq] at ho; subst ho; intro w hSw; (try dsimp only at hSw)
              go_simp
              try with_reducible rfl
            try simp only [Act.put, List.setIfInBounds_toArray, List.set_cons_zero, List.set_cons_succ]
            have cN := N_4.out.cell
            have fN := N_4.out.free 0
            refine callH 9 (by kernel_rfl) ?_
            intro o ho; simp only [List.getElem?_toArray, List.getElem?_cons_succ, List.getElem?_cons_zero, Option.some.injEq] at ho; subst ho; intro K hK
            go_simp
            clear hHeld
            refine hK.out _ _ ?_ (fun hHeld => ?_)
            · exact ⟨(by rw [World.cell?_setCell_other _ _ _ _ (by intro h; injection h; have z1 := V_0.out.size; have z2 := EA_19.out.lt; have z3 := EB_19.out.lt; omega)]; exact aA_4), (by rw [World.cell?_setCell_other _ _ _ _ (by intro h; injection h; have z1 := V_0.out.size; have z2 := EA_19.out.lt; have z3 := EB_19.out.lt; omega)]; exact aB_4)⟩
            clear hK K
            try simp only [Act.put, List.setIfInBounds_toArray, List.set_cons_zero, List.set_cons_succ]
            clear cN fN
            refine onH 10 (some 16) (v := ?_) (by kernel_rfl) (by kernel_rfl) (by kernel_rfl) (fun _ _ _ h => h) (by rfl) hHeld ?_ ?_
            rotate_left
            · intro o ho; simp only [List.getElem?_toArray, List.getElem?_cons_succ, List.getElem?_cons_zero, Option.some.injEq] at ho; subst ho; intro w hSw; (try dsimp only at hSw)
              go_simp
              try with_reducible rfl
            try simp only [Act.put, List.setIfInBounds_toArray, List.set_cons_zero, List.set_cons_succ]
            refine wpAnyH_done (by kernel_rfl) ?_ _
            go_wp2_with fail
            go_meet
            exact ⟨_, _, _, rfl, rfl, V_0.out.size, (N_4.out.put _).lt, N_4.out.put _, (R_4.out.apart (Apart.of_onto (Onto.setCell wd.heap.size 0 v4 _) (Nat.le_refl _) (Nat.lt_succ_self _)) (.inr N_3.out.lt)).mono V_3.out.size (by simp), V_4.out.setCell V_0.out.size _⟩
        case rest =>
          obtain ⟨kb902, au902, cu902, rfl, rfl, hkb, hkl, hEK, hRK, hBK⟩ := hcut
          have B_20 := hidH (bThen B_19.out hBK)
          have S_20 := hidH hBK.size
          have W_20 := hidH (W_19.out.below hBK)
          have G_20 := hidH (G_19.out.below hBK)
          have EA_20 := hidH (EA_19.out.below hBK)
          have EB_20 := hidH (EB_19.out.below hBK)
          have EW_20 := hidH (EW_19.out.below hBK)
          have EG_20 := hidH (EG_19.out.below hBK)
          have H_20 := hidH hRK
          have EH_20 := hidH hEK
          have S_902 := hidH hkl
          have S_903 := hidH hkb
          clear cA cB cW cG
          clear hkb hkl hEK hRK hBK B_19 W_19 G_19 EA_19 EB_19 EW_19 EG_19
          have cA := EA_20.out.cell
          have cB := EB_20.out.cell
          have cW := EW_20.out.cell
          have cG := EG_20.out.cell
          have cH := EH_20.out.cell
          go_wp2_with fail
          refine (eqEng_yes _ _ rs _ _ _ _ _ H_20.out.lies W_20.out.lies).mono ?_; rintro e w16 ⟨rfl, hb⟩
          have S_21 := hidH hb.size
          have B_21 := hidH (bThen B_20.out hb)
          have W_21 := hidH (W_20.out.below hb)
          have G_21 := hidH (G_20.out.below hb)
          have H_21 := hidH (H_20.out.below hb)
          have EA_21 := hidH (EA_20.out.below hb)
          have EB_21 := hidH (EB_20.out.below hb)
          have EW_21 := hidH (EW_20.out.below hb)
          have EG_21 := hidH (EG_20.out.below hb)
          have EH_21 := hidH (EH_20.out.below hb)
          clear cA cB cW cG cH
          clear hb
          clear B_20 W_20 G_20 H_20 EA_20 EB_20 EW_20 EG_20 EH_20
          have cA := EA_21.out.cell
          have cB := EB_21.out.cell
          have cW := EW_21.out.cell
          have cG := EG_21.out.cell
          have cH := EH_21.out.cell
          go_wp2_with fail
          refine (heldEng_any _ 1 rs.length _ _ _ G_21.out.lies (by omega) (by omega) hrs).mono ?_; rintro e w17 ⟨rfl, hb⟩
          have S_22 := hidH hb.size
          have B_22 := hidH (bThen B_21.out hb)
          have W_22 := hidH (W_21.out.below hb)
          have G_22 := hidH (G_21.out.below hb)
          have H_22 := hidH (H_21.out.below hb)
          have EA_22 := hidH (EA_21.out.below hb)
          have EB_22 := hidH (EB_21.out.below hb)
          have EW_22 := hidH (EW_21.out.below hb)
          have EG_22 := hidH (EG_21.out.below hb)
          have EH_22 := hidH (EH_21.out.below hb)
          clear cA cB cW cG cH
          clear hb
          clear B_21 W_21 G_21 H_21 EA_21 EB_21 EW_21 EG_21 EH_21
          have cA := EA_22.out.cell
          have cB := EB_22.out.cell
          have cW := EW_22.out.cell
          have cG := EG_22.out.cell
          have cH := EH_22.out.cell
          go_wp2
          go_ret
          exact ⟨rfl, B_22.out⟩
end Go.Proofs.YtliakbgigkajnaaDoor
