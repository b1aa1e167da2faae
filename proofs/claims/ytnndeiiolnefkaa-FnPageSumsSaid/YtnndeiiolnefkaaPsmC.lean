/-
  PageSums: the model. No conditions but that slices fit in memory.
-/
import Derived.Test.YtnndeiiolnefkaaPlcC
import Derived.Test.YtnndeiiolnefkaaPsmB
import Derived.Test.YtnndeiiolnefkaaPolyFa
namespace Go.Proofs.Ytnndeiiolnefkaa
set_option maxRecDepth 4000
open Go.RowKit
theorem sPageSums_no (R A W : Int) (v : Value) (vs : List Int) (page : Int) (w : World) (lo hi : Nat) (hv : Lies w lo hi v vs) (h : pgOk R A W vs page = false) : Calls Try.prog 29 #[layV R A W, v, .int .i64 page] w (NewRow [] w) := by
  have HV := hidH hv
  obtain ⟨a, cap, rfl, hlc, hcm, hnil, hcell⟩ := hv
  unfold maxLen at hcm
  have HPN := hidH (fun W' => sPagesNeeded_any R A W vs.length W')
  have HL := hidH (fun W' => sLayoutValid_any R A W W')
  have BA := hidH (bMore (bMore (bMore (Below.refl w.heap.size w) (layC R A W)) (.cells #[] 3)) (layC R A W))
  have LA := hidH (((LayAt.fresh w R A W).below (bMore (Below.refl _ _) (.cells #[] 3))).below (bMore (Below.refl _ _) (layC R A W)))
  have HO := hidH (fun W' => row_of_owns (show (W'.alloc (.cells #[] 3)).ownsRow W'.heap.size 3 1 (.slice (some ⟨W'.heap.size, 0, none⟩) 0 0) ([] : List Int).length (ints []) from World.ownsRow_made (base := W'.heap.size) (e := 3) (size := 1) W' #[] 0 (Nat.le_refl _) (Nat.zero_le _) rfl))
  have hr0 := (HO.out (w.alloc (layC R A W))).1
  rw [show (w.alloc (layC R A W)).heap.size = w.heap.size + 1 by simp] at hr0
  have HR0 := hidH ((hr0.below (bMore (Below.refl _ _) (layC R A W))).mono (show w.heap.size ≤ w.heap.size + 1 by omega) (show _ ≤ (((w.alloc (layC R A W)).alloc (.cells #[] 3)).alloc (layC R A W)).heap.size by simp))
  clear hr0
  clear hnil hcell HO
  unfold pgOk at h
  cases hl : layOk R A W
  · rw [hl] at HL
    clear hl h
    unfold layV layC at *
    go_enter Try.func29, Try.ntmps29
    go_wp2_with fail
    refine (HL.out _).mono ?_; rintro e w1 ⟨rfl, rfl⟩
    go_wp2_with fail
    go_ret
    exact ⟨_, rfl, HR0.out, BA.out⟩
  · rw [hl] at HL
    cases ht : tableOk vs
    · have HT := hidH ht
      clear hl ht h
      unfold layV layC at *
      go_enter Try.func29, Try.ntmps29
      go_wp2_with fail
      refine (HL.out _).mono ?_; rintro e w1 ⟨rfl, rfl⟩
      go_wp2_with fail
      refine (sTableValid_any _ vs _ _ _ (HV.out.below BA.out)).mono ?_; rintro e w2 ⟨rfl, rfl⟩
      rw [HT.out]
      go_wp2_with fail
      go_ret
      exact ⟨_, rfl, HR0.out, BA.out⟩
    · have HT := hidH ht
      rw [ht, Bool.true_and] at h
      have HBT := hidH (fun W' => sIn_any page 0 (pagesA R A W vs.length - 1) false h W')
      have hpb : -1 ≤ pagesA R A W vs.length ∧ pagesA R A W vs.length ≤ 180 := by
        unfold pagesA
        split
        · rename_i hh
          rw [Bool.and_eq_true] at hh
          have ⟨c1, c2⟩ := of_decide_eq_true hh.2
          have ⟨⟨r1, r2⟩, ⟨a1, a2⟩, _⟩ := (layOk_iff R A W).1 hh.1
          have ⟨p1, p2, p3⟩ := places_bd R A r1 r2 a1 a2
          have q1 : 0 ≤ ((vs.length : Int) + A * R - 1) / (A * R) := Int.ediv_nonneg (by omega) (by omega)
          have q2 : ((vs.length : Int) + A * R - 1) / (A * R) ≤ (vs.length : Int) + A * R - 1 := Int.ediv_le_self _ (by omega)
          omega
        · omega
      clear hl ht h
      generalize pagesA R A W vs.length = pn at *
      unfold layV layC at *
      have c0 := (show LayAt _ w.heap.size R A W from LA.out).cell0
      have c1 := (show LayAt _ w.heap.size R A W from LA.out).cell1
      have c2 := (show LayAt _ w.heap.size R A W from LA.out).cell2
      go_enter Try.func29, Try.ntmps29
      go_wp2_with fail
      refine (HL.out _).mono ?_; rintro e w1 ⟨rfl, rfl⟩
      go_wp2_with fail
      refine (sTableValid_any _ vs _ _ _ (HV.out.below BA.out)).mono ?_; rintro e w2 ⟨rfl, rfl⟩
      rw [HT.out]
      go_wp2_with fail
      refine (HPN.out _).mono ?_; rintro e w2 ⟨rfl, hb⟩
      have B2 := hidH (bThen BA.out hb)
      have HR2 := hidH ((HR0.out.below hb).mono (Nat.le_refl _) hb.size)
      clear hb c0 c1 c2
      go_wp2_with fail
      refine (HBT.out _).mono ?_; rintro e w3 ⟨rfl, rfl⟩
      go_wp2_with fail
      go_ret
      exact ⟨_, rfl, HR2.out, B2.out⟩
theorem LayAt.lowB {w w' : World} {b B : Nat} {R A W : Int} (h : LayAt w b R A W) (hb : Below B w w') (hl : b < B) : LayAt w' b R A W := by
  unfold LayAt at *
  rw [hb.block b hl]; exact h
theorem pgE_at (rn an pn : Nat) (vs : List Int) (c r : Nat) (hc : c < an) (hr : r < rn) : (pgE rn an pn vs)[c * rn + r]? = vs[pn * (an * rn) + (c * rn + r)]? := by
  have h1 : (c + 1) * rn ≤ an * rn := Nat.mul_le_mul_right rn hc
  rw [Nat.add_mul, Nat.one_mul] at h1
  exact pgE_get rn an pn vs _ (by omega)
theorem pgE_end (rn an pn : Nat) (vs : List Int) (c r : Nat) (h : vs.length ≤ pn * (an * rn) + (c * rn + r)) : (pgE rn an pn vs).length ≤ c * rn + r := by
  rw [pgE_length]; omega
theorem psL_get (rn an pn : Nat) (vs : List Int) (c : Nat) (h : c < an) : (psL rn an pn vs)[c]? = some (colTo (pgE rn an pn vs) rn c rn) := by
  unfold psL
  rw [sumsAt_get _ _ _ _ _ h, colAt_all]
theorem psL_length (rn an pn : Nat) (vs : List Int) : (psL rn an pn vs).length = an := by unfold psL; exact sumsAt_length _ _ _ _
set_option maxHeartbeats 3200000 in
theorem sPageSums_yes (rn an pn : Nat) (W : Int) (v : Value) (vs : List Int) (w : World) (lo hi : Nat) (hv : Lies w lo hi v vs) (h : pgOk rn an W vs pn = true) : Calls Try.prog 29 #[layV rn an W, v, .int .i64 pn] w (NewRow (psL rn an pn vs) w) := by
  have HV := hidH hv
  obtain ⟨ht, hl, rn', an', pn', e1, e2, e3, hr1, hr2, ha1, ha2, hlt, hp59, hP1, hP2, hpa⟩ := pgOk_parts _ _ _ _ _ h
  obtain rfl : rn = rn' := by omega
  obtain rfl : an = an' := by omega
  obtain rfl : pn = pn' := by omega
  obtain ⟨b0, off0, cap, rfl, hlc, hcm, hlo0, hhi0, hbw0, hcell0⟩ := hv.addr (by omega)
  unfold maxLen at hcm
  have HCELL := hidH hcell0
  have HT := hidH ht
  have ⟨_, t60, htb⟩ := (listOk_iff _ _ _).1 ht
  have hEb := hidH (fun x (hx : x ∈ pgE rn an pn vs) => htb x (pgE_mem hx))
  have HPN := hidH (fun W' => sPagesNeeded_any rn an W vs.length W')
  have HL := hidH (fun W' => sLayoutValid_any rn an W W')
  rw [hl] at HL
  have hh := h
  unfold pgOk at hh
  rw [Bool.and_eq_true] at hh
  have hpd := of_decide_eq_true hh.2
  have HBT := hidH (fun W' => sIn_any pn 0 (pagesA rn an W vs.length - 1) true hh.2 W')
  have HAT := hidH (fun c r hc hr => pgE_at rn an pn vs c r hc hr)
  have HEND := hidH (fun c r h => pgE_end rn an pn vs c r h)
  have HGET := hidH (fun c h => psL_get rn an pn vs c h)
  have HLEN := hidH (psL_length rn an pn vs)
  have hFP : pn * rn ≤ 59 * 20 := Nat.mul_le_mul hp59 hr2
  obtain ⟨X, hX⟩ : ∃ X, X = pn * rn := ⟨_, rfl⟩
  obtain ⟨F, hF⟩ : ∃ F, F = pn * (an * rn) := ⟨_, rfl⟩
  have hXF : X * an = F := by rw [hX, hF, Nat.mul_assoc, Nat.mul_comm rn an]
  rw [← hF] at hlt HAT HEND
  rw [← hX] at hFP
  clear ht hh h hcell0 e1 e2 e3 hl hv htb hP1 hP2 hF
  generalize pgE rn an pn vs = E at *
  generalize psL rn an pn vs = S at *
  generalize pagesA rn an W vs.length = pg at *
  have hpg : 1 ≤ pg := by omega
  have hF60 : F ≤ 60 := by omega
  have hXb : X ≤ 1000000 := by omega
  have hXz : (pn : Int) * (rn : Int) = (X : Int) := by rw [hX]; simp
  have hFz : (X : Int) * (an : Int) = (F : Int) := by rw [← hXF]; simp
  obtain ⟨pz, hpz⟩ : ∃ z : Int, z = (pn : Int) := ⟨_, rfl⟩
  obtain ⟨rz, hrz⟩ : ∃ z : Int, z = (rn : Int) := ⟨_, rfl⟩
  obtain ⟨az, haz⟩ : ∃ z : Int, z = (an : Int) := ⟨_, rfl⟩
  have HG := hidH (fun (c : Nat) (hc : c < an) => show ∃ G : Nat, G = c * rn ∧ G ≤ 120 ∧ (c : Int) * rz = (G : Int) from ⟨c * rn, rfl, by have : c * rn ≤ 6 * 20 := Nat.mul_le_mul (by omega) hr2; omega, by rw [hrz]; simp⟩)
  have HCA := hidH (fun (c : Nat) => show (c < an → (c : Int) < az) ∧ (¬ c < an → ¬ (c : Int) < az) by omega)
  have HRA := hidH (fun (r : Nat) => show (r < rn → (r : Int) < rz) ∧ (¬ r < rn → ¬ (r : Int) < rz) by omega)
  rw [← hpz, ← hrz] at hXz
  rw [← haz] at hFz
  rw [← hrz, ← haz] at HPN HL
  rw [← hpz] at HBT
  rw [← hpz, ← hrz, ← haz]
  have HW1 := hidH (show wrap64 (pz * rz) = (X : Int) from (congrArg wrap64 hXz).trans (wrapNat X hXb).1)
  have HW2 := hidH (show wrap64 ((X : Int) * az) = (F : Int) from (congrArg wrap64 hFz).trans (wrapNat F (Nat.le_trans hF60 (by decide))).1)
  clear hX hXF hXz hFz hpz hrz haz hXb hFP hpd
  have BA := hidH (bMore (bMore (bMore (Below.refl w.heap.size w) (layC rz az W)) (.cells #[] 3)) (layC rz az W))
  have LA := hidH (((LayAt.fresh w rz az W).below (bMore (Below.refl _ _) (.cells #[] 3))).below (bMore (Below.refl _ _) (layC rz az W)))
  have hO := World.ownsRow_made (base := w.heap.size + 1) (e := 3) (size := 1) (w.alloc (layC rz az W)) #[] 0 (by simp) (Nat.zero_le _) rfl
  rw [show (w.alloc (layC rz az W)).heap.size = w.heap.size + 1 by simp] at hO
  have HO := hidH (owns_below hO (bMore (Below.refl _ _) (layC rz az W)))
  clear hO
  obtain ⟨i0, hi0, hz0, hz1, hz2⟩ := info_parts infoInt
  unfold layV layC at *
  have c0 := (show LayAt _ w.heap.size rz az W from LA.out).cell0
  have c1 := (show LayAt _ w.heap.size rz az W from LA.out).cell1
  have c2 := (show LayAt _ w.heap.size rz az W from LA.out).cell2
  go_enter Try.func29, Try.ntmps29
  go_wp2_with fail
  refine (HL.out _).mono ?_; rintro e w1 ⟨rfl, rfl⟩
  go_wp2_with fail
  refine (sTableValid_any _ vs _ _ _ (HV.out.below BA.out)).mono ?_; rintro e w2 ⟨rfl, rfl⟩
  rw [HT.out]
  go_wp2_with fail
  refine (HPN.out _).mono ?_; rintro e w2 ⟨rfl, hb⟩
  have B2 := hidH (bThen BA.out hb)
  have HO2 := hidH (owns_below HO.out hb)
  have hL := (show LayAt _ w.heap.size rz az W from LA.out).below hb
  have HL2 := hidH hL
  clear hb c0 c1 c2 hL BA LA HO HPN
  go_wp2_with fail
  refine (HBT.out _).mono ?_; rintro e w3 ⟨rfl, rfl⟩
  go_wp2_with fail
  clear HBT HT hpa hpg
  go_loopw [7, 8] (fun o i wr => ∃ (c : Nat) (ov : Value), c ≤ an ∧ i = .int .i64 c ∧ ov = o ∧ wr.ownsRow (w.heap.size + 1) 3 1 ov c (ints (S.take c)) ∧ Below (w.heap.size + 1) w2 wr) (fun _ i _ => an - (intOf i).toNat)
  case atStart => exact ⟨0, _, Nat.zero_le _, rfl, rfl, HO2.out, Below.refl _ _⟩
  case round =>
    obtain ⟨c, ov, hk, rfl, rfl, hown, hb⟩ := hrel
    obtain ⟨wo, rfl⟩ : ∃ wo, wo = wr := ⟨wr, rfl⟩
    have HWn := hidH hown
    have HBq := hidH hb
    have hL := HL2.out.lowB hb (Nat.lt_succ_self _)
    have c0 := hL.cell0
    have c1 := hL.cell1
    have c2 := hL.cell2
    have hszq := hb.size
    have hszw := B2.out.size
    have hw2l := HL2.out.lt
    have HBw := hidH (B2.out.trans (hb.mono (Nat.le_succ _)))
    clear hown hb hL
    by_cases hlt : c < an
    · obtain ⟨G, hG, hG2, hGz⟩ := HG.out c hlt
      have HGe := hidH hG
      have HW3 := hidH (show wrap64 ((c : Int) * rz) = (G : Int) from (congrArg wrap64 hGz).trans (wrapNat G (Nat.le_trans hG2 (by decide))).1)
      have hca := (HCA.out c).1 hlt
      clear hG hGz
      go_wp2_with fail
      go_loopw [9, 10] (fun n i wx => ∃ (r : Nat) (ss : Int), r ≤ rn ∧ i = .int .i64 r ∧ n = .int .i64 ss ∧ ss = colTo E rn c r ∧ wx = wo) (fun _ i _ => rn - (intOf i).toNat)
      case atStart => exact ⟨0, 0, Nat.zero_le _, rfl, rfl, by unfold colTo; rw [List.take_zero]; rfl, rfl⟩
      case round =>
        obtain ⟨r, ss, hk2, rfl, rfl, hss, rfl⟩ := hrel
        have ⟨b1, b2⟩ := colTo_bd E rn c r hEb.out (by omega)
        rw [← hss] at b1 b2
        have HSS := hidH hss
        clear hss
        by_cases hltr : r < rn
        · have hra := (HRA.out r).1 hltr
          obtain ⟨K, hK, hKn⟩ : ∃ K : Nat, (F : Int) + (G : Int) + (r : Int) = (K : Int) ∧ K = F + (G + r) := ⟨F + (G + r), by omega, rfl⟩
          have hKm : K ≤ 1000 := by omega
          have hget := HAT.out c r hlt hltr
          rw [← HGe.out, ← hKn] at hget
          by_cases hin : K < vs.length
          · obtain ⟨z, hz⟩ := get_lt vs K hin
            have hcz := HCELL.out K z hz
            have hcw : wr.cell? ⟨b0, off0 + K, none⟩ = some (.int .i64 z) := by rw [HBw.out.cell (p := ⟨b0, off0 + K, none⟩) hbw0]; exact hcz
            rw [hz] at hget
            have HSt := hidH (colTo_step E rn c r z (by rw [← HGe.out]; exact hget))
            rw [← HSS.out] at HSt
            have ⟨z1, z2⟩ := hEb.out z (List.mem_of_getElem? hget)
            clear hz hcz hget hKn
            have hw1 := HW1.out
            have hw2 := HW2.out
            have hw3 := HW3.out
            go_wp2_with fail
            go_roundw
            case rel => exact ⟨r + 1, _, by omega, by go_num, rfl, by rw [HSt.out], by first | rfl | trivial⟩
            case measure => simp [intOf]; omega
          · have hge : E.length ≤ c * rn + r := HEND.out c r (by rw [← HGe.out, ← hKn]; omega)
            have HSt := hidH (colTo_stay E rn c r hge)
            rw [← HSS.out] at HSt
            clear hget hKn hge
            have hw1 := HW1.out
            have hw2 := HW2.out
            have hw3 := HW3.out
            go_wp2_with fail
            go_roundw
            case rel => exact ⟨r + 1, _, by omega, by go_num, rfl, by rw [HSt.out], by first | rfl | trivial⟩
            case measure => simp [intOf]; omega
        · obtain rfl : r = rn := by omega
          have hra := (HRA.out r).2 hltr
          have hgl : w.heap.size + 1 ≤ wr.heap.size := by omega
          have hgx := HGET.out c hlt
          rw [← HSS.out] at hgx
          have HX := hidH (ints_snoc _ c _ hgx)
          clear hgx
          go_wp2_with (at_builtin; refine wpList_append_own _ rfl _ _ 30 rfl (w.heap.size + 1) 3 i0 (.int .i64 0) 1 8 Try.underlying30 hi0 hz0 hz1 hz2 rfl (by decide) _ _ _ rfl (owns_below HWn.out ((Below.refl _ wr).alloc (Nat.le_refl _) _)) ⟨wr.heap.size, 0, none⟩ 1 1 [.int .i64 ss] rfl rfl (news_one wr _ _) (one_one _) (by unfold maxLen; omega) (by omega) (by simp; omega) ?_)
          intro v' w9 hown1 hgrow _
          have HR9 := hidH hown1
          have HG9 := hidH hgrow
          clear hown1 hgrow
          go_wp2_with fail
          go_roundw
          case rel =>
            refine ⟨c + 1, v', by omega, by go_num, rfl, ?_, ?_⟩
            · have h := HR9.out
              rw [HX.out] at h
              exact h
            · exact (HBq.out.alloc (by omega) _).grown HG9.out (by simp; omega) fun g hg => (HWn.out.lt g hg).1
          case measure => simp [intOf]; omega
    · obtain rfl : c = an := by omega
      have hca := (HCA.out c).2 hlt
      go_wp2_with fail
      go_ret
      have h := HWn.out
      rw [List.take_of_length_le (by rw [HLEN.out]; exact Nat.le_refl _)] at h
      rw [← HLEN.out] at h
      exact ⟨_, rfl, (row_of_owns h).1.mono (Nat.le_succ _) (Nat.le_refl _), HBw.out⟩
theorem sPageSums_any (R A W : Int) (v : Value) (vs : List Int) (page : Int) (w : World) (lo hi : Nat) (hv : Lies w lo hi v vs) : Calls Try.prog 29 #[layV R A W, v, .int .i64 page] w (NewRow (psA R A W vs page) w) := by
  unfold psA
  cases h : pgOk R A W vs page
  · exact sPageSums_no R A W v vs page w lo hi hv h
  · rw [if_pos rfl]
    obtain ⟨_, _, rn, an, pn, rfl, rfl, rfl, _⟩ := pgOk_parts R A W vs page h
    rw [Int.toNat_natCast, Int.toNat_natCast, Int.toNat_natCast]
    exact sPageSums_yes rn an pn W v vs w lo hi hv h
end Go.Proofs.Ytnndeiiolnefkaa
