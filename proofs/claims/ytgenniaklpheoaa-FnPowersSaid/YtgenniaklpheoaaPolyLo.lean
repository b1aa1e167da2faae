/-
  The walk of a law: a polynomial of powers has the values that the powers give, and its powers are those, times the common number. No conditions but that the bytes that came in can be read.
-/
import Derived.Test.YtgenniaklpheoaaPolyLn
namespace Go.Proofs.Ytgenniaklpheoaa
open Go.RowKit
theorem pw_bd (n : Int) (hn : n.natAbs ≤ 6) (c : List Int) (hc : ∀ x ∈ c, x.natAbs ≤ 100000) : (pw n c).natAbs ≤ 100000 * 7 ^ c.length := by
  induction c with
  | nil => simp [pw]
  | cons x c ih =>
    have h1 := ih (fun y hy => hc y (List.mem_cons_of_mem _ hy))
    have h2 := hc x List.mem_cons_self
    have h3 := abs_mul_le h1 hn
    have h4 : 1 ≤ 7 ^ c.length := Nat.one_le_pow _ _ (by decide)
    rw [pw, List.length_cons, Nat.pow_succ]
    omega
theorem from_newt (c : List Int) (hs : Small c) : fromL c = newt c.length (fun n => pw n c) := by
  have h7 := hs.1
  have hp : 7 ^ c.length ≤ 7 ^ 7 := Nat.pow_le_pow_right (by decide) h7
  have hb : ∀ i : Nat, i < c.length → (pw i c).natAbs ≤ 100000 * 7 ^ 7 := fun i hi => by
    have := pw_bd i (by omega) c (fun x hx => by have := hs.2 x hx; omega)
    omega
  have e : powV c c.length = valsF (fun n => pw n c) 0 c.length := by
    unfold powV valsF
    refine List.map_congr_left fun i hi => ?_
    have hi := List.mem_range.1 hi
    have := hb i hi
    rw [pwW_wrap, Int.zero_add]
    exact wrap64_id _ (by omega) (by omega)
  rw [fromL, e]
  refine lead_newt c.length _ (100000 * 7 ^ 7) hb ?_
  have : 2 ^ c.length ≤ 2 ^ 7 := Nat.pow_le_pow_right (by decide) h7
  omega
theorem from_ev (c : List Int) (hs : Small c) (n : Int) : evP (fromL c) n = pw n c := by
  rw [from_newt c hs]
  exact newt_eq _ _ (top_pw c) n
theorem fromL_length (c : List Int) : (fromL c).length = c.length := leadW_length _ _
theorem from_back (c : List Int) (hs : Small c) : powL (fromL c) = c.map (720 * ·) := by
  refine pw_inj (by rw [powL_length, fromL_length, List.length_map]) fun n => ?_
  rw [pw_powL _ (by rw [fromL_length]; exact hs.1), from_ev c hs, pw_scale]
theorem from_ways (zs : List Int) : (fromB zs = true ∧ polyOk zs = true ∧ polyOk (fromL zs) = true ∧ fromA zs = fromL zs) ∨ fromB zs = false := by
  unfold fromB fromA
  cases h : polyOk zs
  · exact .inr rfl
  · cases h2 : polyOk (fromL zs)
    · exact .inr rfl
    · exact .inl ⟨rfl, rfl, rfl, by rw [if_pos rfl, resL, h2]; rfl⟩
theorem from_value (zs : List Int) (n : Int) (hz : polyOk zs = true) (hp : polyOk (fromL zs) = true) (h1 : -200 ≤ n) (h2 : n ≤ 200) : pwW n zs = evA (fromL zs) n := by
  rw [pwW_wrap, ← from_ev zs (polyOk_small _ hz).2, ← evA_ok _ _ hp h1 h2, ← wrap_i]
  have := evA_bd (fromL zs) n
  exact IntWalk.i64_in _ (by omega)
set_option maxHeartbeats 2000000 in
theorem lawPowers (a : Option Addr) (len cap : Nat) (w : World) (hc : Came w a len cap) : Calls Try.prog 6 #[.slice a len cap] w (Gives (.bool true) w) := by
  have hcap := hc.lenLe
  have hcap2 := hc.capLe
  unfold maxLen at hcap2
  by_cases hbig : 1048576 < len
  · clear hc
    go_enter Try.func6, Try.ntmps6
    go_wp2
    go_ret
    exact ⟨rfl, Below.refl _ _⟩
  · have HD := hidH (drawFromPowers a len cap w hc (by omega))
    clear hc
    go_enter Try.func6, Try.ntmps6
    go_wp2_with fail
    refine HD.out.mono ?_
    rintro e w1 ⟨v, zs, rfl, hrow, h8, hB⟩
    have LP := hidH hrow.lies
    have B1 := hidH hB
    clear hrow hB HD
    go_wp2_with fail
    refine (fromP_any v zs w1 _ _ LP.out).mono ?_; rintro e w2 ⟨q, rfl, hq, hb⟩
    have LP2 := hidH (LP.out.below hb)
    have RS2 := hidH hq
    have B2 := hidH (B1.out.trans (hb.mono B1.out.size))
    clear hb hq LP B1
    go_wp2_with fail
    refine (sFromP_any v zs w2 _ _ LP2.out).mono ?_; rintro e w3 ⟨u, rfl, hu, hb⟩
    have LP3 := hidH (LP2.out.below hb)
    have RS3 := hidH (RS2.out.below hb)
    have RU3 := hidH hu
    have B3 := hidH (B2.out.trans (hb.mono B2.out.size))
    clear hb hu LP2 RS2 B2
    rcases from_ways zs with ⟨he, hz, hp, hsa⟩ | he
    · rw [he]
      rw [hsa] at RS3 RU3
      clear he hsa
      have ⟨k1, hs⟩ := polyOk_small _ hz
      have k7 := hs.1
      have HPV := hidH fun (n : Int) => from_value zs n hz hp
      have HPA := hidH (show powA (fromL zs) = zs.map (720 * ·) by rw [powA, hp, if_pos rfl, from_back zs hs])
      have HSM := hidH hs.2
      clear hz hp hs
      generalize fromL zs = P at *
      obtain ⟨b1, off1, cp1, rfl, hlc1, hcm1, _, _, hbw1, hcell1⟩ := LP3.out.addr (by omega)
      unfold maxLen at hcm1
      have HCE := hidH hcell1
      clear hcell1
      have hl0 : ((zs.length : Int) == 0) = false := beq_eq_false_iff_ne.2 (by omega)
      go_wp2_with fail
      refine (deInts_yes q u P w3 _ _ _ _ RS3.out.lies RU3.out.lies).mono ?_; rintro e w4 ⟨rfl, hb⟩
      have HB4 := hidH hb
      have HE := hidH fun (W : World) (j : Int) (hb : Below w3.heap.size w3 W) => (at_any _ P j W _ _ (RS3.out.below hb).lies).mono fun e w' (h : Gives _ W e w') => (⟨h.1, hb.trans (h.2.mono hb.size)⟩ : e = .returned (.int .i64 (evA P j)) ∧ Below w3.heap.size w3 w')
      clear hb
      go_wp2_with fail
      go_loopw [8] (fun i wr => ∃ n : Int, -6 ≤ n ∧ n ≤ 7 ∧ i = .int .i64 n ∧ Below w3.heap.size w3 wr) (fun i _ => (7 - intOf i).toNat)
      case atStart => exact ⟨-6, by omega, by omega, rfl, HB4.out⟩
      case round =>
        obtain ⟨n, hn, hk, rfl, hb⟩ := hrel
        have HBq := hidH hb
        clear hb
        by_cases hlt : n < 7
        · obtain ⟨wo, rfl⟩ : ∃ wo, wo = wr := ⟨wr, rfl⟩
          have hcw : ∀ (j : Nat) z, zs[j]? = some z → wo.cell? ⟨b1, off1 + j, none⟩ = some (.int .i64 z) := fun j z hz => by rw [HBq.out.cell (p := ⟨b1, off1 + j, none⟩) hbw1]; exact HCE.out j z hz
          have HCW := hidH hcw
          clear hcw
          go_wp2_with fail
          go_loopw [9, 10] (fun o i wr => ∃ j : Nat, j ≤ zs.length ∧ i = .int .i64 ((j : Int) - 1) ∧ o = .int .i64 (pwW n (zs.drop j)) ∧ wr = wo) (fun _ i _ => (intOf i + 1).toNat)
          case atStart => exact ⟨zs.length, Nat.le_refl _, rfl, by rw [List.drop_length]; rfl, rfl⟩
          case round =>
            obtain ⟨j, hj, rfl, rfl, hww⟩ := hrel
            subst hww
            by_cases hj0 : 0 < j
            · obtain ⟨i, rfl⟩ : ∃ i, j = i + 1 := ⟨j - 1, by omega⟩
              obtain ⟨z, hz⟩ := get_lt zs i (by omega)
              have hcz := HCW.out i z hz
              have HPW := hidH (pwW_drop n zs i z hz)
              have hji : ((i + 1 : Nat) : Int) - 1 = (i : Int) := by omega
              rw [hji]
              generalize hy : pwW n (zs.drop (i + 1)) = y
              have HY := hidH hy
              clear hz hy
              go_wp2_with fail
              go_roundw
              case rel => exact ⟨i, by omega, rfl, by rw [HPW.out, HY.out], by first | rfl | trivial⟩
              case measure => simp [intOf]
            · obtain rfl : j = 0 := by omega
              have hpv := HPV.out n (by omega) (by omega)
              rw [List.drop_zero]
              generalize hy : pwW n zs = y at hpv ⊢
              have HPVY := hidH hpv
              clear hpv hy
              go_wp2_with fail
              refine (HE.out _ n HBq.out).mono ?_; rintro e w5 ⟨rfl, hb⟩
              have HB5 := hidH hb
              rw [← HPVY.out]
              clear hb
              go_wp2_with fail
              go_roundw
              case rel => exact ⟨n + 1, by omega, by omega, rfl, HB5.out⟩
              case measure => simp [intOf]; omega
        · obtain rfl : n = 7 := by omega
          go_wp2_with fail
          refine (pow_any q P wr _ _ (RS3.out.below HBq.out).lies).mono ?_; rintro e w5 ⟨bk, rfl, hr, hb⟩
          rw [HPA.out] at hr
          have RB5 := hidH hr
          have HB5 := hidH (HBq.out.trans (hb.mono HBq.out.size))
          clear hb hr
          have hlm : (zs.map (720 * ·)).length = zs.length := List.length_map ..
          obtain ⟨b2, cp2, rfl, hlc2, hcm2, _, _, hblk2⟩ := RB5.out.blk (by omega)
          unfold maxLen at hcm2
          rw [hlm] at hlc2 ⊢
          have HBL := hidH hblk2
          clear hblk2 hlm
          go_wp2_with fail
          go_loopw [12] (fun i wr => ∃ j : Nat, j ≤ zs.length ∧ i = .int .i64 j ∧ Below w5.heap.size w5 wr) (fun i _ => zs.length - (intOf i).toNat)
          case atStart => exact ⟨0, Nat.zero_le _, rfl, Below.refl _ _⟩
          case round =>
            obtain ⟨j, hj, rfl, hb6⟩ := hrel
            have HB6 := hidH hb6
            have HB7 := hidH (HB5.out.trans (hb6.mono HB5.out.size))
            clear hb6
            by_cases hjl : j < zs.length
            · obtain ⟨z, hz⟩ := get_lt zs j hjl
              have hcz : wr.cell? ⟨b1, off1 + j, none⟩ = some (.int .i64 z) := by rw [HB7.out.cell (p := ⟨b1, off1 + j, none⟩) hbw1]; exact HCE.out j z hz
              have hcb := ((HBL.out.below HB6.out).2 j (720 * z) (by rw [List.getElem?_map, hz]; rfl)).1
              have hzb := HSM.out z (List.mem_of_getElem? hz)
              have v1 : IntKind.i64.wrap (720 * z) = 720 * z := IntWalk.i64_in _ (by omega)
              clear hz
              go_wp2_with fail
              go_quiet (fail)
              go_wp2_with fail
              go_roundw
              case rel => exact ⟨j + 1, by omega, by go_num, below_drewN HB6.out _⟩
              case measure => simp [intOf]; omega
            · obtain rfl : j = zs.length := by omega
              go_wp2_with fail
              go_ret
              exact ⟨rfl, B3.out.trans (HB7.out.mono B3.out.size)⟩
    · rw [he]
      clear he
      generalize fromA zs = L at *
      go_wp2_with fail
      refine (deInts_yes q u L w3 _ _ _ _ RS3.out.lies RU3.out.lies).mono ?_; rintro e w4 ⟨rfl, hb⟩
      have HB4 := hidH hb
      clear hb
      go_wp2_with fail
      refine (deInts_yes q u L w4 _ _ _ _ (RS3.out.below HB4.out).lies (RU3.out.below HB4.out).lies).mono ?_; rintro e w5 ⟨rfl, hb⟩
      have HB5 := hidH (HB4.out.trans (hb.mono HB4.out.size))
      clear hb
      go_wp2_with fail
      go_ret
      exact ⟨rfl, B3.out.trans (HB5.out.mono B3.out.size)⟩
end Go.Proofs.Ytgenniaklpheoaa
