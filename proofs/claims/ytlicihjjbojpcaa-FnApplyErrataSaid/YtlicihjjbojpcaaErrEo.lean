/-
  The walk of a law: errata change exactly the entries that they name. No conditions but that the bytes that came in can be read.
-/
import Derived.Test.YtlicihjjbojpcaaErrEn
import Derived.Test.YtlicihjjbojpcaaDeFns
import Derived.Test.YtlicihjjbojpcaaPolyLf
namespace Go.Proofs.Ytlicihjjbojpcaa
set_option maxRecDepth 4000
open Go.RowKit
set_option maxHeartbeats 2000000 in
theorem lawApplyErrata (a : Option Addr) (len cap : Nat) (w : World) (hc : Came w a len cap) : Calls Try.prog 7 #[.slice a len cap] w (Gives (.bool true) w) := by
  have hcap := hc.lenLe
  have hcap2 := hc.capLe
  unfold maxLen at hcap2
  by_cases hbig : 1048576 < len
  · clear hc
    go_enter Try.func7, Try.ntmps7
    go_wp2
    go_ret
    exact ⟨rfl, Below.refl _ _⟩
  · have HD := hidH (drawApplyErrata a len cap w hc (by omega))
    clear hc
    go_enter Try.func7, Try.ntmps7
    go_wp2_with fail
    refine HD.out.mono ?_
    rintro e w1 ⟨v, ys, u, n, F, rfl, hv, hu, h61, hn61, hB⟩
    have V_1 := hidH hv
    have U_1 := hidH hu
    have B1 := hidH hB
    have C1 := hidH (Below.refl w1.heap.size w1)
    obtain ⟨av, cv, rfl, hlv, hcv, _, hcellv⟩ := hv
    obtain ⟨au, cu, rfl, hlu, hcu⟩ := lies3_len hu
    unfold maxLen at hcv hcu
    clear hB HD hcellv hu
    go_wp2_with fail
    refine (applyE_any (.slice av ys.length cv) ys (.slice au n cu) n F w1 _ _ _ _ V_1.out U_1.out (by omega)).mono ?_; rintro e w2 ⟨x, rfl, hr, hb⟩
    have B2 := hidH (B1.out.trans (hb.mono B1.out.size))
    have C2 := hidH (C1.out.trans (hb.mono C1.out.size))
    have V_2 := hidH (V_1.out.below hb)
    have U_2 := hidH (U_1.out.below hb)
    have X_2 := hidH hr
    clear hb hr B1 C1 V_1 U_1
    go_wp2_with fail
    refine (sApplyE_any (.slice av ys.length cv) ys (.slice au n cu) n F w2 _ _ _ _ V_2.out U_2.out (by omega)).mono ?_; rintro e w3 ⟨s, rfl, hr, hb⟩
    have B3 := hidH (B2.out.trans (hb.mono B2.out.size))
    have C3 := hidH (C2.out.trans (hb.mono C2.out.size))
    have V_3 := hidH (V_2.out.below hb)
    have U_3 := hidH (U_2.out.below hb)
    have X_3 := hidH (X_2.out.below hb)
    have S_3 := hidH hr
    clear hb hr B2 C2 V_2 U_2 X_2
    go_wp2_with fail
    refine (deInts_yes x s (applyA ys F n) _ _ _ _ _ X_3.out.lies S_3.out.lies).mono ?_; rintro e w4 ⟨rfl, hb⟩
    have B4 := hidH (B3.out.trans (hb.mono B3.out.size))
    have C4 := hidH (C3.out.trans (hb.mono C3.out.size))
    have V_4 := hidH (V_3.out.below hb)
    have U_4 := hidH (U_3.out.below hb)
    have X_4 := hidH (X_3.out.below hb)
    have S_4 := hidH (S_3.out.below hb)
    clear hb B3 C3 V_3 U_3 X_3 S_3
    cases hp : applyB ys F n
    · go_wp2_with fail
      refine (deInts_yes x s (applyA ys F n) _ _ _ _ _ X_4.out.lies S_4.out.lies).mono ?_; rintro e w5 ⟨rfl, hb⟩
      have B5 := hidH (B4.out.trans (hb.mono B4.out.size))
      have C5 := hidH (C4.out.trans (hb.mono C4.out.size))
      have V_5 := hidH (V_4.out.below hb)
      have U_5 := hidH (U_4.out.below hb)
      have X_5 := hidH (X_4.out.below hb)
      have S_5 := hidH (S_4.out.below hb)
      clear hb B4 C4 V_4 U_4 X_4 S_4
      go_wp2_with fail
      go_ret
      exact ⟨rfl, B5.out⟩
    · obtain ⟨hA, hy1, hxl, m1, m2, m3, m4⟩ := app_facts ys F n hp
      clear hp S_4
      rw [hA] at X_4
      clear hA
      generalize appL ys F n = xs at *
      have M1 := hidH m1
      have M2 := hidH m2
      have M3 := hidH m3
      have M4 := hidH m4
      obtain ⟨xb, xo, xc, ex, hxc, hxm, _, _, hxw, hxcell⟩ := X_4.out.lies.addr (by omega)
      rw [hxl] at ex
      subst ex
      obtain ⟨yb, yo, yc, ey, _, _, _, _, hyw, hycell⟩ := V_4.out.addr (by omega)
      injection ey with e1 e2 e3
      subst e1
      have XC := hidH hxcell
      have YC := hidH hycell
      have HXL := hidH hxl
      unfold maxLen at hxm
      clear hxcell hycell m1 m2 m3 m4 e2 e3 hxl
      go_wp2_with fail
      go_loopw [9, 10] (fun kv iv wr => ∃ k i : Nat, k ≤ n ∧ i ≤ ys.length ∧ kv = .int .i64 k ∧ iv = .int .i64 i ∧ eLeast F k ≤ (i : Int) ∧ (k < n → (i : Int) ≤ eAt F k) ∧ Below w4.heap.size w4 wr) (fun _ iv _ => ys.length - (intOf iv).toNat)
      case atStart => exact ⟨0, 0, Nat.zero_le _, Nat.zero_le _, rfl, rfl, Int.le_refl _, fun h => (M3.out 0 h).1, Below.refl _ _⟩
      case round =>
        obtain ⟨k, i, hk, hi, rfl, rfl, hle, hla, hb⟩ := hrel
        have HB := hidH hb
        have HLE := hidH hle
        have HLA := hidH hla
        clear hb hle hla
        by_cases hlt : i < ys.length
        · obtain ⟨p, hp⟩ := get_lt xs i (by have := HXL.out; omega)
          obtain ⟨q, hq⟩ := get_lt ys i hlt
          have hcx : wr.cell? ⟨xb, xo + i, none⟩ = some (.int .i64 p) := by rw [HB.out.cell (p := ⟨xb, xo + i, none⟩) hxw]; exact XC.out i p hp
          have hcy : wr.cell? ⟨yb, yo + i, none⟩ = some (.int .i64 q) := by rw [HB.out.cell (p := ⟨yb, yo + i, none⟩) hyw]; exact YC.out i q hq
          by_cases hkn : k < n
          · obtain ⟨b1, off1, cc1, e, _, _, hbw1, hcl⟩ := lies3_cells U_4.out (by omega)
            injection e with e1 e2 e3
            subst e1
            obtain ⟨q0, q1, q2⟩ := hcl k hkn
            have hcA : wr.cell? ⟨b1, off1 + k * 3, none⟩ = some (.int .i64 (eAt F k)) := by rw [HB.out.cell (p := ⟨b1, off1 + k * 3, none⟩) hbw1]; exact q0
            have hcW : wr.cell? ⟨b1, off1 + k * 3 + 1, none⟩ = some (.int .i64 (eWr F k)) := by rw [HB.out.cell (p := ⟨b1, off1 + k * 3 + 1, none⟩) hbw1]; exact q1
            have hcR : wr.cell? ⟨b1, off1 + k * 3 + 2, none⟩ = some (.int .i64 (eRi F k)) := by rw [HB.out.cell (p := ⟨b1, off1 + k * 3 + 2, none⟩) hbw1]; exact q2
            clear q0 q1 q2 hcl e2 e3
            by_cases hc : eAt F k = (i : Int)
            · obtain ⟨f1, f2⟩ := M1.out k hkn i hc
              rw [hp] at f1
              rw [hq] at f2
              injection f1 with f1
              injection f2 with f2
              rw [hc] at hcA
              rw [← f1] at hcR
              rw [← f2] at hcW
              have HC := hidH hc
              have HN := hidH (show eLeast F (k + 1) = eAt F k + 1 from rfl)
              have H3 := hidH (fun h => (M3.out (k + 1) h).1)
              have hbp : (p != p) = false := bne_self_eq_false _
              have hbq : (q != q) = false := bne_self_eq_false _
              clear hc f1 f2 hp hq
              go_wp2_with fail
              go_quiet (fail)
              go_wp2_with fail
              go_roundw
              case rel => exact ⟨k + 1, i + 1, by omega, by omega, by go_num, by go_num, by have := HN.out; have := HC.out; omega, fun h => by have := H3.out h; have := HN.out; have := HC.out; omega, below_drewN HB.out _⟩
              case measure => simp [intOf]; omega
            · have hlt2 : (i : Int) < eAt F k := by have := HLA.out hkn; omega
              have heq := M2.out k hk i HLE.out (fun _ => hlt2)
              rw [hp, hq] at heq
              injection heq with heq
              subst heq
              have HL2 := hidH hlt2
              have hbe : (eAt F k == (i : Int)) = false := beq_eq_false_iff_ne.2 hc
              have hbp : (p != p) = false := bne_self_eq_false _
              clear hc hp hq hlt2 hcW hcR
              obtain ⟨at0, hat⟩ : ∃ q, eAt F k = q := ⟨_, rfl⟩
              rw [hat] at hcA hbe
              clear hat
              go_wp2_with fail
              go_quiet (fail)
              go_wp2_with fail
              go_roundw
              case rel => exact ⟨k, i + 1, by omega, by omega, rfl, by go_num, by have := HLE.out; omega, fun h => by have := HL2.out; omega, below_drewN HB.out _⟩
              case measure => simp [intOf]; omega
          · obtain rfl : k = n := by omega
            have heq := M2.out k hk i HLE.out (fun h => absurd h hkn)
            rw [hp, hq] at heq
            injection heq with heq
            subst heq
            have hbp : (p != p) = false := bne_self_eq_false _
            clear hp hq
            go_wp2_with fail
            go_quiet (fail)
            go_wp2_with fail
            go_roundw
            case rel => exact ⟨k, i + 1, by omega, by omega, rfl, by go_num, by have := HLE.out; omega, fun h => absurd h hkn, below_drewN HB.out _⟩
            case measure => simp [intOf]; omega
        · obtain rfl : k = n := by
            by_cases h : k < n
            · have h1 := HLA.out h
              have h2 := (M3.out k h).2
              omega
            · omega
          go_wp2_with fail
          go_ret
          exact ⟨rfl, B4.out.trans (HB.out.mono B4.out.size)⟩
end Go.Proofs.Ytlicihjjbojpcaa
