/-
  The walk of a law of chains: carries of a sum follow each other as often as one more than the longest run of nines above a marked wheel. No conditions but that the bytes that came in can be read.
-/
import Derived.Test.YtckmnclpediliaaDoorKitE
import Derived.Test.YtckmnclpediliaaDoorRowI
import Derived.Test.YtckmnclpediliaaDoorSpecE
import Derived.Test.YtckmnclpediliaaDoorMathC
namespace Go.Proofs.YtckmnclpediliaaDoor
set_option maxRecDepth 4000
open Go.RowKit
/-- The wheels from a place upwards. -/
def topS (s : ByteArray) (k : Nat) : List Int := dg (s.data.toList.take k)
theorem topS_more (s : ByteArray) (k : Nat) (h : k < s.size) : topS s (k + 1) = ((s[k].toNat : Int) - 48) :: topS s k := by
  unfold topS
  rw [take_more s k h]
  simp [dg]
theorem topS_all (s : ByteArray) : topS s s.size = dgS s := by
  unfold topS dgS
  rw [List.take_of_length_le (by rw [size_len]; exact Nat.le_refl _)]
theorem topS_mem (s : ByteArray) (k : Nat) (h : k < s.size) : ((s[k].toNat : Int) - 48) ∈ dgS s := by
  unfold dgS dg
  exact List.mem_map.2 ⟨s[k], List.mem_reverse.2 (List.mem_of_getElem? (get_at s k h)), rfl⟩
theorem chain_more (C M : ByteArray) (k : Nat) (h1 : k < C.size) (h2 : k < M.size) : chainN (topS C (k + 1)) (topS M (k + 1)) = max (if (M[k].toNat : Int) - 48 = 1 then 1 + runN (topS C k) else 0) (chainN (topS C k) (topS M k)) := by
  rw [topS_more C k h1, topS_more M k h2]
  rfl
theorem run_more (C : ByteArray) (k : Nat) (h : k < C.size) : runN (topS C (k + 1)) = if (C[k].toNat : Int) - 48 = 9 then runN (topS C k) + 1 else 0 := by
  rw [topS_more C k h]
  rfl
theorem run_none (C : ByteArray) : runN (topS C 0) = 0 := by
  unfold topS
  simp [dg, runN]
theorem run_le (C : ByteArray) : ∀ k, k ≤ C.size → runN (topS C k) ≤ k := by
  intro k
  induction k with
  | zero => intro _; rw [run_none]; exact Nat.le_refl _
  | succ k ih =>
    intro h
    rw [run_more C k (by omega)]
    have := ih (by omega)
    split <;> omega
/-- What the functions of a pair answer, when chains are counted. -/
structure Chained (a b C M : ByteArray) (n : Nat) : Prop where
  turn : ∀ w, Calls Tryd.prog 7 #[.string a, .string b] w (Gives (.tuple #[.string C, .bool true]) w)
  warn : ∀ w, Calls Tryd.prog 8 #[.string a, .string b] w (Gives (.tuple #[.string M, .bool true]) w)
  times : ∀ w, Calls Tryd.prog 5 #[.string a, .string b] w (Gives (.int .i64 n) w)
  timesS : ∀ w, Calls Tryd.prog 6 #[.string a, .string b] w (Gives (.int .i64 n) w)
  long : n = chainN (topS C C.size) (topS M C.size)
  size : M.size = C.size
  most : C.size ≤ 12
  flag : ∀ k (h : k < M.size), (M[k].toNat : Int) = 48 ∨ (M[k].toNat : Int) = 49
theorem chained_of (a b : ByteArray) (h : pair a b = true) : ∃ (C M : ByteArray) (n : Nat), Chained a b C M n := by
  obtain ⟨ha, hb, hab⟩ := (pair_iff a b).1 h
  have ⟨_, g1, g2⟩ := (ok_iff a).1 ha
  have ⟨da, la⟩ := dgS_facts a ha
  have ⟨db, lb⟩ := dgS_facts b hb
  obtain ⟨hf, s1, s2, d1, d2⟩ := turned_flags a b h
  have tl : (turnD (dgS a) (dgS b)).length = a.size := by rw [turnD_length _ _ (by omega), la]
  have pl : (passD (dgS a) (dgS b)).length = a.size := by rw [passD_length _ _ (by omega), la]
  have pf := passD_flags _ _ da db
  refine ⟨txtS (turnD (dgS a) (dgS b)), txtS (passD (dgS a) (dgS b)), (allD a.size (turnD (dgS a) (dgS b)) (passD (dgS a) (dgS b))).2, ⟨fun w => turnW_yes a b w (by omega) (by omega) h, fun w => warnW_yes a b w (by omega) (by omega) h, fun w => timesC_yes a b w (by omega) (by omega) h, fun w => sTimes_yes a b (by omega) (by omega) w h, ?_, by omega, by omega, ?_⟩⟩
  · have e2 := topS_all (txtS (passD (dgS a) (dgS b)))
    rw [s2, d2] at e2
    rw [topS_all, d1, s1, e2]
    exact allD_chain a.size a.size 0 _ _ tl pl (turnD_digs _ _) pf (never_turn _ _ da db) (fun j d h => by omega) (by omega)
  · intro k hk
    have hm := topS_mem _ k hk
    rw [d2] at hm
    have ⟨f0, f1⟩ := pf _ hm
    omega
set_option maxHeartbeats 1600000 in
theorem lawCarryChain (a : Option Addr) (len cap : Nat) (w : World) (hc : Came w a len cap) : Calls Tryd.prog 3 #[.slice a len cap] w (Gives (.bool true) w) := by
  obtain ⟨hcap, hcap2, hb, hnil⟩ := hc
  unfold maxLen at hcap2
  by_cases hbig : 1048576 < len
  · clear hb hnil
    go_enter Tryd.func3, Tryd.ntmps3
    go_wp2
    go_ret
    exact ⟨rfl, Below.refl _ _⟩
  · have HD := hidH (drawCarryTimes_any a len cap w (by omega) hcap hcap2 hb hnil)
    clear hb hnil
    go_enter Tryd.func3, Tryd.ntmps3
    go_wp2_with fail
    refine HD.out.mono ?_
    rintro e w1 ⟨s, t, hs, ht, rfl, hB⟩
    have B1 := hidH hB
    clear hB HD
    cases hk : pair s t
    · have HC := hidH fun w => timesC_no s t w (by omega) (by omega) hk
      have HS := hidH fun w => sTimes_no s t (by omega) (by omega) w hk
      clear hk
      go_wp2_with fail
      refine (HC.out _).mono ?_; rintro e w2 ⟨rfl, hB⟩
      have B2 := hidH (B1.out.trans (hB.mono B1.out.size))
      clear hB B1
      go_wp2_with fail
      refine (HS.out _).mono ?_; rintro e w3 ⟨rfl, hB⟩
      have B3 := hidH (B2.out.trans (hB.mono B2.out.size))
      clear hB B2
      go_wp2_with fail
      refine (HS.out _).mono ?_; rintro e w4 ⟨rfl, hB⟩
      have B4 := hidH (B3.out.trans (hB.mono B3.out.size))
      clear hB B3
      go_wp2
      go_ret
      exact ⟨rfl, B4.out⟩
    · obtain ⟨C, M, n, HT⟩ := chained_of s t hk
      have H1 := hidH HT.times
      have H2 := hidH HT.timesS
      have H3 := hidH HT.turn
      have H4 := hidH HT.warn
      have HL := hidH HT.long
      have HF := hidH HT.flag
      have HM := hidH HT.size
      have h12 := HT.most
      have HG := hidH (fun k h1 h2 => chain_more C M k h1 h2)
      have HR := hidH (run_more C)
      have HRl := hidH (run_le C)
      have HR0 := hidH (run_none C)
      clear HT hk
      go_wp2_with fail
      refine (H1.out _).mono ?_; rintro e w2 ⟨rfl, hB⟩
      have B2 := hidH (B1.out.trans (hB.mono B1.out.size))
      clear hB B1
      go_wp2_with fail
      refine (H2.out _).mono ?_; rintro e w3 ⟨rfl, hB⟩
      have B3 := hidH (B2.out.trans (hB.mono B2.out.size))
      clear hB B2
      go_wp2_with fail
      refine (H3.out _).mono ?_; rintro e w4 ⟨rfl, hB⟩
      have B4 := hidH (B3.out.trans (hB.mono B3.out.size))
      clear hB B3
      go_wp2_with fail
      refine (H4.out _).mono ?_; rintro e w5 ⟨rfl, hB⟩
      have B5 := hidH (B4.out.trans (hB.mono B4.out.size))
      clear hB B4
      go_wp2
      go_loopw [10, 11] (fun x y wr => ∃ (i g : Nat), i ≤ C.size ∧ x = .int .i64 g ∧ y = .int .i64 i ∧ g = chainN (topS C i) (topS M i) ∧ Below w.heap.size w wr) (fun _ y _ => C.size - (intOf y).toNat)
      case atStart => exact ⟨0, 0, Nat.zero_le _, rfl, rfl, by unfold topS; simp [dg, chainN], B5.out⟩
      case round =>
        obtain ⟨i, g, hi, rfl, rfl, hg, hB⟩ := hrel
        have B6 := hidH hB
        have GG := hidH hg
        clear hB B5 hg
        by_cases hlt : i < C.size
        · obtain ⟨wo, rfl⟩ : ∃ wo, wo = wr := ⟨wr, rfl⟩
          have h2 : i < M.size := by rw [HM.out]; exact hlt
          have hstep := hidH (HG.out i hlt h2)
          rcases HF.out i h2 with hm | hm
          · have m1 : ((M[i].toNat : Int) == 48) = true := beq_iff_eq.2 hm
            have hs2 : Hid (chainN (topS C (i + 1)) (topS M (i + 1)) = g) := hidH (by
              rw [hstep.out, if_neg (by omega), ← GG.out]
              exact Nat.max_eq_right (Nat.zero_le _))
            clear hstep hm
            go_wp2
            go_roundw
            case rel => exact ⟨i + 1, g, by omega, rfl, by go_num, hs2.out.symm, B6.out⟩
            case measure => simp [intOf]; omega
          · have m1 : ((M[i].toNat : Int) == 48) = false := beq_eq_false_iff_ne.2 (by omega)
            obtain ⟨r, hr⟩ : ∃ r, r = runN (topS C i) := ⟨_, rfl⟩
            have hri : r ≤ i := by rw [hr]; exact HRl.out i (by omega)
            have hs2 : Hid (chainN (topS C (i + 1)) (topS M (i + 1)) = max (1 + r) g) := hidH (by
              rw [hstep.out, if_pos (by omega), ← GG.out, ← hr])
            have RR := hidH hr
            clear hstep hm hr
            go_wp2
            go_loopw [12, 13] (fun x y wr => ∃ u : Nat, u ≤ i ∧ x = .int .i64 (1 + (i : Int) - u) ∧ y = .int .i64 ((u : Int) - 1) ∧ Hid (r = i - u + runN (topS C u)) ∧ wr = wo) (fun _ y _ => (intOf y + 1).toNat)
            case atStart => exact ⟨i, Nat.le_refl _, by go_num, by go_num, hidH (by rw [RR.out]; omega), rfl⟩
            case round =>
              obtain ⟨u, hu, rfl, rfl, hru, hww⟩ := hrel
              subst hww
              rcases u with _ | q
              · have hk2 : 1 + (i : Int) - ((0 : Nat) : Int) = ((1 + r : Nat) : Int) := by
                  have hr2 := hru.out
                  rw [HR0.out] at hr2
                  omega
                have hj2 : ((0 : Nat) : Int) - 1 = -1 := rfl
                rw [hk2, hj2]
                clear hru hk2 hj2
                by_cases hmx : g < 1 + r
                · have hs3 : Hid (chainN (topS C (i + 1)) (topS M (i + 1)) = 1 + r) := hidH (by rw [hs2.out]; omega)
                  go_wp2
                  go_roundw
                  case rel => exact ⟨i + 1, 1 + r, by omega, by rw [show max (g : Int) (1 + (r : Int)) = ((1 + r : Nat) : Int) by omega], by go_num, hs3.out.symm, B6.out⟩
                  case measure => simp [intOf]; omega
                · have hs3 : Hid (chainN (topS C (i + 1)) (topS M (i + 1)) = g) := hidH (by rw [hs2.out]; omega)
                  go_wp2
                  go_roundw
                  case rel => exact ⟨i + 1, g, by omega, by rw [show max (g : Int) (1 + (r : Int)) = (g : Int) by omega], by go_num, hs3.out.symm, B6.out⟩
                  case measure => simp [intOf]; omega
              · have hq : q < C.size := by omega
                have hj2 : ((q + 1 : Nat) : Int) - 1 = (q : Int) := by omega
                have hrq := HR.out q hq
                by_cases h9 : (C[q].toNat : Int) = 57
                · have c9 : ((C[q].toNat : Int) == 57) = true := beq_iff_eq.2 h9
                  rw [if_pos (by omega)] at hrq
                  have hrn : Hid (r = i - q + runN (topS C q)) := hidH (by have := hru.out; omega)
                  have hk2 : 1 + (i : Int) - ((q + 1 : Nat) : Int) = (i : Int) - q := by omega
                  rw [hk2, hj2]
                  clear hru hrq h9 hk2 hj2
                  go_wp2
                  go_roundw
                  case rel => exact ⟨q, by omega, by go_num, by go_num, hrn, by first | rfl | trivial⟩
                  case measure => simp [intOf]
                · have c9 : ((C[q].toNat : Int) == 57) = false := beq_eq_false_iff_ne.2 h9
                  rw [if_neg (by omega)] at hrq
                  have hk2 : 1 + (i : Int) - ((q + 1 : Nat) : Int) = ((1 + r : Nat) : Int) := by
                    have hr2 := hru.out
                    rw [hrq] at hr2
                    omega
                  rw [hk2, hj2]
                  clear hru hrq h9 hk2 hj2
                  by_cases hmx : g < 1 + r
                  · have hs3 : Hid (chainN (topS C (i + 1)) (topS M (i + 1)) = 1 + r) := hidH (by rw [hs2.out]; omega)
                    go_wp2
                    go_roundw
                    case rel => exact ⟨i + 1, 1 + r, by omega, by rw [show max (g : Int) (1 + (r : Int)) = ((1 + r : Nat) : Int) by omega], by go_num, hs3.out.symm, B6.out⟩
                    case measure => simp [intOf]; omega
                  · have hs3 : Hid (chainN (topS C (i + 1)) (topS M (i + 1)) = g) := hidH (by rw [hs2.out]; omega)
                    go_wp2
                    go_roundw
                    case rel => exact ⟨i + 1, g, by omega, by rw [show max (g : Int) (1 + (r : Int)) = (g : Int) by omega], by go_num, hs3.out.symm, B6.out⟩
                    case measure => simp [intOf]; omega
        · obtain rfl : i = C.size := by omega
          have hgn : n = g := by rw [HL.out, GG.out]
          clear GG
          subst hgn
          go_wp2
          go_ret
          refine ⟨?_, B6.out⟩
          first | rfl | simp
end Go.Proofs.YtckmnclpediliaaDoor
