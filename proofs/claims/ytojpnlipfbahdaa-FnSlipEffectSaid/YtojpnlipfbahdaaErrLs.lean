/-
  The walk of a law: the differences of the effect of a slip, taken one time more than its column tells, leave only the amount. No conditions but that the bytes that came in can be read.
-/
import Derived.Test.YtojpnlipfbahdaaErrKa
import Derived.Test.YtojpnlipfbahdaaErrD
import Derived.Test.YtojpnlipfbahdaaDeFns
import Derived.Test.YtojpnlipfbahdaaPolyT
import Derived.Laws.AppendOwnNone
namespace Go.Proofs.Ytojpnlipfbahdaa
set_option maxRecDepth 4000
open Go.RowKit
/-- The effect after k differences. -/
def effK (c t : Nat) (a : Int) (k n : Nat) : Int := if k ≤ c then effN (c - k) (t + k) a n else if n = t + c then a else 0
/-- The number before, 0 ahead of the first one. -/
def prevK (f : Nat → Int) : Nat → Int | 0 => 0 | n + 1 => f n
theorem effK_next (c t : Nat) (a : Int) (k n : Nat) (hk : k ≤ c) : effK c t a (k + 1) n = effK c t a k n - prevK (effK c t a k) n := by
  unfold effK
  rw [if_pos hk]
  by_cases hc : k + 1 ≤ c
  · rw [if_pos hc]
    obtain ⟨d, hd⟩ : ∃ d, c - k = d + 1 := ⟨c - k - 1, by omega⟩
    rw [show c - (k + 1) = d by omega, hd]
    cases n with
    | zero =>
      simp only [prevK]
      unfold effN
      by_cases h0 : 0 < t + k
      · rw [if_pos (by omega), if_pos (by omega)]; omega
      · rw [if_pos (by omega), if_neg (by omega), show 0 - (t + k) = 0 by omega]
        rw [chN_low 0 (d + 1) (by omega)]; simp
    | succ n =>
      simp only [prevK, if_pos hk]
      unfold effN
      by_cases h0 : n + 1 < t + k
      · rw [if_pos (by omega), if_pos (by omega), if_pos (by omega)]; omega
      · by_cases h1 : n + 1 = t + k
        · rw [if_pos (by omega), if_neg (by omega), if_pos (by omega), show n + 1 - (t + k) = 0 by omega, chN_low 0 (d + 1) (by omega)]; simp
        · rw [if_neg (by omega), if_neg (by omega), if_neg (by omega)]
          obtain ⟨m, hm⟩ : ∃ m, n - (t + k) = m := ⟨_, rfl⟩
          rw [show n + 1 - (t + k) = m + 1 by omega, hm, show n + 1 - (t + (k + 1)) = m by omega]
          have hp := chN_pascal (m : Nat) d
          rw [show (((m + 1 : Nat)) : Int) = (m : Int) + 1 by omega, hp, Int.mul_add]
          omega
  · obtain rfl : k = c := by omega
    rw [if_neg hc, Nat.sub_self]
    cases n with
    | zero =>
      simp only [prevK]
      unfold effN
      by_cases h0 : 0 < t + k
      · rw [if_neg (by omega), if_pos (by omega)]; omega
      · rw [if_pos (by omega), if_neg (by omega)]; simp [chN]
    | succ n =>
      simp only [prevK, if_pos (Nat.le_refl k)]
      unfold effN
      simp only [chN, Int.mul_one]
      by_cases h0 : n + 1 < t + k
      · rw [if_neg (by omega), if_pos (by omega), if_pos (by omega)]; omega
      · by_cases h1 : n + 1 = t + k
        · rw [if_pos (by omega), if_neg (by omega), if_pos (by omega)]; omega
        · rw [if_neg (by omega), if_neg (by omega), if_neg (by omega)]; omega
def rowK (c t : Nat) (a : Int) (k m : Nat) : List Int := (List.range m).map (effK c t a k)
theorem rowK_length (c t : Nat) (a : Int) (k m : Nat) : (rowK c t a k m).length = m := by simp [rowK]
theorem rowK_get (c t : Nat) (a : Int) (k m i : Nat) (h : i < m) : (rowK c t a k m)[i]? = some (effK c t a k i) := by simp [rowK, h]
theorem rowK_zero (c t : Nat) (a : Int) (m : Nat) : rowK c t a 0 m = effL c t a m := by
  unfold rowK effL
  refine List.map_congr_left fun i _ => ?_
  unfold effK
  rw [if_pos (Nat.zero_le _)]; rfl
theorem effN_bd (c t : Nat) (a : Int) (n : Nat) (hc : c ≤ 6) (ha : -100000 ≤ a ∧ a ≤ 100000) (hn : n ≤ 100) : -200000000000000000 ≤ effN c t a n ∧ effN c t a n ≤ 200000000000000000 := by
  unfold effN
  split
  · omega
  · exact eff_bd c t hc a ha n hn (by omega)
theorem effK_bd (c t : Nat) (a : Int) (k n : Nat) (hc : c ≤ 6) (ha : -100000 ≤ a ∧ a ≤ 100000) (hn : n ≤ 100) : -200000000000000000 ≤ effK c t a k n ∧ effK c t a k n ≤ 200000000000000000 := by
  unfold effK
  split
  · exact effN_bd _ _ a n (by omega) ha hn
  · split <;> omega
theorem effOk_bd {c t a n : Int} (h : effOk c t a n = true) : 0 ≤ c ∧ c ≤ 6 ∧ 0 ≤ t ∧ t ≤ 59 ∧ -100000 ≤ a ∧ a ≤ 100000 ∧ 0 ≤ n ∧ n ≤ 60 := by
  simp only [effOk, Bool.and_eq_true] at h
  have := slip_bd h.1
  have := of_decide_eq_true h.2
  omega
set_option maxHeartbeats 2000000 in
theorem lawSlipEffect (a : Option Addr) (len cap : Nat) (w : World) (hc : Came w a len cap) : Calls Try.prog 3 #[.slice a len cap] w (Gives (.bool true) w) := by
  have hcap := hc.lenLe
  have hcap2 := hc.capLe
  unfold maxLen at hcap2
  by_cases hbig : 1048576 < len
  · clear hc
    go_enter Try.func3, Try.ntmps3
    go_wp2
    go_ret
    exact ⟨rfl, Below.refl _ _⟩
  · have HD := hidH (drawSlipEffect a len cap w hc (by omega))
    clear hc
    go_enter Try.func3, Try.ntmps3
    go_wp2_with fail
    refine HD.out.mono ?_
    rintro e w1 ⟨c, t, m, n, rfl, hB⟩
    have B1 := hidH hB
    clear hB HD
    have HI := hidH (fun w => slipE_any c t m n w)
    have HS := hidH (fun w => sSlipE_any c t m n w)
    go_wp2_with fail
    refine (HI.out w1).mono ?_; rintro e w2 ⟨v, rfl, hr, hb⟩
    have B2 := hidH (B1.out.trans (hb.mono B1.out.size))
    have V2 := hidH hr
    clear hb hr
    go_wp2_with fail
    refine (HS.out w2).mono ?_; rintro e w3 ⟨u, rfl, hr, hb⟩
    have B3 := hidH (B2.out.trans (hb.mono B2.out.size))
    have V3 := hidH (V2.out.below hb)
    have U3 := hidH hr
    clear hb hr V2 HI HS
    go_wp2_with fail
    refine (deInts_yes v u (effA c t m n) _ _ _ _ _ V3.out.lies U3.out.lies).mono ?_; rintro e w4 ⟨rfl, hb⟩
    have B4 := hidH (B3.out.trans (hb.mono B3.out.size))
    have V4 := hidH (V3.out.below hb)
    have U4 := hidH (U3.out.below hb)
    clear hb V3 U3
    cases hok : effOk c t m n
    · clear hok
      go_wp2_with fail
      refine (deInts_yes v u (effA c t m n) _ _ _ _ _ V4.out.lies U4.out.lies).mono ?_; rintro e w5 ⟨rfl, hb⟩
      have B5 := hidH (B4.out.trans (hb.mono B4.out.size))
      clear hb
      go_wp2_with fail
      go_ret
      exact ⟨rfl, B5.out⟩
    · have ⟨c1, c2, t1, t2, m1, m2, n1, n2⟩ := effOk_bd hok
      have hE : effA c t m n = effL c.toNat t.toNat m n.toNat := by rw [effA, hok]; rfl
      rw [hE] at V4
      obtain ⟨C, rfl⟩ := Int.eq_ofNat_of_zero_le c1
      obtain ⟨T, rfl⟩ := Int.eq_ofNat_of_zero_le t1
      obtain ⟨N, rfl⟩ := Int.eq_ofNat_of_zero_le n1
      rw [Int.toNat_natCast, Int.toNat_natCast, Int.toNat_natCast] at V4
      have hLL := effL_length C T m N
      have HLL := hidH hLL
      clear hok hE U4
      -- the copy
      by_cases hN0 : N = 0
      · subst hN0
        obtain ⟨i0, hi0, hz0, hz1, hz2⟩ := info_parts infoInt
        obtain ⟨av, cv, rfl, _, hcv, hnl, _⟩ := V4.out
        unfold maxLen at hcv
        have HL0 := hidH (show effL C T m 0 = [] from rfl)
        have hle : (effL C T m 0).length = 0 := rfl
        rw [hle]
        clear V4 HLL hLL hle
        cases av with
        | none =>
          obtain rfl := hnl rfl
          clear hnl
          go_wp2_with (at_builtin; refine wpList_append_own_none rfl _ _ 25 rfl w4.heap.size 3 i0 1 Try.underlying25 hi0 _ _ _ rfl (World.ownsRow_made w4 #[] 0 (Nat.le_refl _) (Nat.zero_le _) rfl) rfl ?_)
          obtain ⟨w5, hw5⟩ : ∃ w5, w5 = w4.alloc (.cells #[] 3) := ⟨_, rfl⟩
          have B5 := hidH (show Below w.heap.size w w5 by rw [hw5]; exact B4.out.alloc B4.out.size _)
          rw [← hw5]
          clear hw5 hi0 hz0 hz1 hz2
          go_wp2_with fail
          go_loopw [12] (fun kk wr => ∃ k : Nat, k ≤ C + 1 ∧ kk = .int .i64 k ∧ wr = w5) (fun kk _ => C + 1 - (intOf kk).toNat)
          case atStart => exact ⟨0, Nat.zero_le _, rfl, rfl⟩
          case round =>
            obtain ⟨k, hk, rfl, rfl⟩ := hrel
            by_cases hlt : k ≤ C
            · go_wp2_with fail
              go_loopw [13, 14] (fun la i wx => i = .int .i64 0 ∧ wx = wr) (fun _ _ _ => 0)
              case atStart => exact ⟨rfl, rfl⟩
              case round =>
                obtain ⟨rfl, rfl⟩ := hrel
                go_wp2_with fail
                go_roundw
                case rel => exact ⟨k + 1, by omega, by go_num, by first | rfl | trivial⟩
                case measure => simp [intOf]; omega
            · obtain rfl : k = C + 1 := by omega
              go_wp2_with fail
              go_loopw [16] (fun i wx => i = .int .i64 0 ∧ wx = wr) (fun _ _ => 0)
              case atStart => exact ⟨rfl, rfl⟩
              case round =>
                obtain ⟨rfl, rfl⟩ := hrel
                go_wp2_with fail
                go_ret
                exact ⟨rfl, B5.out⟩
        | some x =>
          clear hnl
          go_wp2_with (at_builtin; refine wpList_append_own _ rfl _ _ 25 rfl w4.heap.size 3 i0 (.int .i64 0) 1 8 Try.underlying25 hi0 hz0 hz1 hz2 rfl (by decide) _ _ _ rfl (World.ownsRow_made w4 #[] 0 (Nat.le_refl _) (Nat.zero_le _) rfl) x 0 cv [] rfl rfl ?qc2 ?qc3 ?qc4 ?qc5 ?qc6 ?_)
          case qc2 => intro j u hj; simp at hj
          case qc3 => intro u hu; simp at hu
          case qc4 => unfold maxLen; omega
          case qc5 => omega
          case qc6 => simp
          intro v' w5 hown hgrow hnil
          have B5 := hidH (B4.out.trans ((((Below.refl w4.heap.size w4).alloc (Nat.le_refl _) (.cells #[] 3)).grown hgrow (by simp) (by intro k hk; simp [Value.ownBlock] at hk; omega)).mono B4.out.size))
          clear hgrow hnil hi0 hz0 hz1 hz2
          have hr := (row_of_owns (zs := []) hown).1
          obtain ⟨a9, c9, rfl, _, hcm9, _, _⟩ := hr
          unfold maxLen at hcm9
          clear hown HL0
          go_wp2_with fail
          go_loopw [12] (fun kk wr => ∃ k : Nat, k ≤ C + 1 ∧ kk = .int .i64 k ∧ wr = w5) (fun kk _ => C + 1 - (intOf kk).toNat)
          case atStart => exact ⟨0, Nat.zero_le _, rfl, rfl⟩
          case round =>
            obtain ⟨k, hk, rfl, rfl⟩ := hrel
            by_cases hlt : k ≤ C
            · go_wp2_with fail
              go_loopw [13, 14] (fun la i wx => i = .int .i64 0 ∧ wx = wr) (fun _ _ _ => 0)
              case atStart => exact ⟨rfl, rfl⟩
              case round =>
                obtain ⟨rfl, rfl⟩ := hrel
                go_wp2_with fail
                go_roundw
                case rel => exact ⟨k + 1, by omega, by go_num, by first | rfl | trivial⟩
                case measure => simp [intOf]; omega
            · obtain rfl : k = C + 1 := by omega
              go_wp2_with fail
              go_loopw [16] (fun i wx => i = .int .i64 0 ∧ wx = wr) (fun _ _ => 0)
              case atStart => exact ⟨rfl, rfl⟩
              case round =>
                obtain ⟨rfl, rfl⟩ := hrel
                go_wp2_with fail
                go_ret
                exact ⟨rfl, B5.out⟩
      · obtain ⟨bv, ov, cv, rfl, hlv, hcv, _, _, _, hcell⟩ := V4.out.lies.addr (by rw [hLL]; omega)
        rw [hLL] at hlv ⊢
        unfold maxLen at hcv
        obtain ⟨i0, hi0, hz0, hz1, hz2⟩ := info_parts infoInt
        have HC := hidH (cells_map hcell)
        have HO := hidH (oneCells (effL C T m N))
        have HIL := hidH (ints_length (effL C T m N))
        clear hcell hLL V4
        go_wp2_with (at_builtin; refine wpList_append_own _ rfl _ _ 25 rfl w4.heap.size 3 i0 (.int .i64 0) 1 8 Try.underlying25 hi0 hz0 hz1 hz2 rfl (by decide) _ _ _ rfl (World.ownsRow_made w4 #[] 0 (Nat.le_refl _) (Nat.zero_le _) rfl) ⟨bv, ov, none⟩ N cv (ints (effL C T m N)) rfl ?qc1 ?qc2 HO.out ?qc4 ?qc5 ?qc6 ?_)
        case qc1 => rw [HIL.out, HLL.out, Nat.mul_one]
        case qc2 => exact HC.out _ ((Below.refl _ _).alloc (Nat.le_refl _) _)
        case qc4 => unfold maxLen; omega
        case qc5 => omega
        case qc6 => simp
        intro v' w5 hown hgrow hnil
        have B5 := hidH (B4.out.trans ((((Below.refl w4.heap.size w4).alloc (Nat.le_refl _) (.cells #[] 3)).grown hgrow (by simp) (by intro k hk; simp [Value.ownBlock] at hk; omega)).mono B4.out.size))
        have hr := (row_of_owns hown).1
        obtain ⟨b8, c8, rfl, hlc8, hcm8, hlo8, hhi8, hblk⟩ := hr.blk (by rw [HLL.out]; omega)
        rw [HLL.out] at hlc8 ⊢
        rw [← rowK_zero] at hblk
        have hsz4 := B4.out.size
        have HB0 := hidH hblk
        unfold maxLen at hcm8
        clear hown hgrow hnil hr hblk HC HO HIL
        go_wp2_with fail
        go_loopw [12] (fun kk wr => ∃ k : Nat, k ≤ C + 1 ∧ kk = .int .i64 k ∧ Blk wr b8 (rowK C T m k N) ∧ Below w.heap.size w wr) (fun kk _ => C + 1 - (intOf kk).toNat)
        case atStart => exact ⟨0, Nat.zero_le _, rfl, HB0.out, B5.out⟩
        case round =>
          obtain ⟨k, hk, rfl, hblk, hb⟩ := hrel
          have HBK := hidH hblk
          have HBW := hidH hb
          clear hblk hb HB0
          obtain ⟨wo, rfl⟩ : ∃ wo, wo = wr := ⟨wr, rfl⟩
          by_cases hlt : k ≤ C
          · go_wp2_with fail
            go_loopw [13, 14] (fun la i wr => ∃ j : Nat, j ≤ N ∧ i = .int .i64 j ∧ la = .int .i64 (prevK (effK C T m k) j) ∧ Blk wr b8 (over (rowK C T m (k + 1) N) (rowK C T m k N) j) ∧ Below w.heap.size w wr) (fun _ i _ => N - (intOf i).toNat)
            case atStart => exact ⟨0, Nat.zero_le _, rfl, rfl, by rw [over_zero]; exact HBK.out, HBW.out⟩
            case round =>
              obtain ⟨j, hj, rfl, rfl, hblk, hb⟩ := hrel
              have HBI := hidH hblk
              have HBq := hidH hb
              clear hblk hb
              by_cases hjl : j < N
              · obtain ⟨ho, hf⟩ := HBI.out.2 j (effK C T m k j) (by rw [over_get _ _ _ (by rw [rowK_length, rowK_length]) (by rw [rowK_length]; exact hjl), rowK_get _ _ _ _ _ _ hjl])
                have HG := hidH (over_set (rowK C T m (k + 1) N) (rowK C T m k N) j _ (by rw [rowK_length, rowK_length]) (rowK_get C T m (k + 1) N j hjl))
                have ⟨x1, x2⟩ := effK_bd C T m k j (by omega) ⟨m1, m2⟩ (by omega)
                have hpb : -200000000000000000 ≤ prevK (effK C T m k) j ∧ prevK (effK C T m k) j ≤ 200000000000000000 := by
                  cases j with
                  | zero => simp [prevK]
                  | succ j => exact effK_bd C T m k j (by omega) ⟨m1, m2⟩ (by omega)
                obtain ⟨y1, y2⟩ := hpb
                rw [effK_next C T m k j hlt] at HG
                have HPS := hidH (show prevK (effK C T m k) (j + 1) = effK C T m k j from rfl)
                have HST := hidH (HBI.out.set j (effK C T m k j - prevK (effK C T m k) j))
                generalize effK C T m k j = x at *
                generalize prevK (effK C T m k) j = y at *
                go_wp2_with fail
                go_roundw
                case rel => exact ⟨j + 1, by omega, by go_num, by rw [HPS.out], by rw [← HG.out]; exact HST.out, HBq.out.setCell (p := ⟨b8, j, none⟩) (by show w.heap.size ≤ b8; omega) _⟩
                case measure => simp [intOf]; omega
              · obtain rfl : j = N := by omega
                have HBE := HBI.out
                rw [show over (rowK C T m (k + 1) j) (rowK C T m k j) j = rowK C T m (k + 1) j by have := over_all (rowK C T m (k + 1) j) (rowK C T m k j) (by rw [rowK_length, rowK_length]); rw [rowK_length] at this; exact this] at HBE
                have HBE := hidH HBE
                go_wp2_with fail
                go_roundw
                case rel => exact ⟨k + 1, by omega, by go_num, HBE.out, HBq.out⟩
                case measure => simp [intOf]; omega
          · obtain rfl : k = C + 1 := by omega
            go_wp2_with fail
            go_loopw [16] (fun i wr => ∃ j : Nat, j ≤ N ∧ i = .int .i64 j ∧ wr = wo) (fun i _ => N - (intOf i).toNat)
            case atStart => exact ⟨0, Nat.zero_le _, rfl, rfl⟩
            case round =>
              obtain ⟨j, hj, rfl, rfl⟩ := hrel
              by_cases hjl : j < N
              · obtain ⟨ho, hf⟩ := HBK.out.2 j (effK C T m (C + 1) j) (rowK_get _ _ _ _ _ _ hjl)
                have hx : effK C T m (C + 1) j = if j = T + C then m else 0 := by unfold effK; rw [if_neg (by omega)]
                rw [hx] at ho
                clear hx
                by_cases he : j = T + C
                · rw [if_pos he] at ho
                  have hb1 : ((j : Int) != (T : Int) + (C : Int)) = false := by rw [he]; simp
                  have hb2 : ((j : Int) == (T : Int) + (C : Int)) = true := by rw [he]; simp
                  have HE := hidH he
                  clear he
                  go_wp2_with fail
                  go_roundw
                  case rel => exact ⟨j + 1, by omega, by go_num, by first | rfl | trivial⟩
                  case measure => simp [intOf]; omega
                · rw [if_neg he] at ho
                  have hb1 : ((j : Int) != (T : Int) + (C : Int)) = true := by simp; omega
                  have hb2 : ((j : Int) == (T : Int) + (C : Int)) = false := by simp; omega
                  have HE := hidH he
                  clear he
                  go_wp2_with fail
                  go_roundw
                  case rel => exact ⟨j + 1, by omega, by go_num, by first | rfl | trivial⟩
                  case measure => simp [intOf]; omega
              · obtain rfl : j = N := by omega
                go_wp2_with fail
                go_ret
                exact ⟨rfl, HBW.out⟩
end Go.Proofs.Ytojpnlipfbahdaa
