/-
  Runs of a table: parts of the program and of the model, at every argument. No conditions but that slices fit in memory.
  LongestRun: the program and the model, at every argument. No conditions but that slices fit in memory.
-/
import Derived.Test.YtgnoclnenhmakaaPlanM
namespace Go.Proofs.Ytgnoclnenhmakaa
set_option maxRecDepth 4000
open Go.RowKit
theorem Lies.dropped {w : World} {lo hi b off n cap : Nat} {zs : List Int} (H : Lies w lo hi (.slice (some ⟨b, off, none⟩) n cap) zs) (k m c : Nat) (hk : k ≤ zs.length) (hm : m = zs.length - k) (hc : c = cap - k) : Lies w lo hi (.slice (some ⟨b, off + k, none⟩) m c) (zs.drop k) := by
  obtain ⟨a, cap', e, h1, h2, h3, h4⟩ := H
  injection e with e1 e2 e3
  subst e1; subst e3
  refine ⟨some ⟨b, off + k, none⟩, c, by rw [List.length_drop, hm], by rw [List.length_drop]; omega, by omega, (fun h => by cases h), fun j z hj => ?_⟩
  rw [List.getElem?_drop] at hj
  obtain ⟨b', off', e, x, y, hcc⟩ := h4 (k + j) z hj
  cases e
  exact ⟨b, off + k, rfl, x, y, by rwa [← Nat.add_assoc] at hcc⟩
theorem Lies.taken {w : World} {lo hi b off n cap : Nat} {zs : List Int} (H : Lies w lo hi (.slice (some ⟨b, off, none⟩) n cap) zs) (m : Nat) (hm : m ≤ zs.length) : Lies w lo hi (.slice (some ⟨b, off, none⟩) m cap) (zs.take m) := by
  obtain ⟨a, cap', e, h1, h2, h3, h4⟩ := H
  injection e with e1 e2 e3
  subst e1; subst e3
  refine ⟨some ⟨b, off, none⟩, cap, by rw [List.length_take, Nat.min_eq_left hm], by rw [List.length_take]; omega, h2, (fun h => by cases h), fun j z hj => ?_⟩
  have hjn : j < m := by have := (List.getElem?_eq_some_iff.1 hj).1; rw [List.length_take] at this; omega
  rw [List.getElem?_take, if_pos hjn] at hj
  exact h4 j z hj
/-! ### The program -/
theorem small_any (v : Value) (zs : List Int) (w : World) (lo hi : Nat) (hv : Lies w lo hi v zs) : Calls Try.prog 38 #[v] w (Gives (.bool (smallOk zs)) w) := by
  have HK := hidH (bounded_any v zs 60 1500 w lo hi hv (by omega) (by omega))
  clear hv
  go_enter Try.func38, Try.ntmps38
  go_wp2_with (go_at_call 66; refine HK.out.mono ?_; rintro e w' ⟨rfl, hb⟩)
  go_ret
  exact ⟨rfl, hb⟩
theorem runLen_any (v : Value) (zs : List Int) (d : Nat) (w : World) (lo hi : Nat) (hv : Lies w lo hi v zs) (hd : d ≤ 6) (hn : zs.length ≤ 1048576) : Calls Try.prog 41 #[v, .int .i64 d] w (Gives (.int .i64 (longN (d + 1) zs : Nat)) w) := by
  have HT := hidH (fun h => taken_any v zs (d + 1) w lo hi hv h hn)
  obtain ⟨a, cap, rfl, hlc, hcm, hnil, hcell⟩ := hv
  clear hnil hcell
  unfold maxLen at hcm
  by_cases hs : zs.length ≤ d + 1
  · have HLN := hidH (show longN (d + 1) zs = zs.length from if_pos hs)
    rw [HLN.out]
    clear HT
    go_enter Try.func41, Try.ntmps41
    go_wp2_with fail
    go_ret
    exact ⟨rfl, Below.refl _ _⟩
  · have HTT := hidH (HT.out (by omega))
    have HRL := hidH (difN_length (d + 1) zs)
    have HLN := hidH (show longN (d + 1) zs = d + 1 + fnz (difN (d + 1) zs) from if_neg hs)
    have HDC := hidH (show ((d + 1 : Nat) : Int) = (d : Int) + 1 by omega)
    rw [HLN.out]
    clear HT HLN
    rw [HDC.out] at HTT
    generalize difN (d + 1) zs = row at *
    by_cases hf : fnz row < row.length
    · have HNZ := hidH (show nzI row = (fnz row : Int) from if_pos hf)
      go_enter Try.func41, Try.ntmps41
      go_wp2_with fail
      refine HTT.out.mono ?_; rintro e w1 ⟨u, rfl, hl, hb⟩
      have HL := hidH hl
      have HB := hidH hb
      clear hl hb
      go_wp2_with fail
      refine (indexNz4 u _ _ _ _ HL.out).mono ?_; rintro e w2 ⟨rfl, rfl⟩
      rw [HNZ.out]
      have := HRL.out
      generalize fnz row = f at *
      go_wp2_with fail
      go_ret
      exact ⟨rfl, HB.out⟩
    · have HNZ := hidH (show nzI row = -1 from if_neg hf)
      have hfl : d + 1 + fnz row = zs.length := by have := HRL.out; have := fnz_le row; omega
      have HFL := hidH hfl
      rw [HFL.out]
      clear hfl
      go_enter Try.func41, Try.ntmps41
      go_wp2_with fail
      refine HTT.out.mono ?_; rintro e w1 ⟨u, rfl, hl, hb⟩
      have HL := hidH hl
      have HB := hidH hb
      clear hl hb
      go_wp2_with fail
      refine (indexNz4 u _ _ _ _ HL.out).mono ?_; rintro e w2 ⟨rfl, rfl⟩
      rw [HNZ.out]
      go_wp2_with fail
      go_ret
      exact ⟨rfl, HB.out⟩
/-! ### The model -/
theorem sSmall_any (v : Value) (zs : List Int) (w : World) (lo hi : Nat) (hv : Lies w lo hi v zs) : Calls Try.prog 70 #[v] w (Gives (.bool (smallOk zs)) w) := by
  have HV := hidH hv
  obtain ⟨a, cap, rfl, hlc, hcm, hnil, hcell⟩ := hv
  unfold maxLen at hcm
  have HC := hidH hcell
  clear hcell hnil
  go_enter Try.func70, Try.ntmps70
  go_wp2_with fail
  go_loop [3] (fun i => ∃ k : Nat, k ≤ zs.length ∧ i = .int .i64 k ∧ ∀ x ∈ zs.take k, inB 1500 x = true) (fun i => zs.length - (intOf i).toNat)
  case atStart => exact ⟨0, Nat.zero_le _, rfl, by simp⟩
  case round =>
    obtain ⟨k, hk, rfl, hn⟩ := hrel
    have HN := hidH hn
    clear hn
    by_cases hlt : k < zs.length
    · obtain ⟨z, hz⟩ := get_lt zs k hlt
      obtain ⟨b, off, rfl, _, _, hcz⟩ := HC.out k z hz
      have HZ := hidH hz
      clear hz
      cases hp : inB 1500 z
      · have HP := hidH hp
        clear hp
        go_wp2_with (go_at_call 60; refine (sIn_any _ _ _ false HP.out _).mono ?_; rintro e w' ⟨rfl, rfl⟩)
        go_ret
        refine ⟨?_, Below.refl _ _⟩
        have : smallOk zs = false := by
          rw [← Bool.not_eq_true]
          intro h
          have := ((small_iff _).1 h).2.2 z (List.mem_of_getElem? HZ.out)
          have h2 := of_decide_eq_false HP.out
          omega
        rw [this]; rfl
      · have HP := hidH hp
        clear hp
        go_wp2_with (go_at_call 60; refine (sIn_any _ _ _ true HP.out _).mono ?_; rintro e w' ⟨rfl, rfl⟩)
        go_round
        case rel => exact ⟨k + 1, by omega, by go_num, fun x hx => by
          rw [List.take_add_one, HZ.out] at hx
          rcases List.mem_append.1 hx with hx | hx
          · exact HN.out x hx
          · rw [show x = z by simpa using hx]; exact HP.out⟩
        case measure => simp [intOf]; omega
    · obtain rfl : k = zs.length := by omega
      have e : smallOk zs = tableOk zs := by
        have h := HN.out
        rw [List.take_of_length_le (Nat.le_refl _)] at h
        rw [Bool.eq_iff_iff, small_iff, tableOk, listOk_iff]
        constructor
        · rintro ⟨a, b, c⟩; exact ⟨a, b, fun x hx => by have := c x hx; omega⟩
        · rintro ⟨a, b, _⟩
          exact ⟨a, b, fun x hx => of_decide_eq_true (h x hx)⟩
      have HE := hidH e
      clear e
      go_wp2_with fail
      refine (sTableValid_any _ zs _ _ _ HV.out).mono ?_; rintro e w' ⟨rfl, rfl⟩
      go_wp2_with fail
      go_ret
      exact ⟨by rw [HE.out]; rfl, Below.refl _ _⟩
/-- The polynomial of a run; nothing if there is none. -/
def runA (zs : List Int) (d : Int) : List Int := if leastL zs ≤ d then interA zs else []
theorem runA_len (zs : List Int) (d : Int) : (runA zs d).length ≤ 1048576 := by unfold runA; split <;> first | exact interA_len _ | simp
theorem sRun_any (v : Value) (zs : List Int) (d : Int) (w : World) (lo hi : Nat) (hv : Lies w lo hi v zs) : Calls Try.prog 74 #[v, .int .i64 d] w (NewRowB (runA zs d) (runB zs d) w) := by
  have HV := hidH hv
  have HL := hidH (least_ge zs)
  clear hv
  by_cases hd : leastL zs ≤ d
  · have HRA := hidH (show runA zs d = interA zs from if_pos hd)
    have HRB := hidH (show runB zs d = interB zs by rw [runB, decide_eq_true hd, Bool.true_and])
    rw [HRA.out, HRB.out]
    go_enter Try.func74, Try.ntmps74
    go_wp2_with fail
    refine (sLeast_any v zs _ _ _ HV.out).mono ?_; rintro e w1 ⟨rfl, hb⟩
    have HB := hidH hb
    have HV1 := hidH (HV.out.below hb)
    clear hb
    have ⟨hg1, hg2, _, _⟩ := HL.out
    generalize leastL zs = l at *
    go_wp2_with fail
    refine (sInter_any v zs _ _ _ HV1.out).mono ?_; rintro e w2 ⟨u, rfl, hr, hb⟩
    have HR := hidH hr
    have HB2 := hidH (HB.out.trans (hb.mono HB.out.size))
    have hsz := HB.out.size
    clear hr hb
    generalize interB zs = r at *
    go_wp2_with fail
    go_ret2
    exact ⟨_, rfl, HR.out.mono hsz (Nat.le_refl _), HB2.out⟩
  · have HRA := hidH (show runA zs d = [] from if_neg hd)
    have HRB := hidH (show runB zs d = false by rw [runB, decide_eq_false hd, Bool.false_and])
    rw [HRA.out, HRB.out]
    go_enter Try.func74, Try.ntmps74
    go_wp2_with fail
    refine (sLeast_any v zs _ _ _ HV.out).mono ?_; rintro e w1 ⟨rfl, hb⟩
    have HB := hidH hb
    clear hb
    have ⟨hg1, hg2, _, _⟩ := HL.out
    generalize leastL zs = l at *
    go_wp2_with fail
    go_ret2
    exact ⟨_, rfl, Row.nil _ _ _ _ _ (Nat.zero_le _) (fun _ => rfl), HB.out.trans (((Below.refl _ _).alloc (Nat.le_refl _) _).mono HB.out.size)⟩
set_option maxHeartbeats 800000 in
theorem sLong_any (b off cap : Nat) (zs : List Int) (d : Nat) (w : World) (lo hi : Nat) (hv : Lies w lo hi (.slice (some ⟨b, off, none⟩) zs.length cap) zs) (hlc : zs.length ≤ cap) (hcm : cap ≤ 9223372036854775807) (hs : ∀ k, 1 ≤ k → k ≤ zs.length → runB (zs.take k) d = decide (k ≤ longN (d + 1) zs)) : Calls Try.prog 73 #[.slice (some ⟨b, off, none⟩) zs.length cap, .int .i64 d] w (Gives (.int .i64 (longN (d + 1) zs : Nat)) w) := by
  have HV := hidH hv
  have HS := hidH hs
  have hle := longN_le (d + 1) zs
  clear hv hs
  go_enter Try.func73, Try.ntmps73
  go_wp2_with fail
  go_loopw [5] (fun i wr => ∃ k : Nat, k ≤ zs.length ∧ k ≤ longN (d + 1) zs ∧ i = .int .i64 k ∧ Below w.heap.size w wr) (fun i _ => zs.length - (intOf i).toNat)
  case atStart => exact ⟨0, Nat.zero_le _, Nat.zero_le _, rfl, Below.refl _ _⟩
  case round =>
    obtain ⟨k, hk, hkl, rfl, hb⟩ := hrel
    have HB := hidH hb
    clear hb
    by_cases hlt : k < zs.length
    · have HC := hidH (sRun_any (.slice (some ⟨b, off, none⟩) (k + 1) cap) (zs.take (k + 1)) d wr lo hi ((HV.out.below HB.out).taken (k + 1) (by omega)))
      rw [HS.out (k + 1) (by omega) (by omega)] at HC
      have hkc : ((k + 1 : Nat) : Int) = (k : Int) + 1 := by omega
      have hkd : k + 1 ≤ cap := by omega
      by_cases hq : k + 1 ≤ longN (d + 1) zs
      · rw [decide_eq_true hq] at HC
        generalize longN (d + 1) zs = L at *
        go_wp2_with fail
        refine HC.out.mono ?_; rintro e w2 ⟨u, rfl, hr, hb⟩
        have HB2 := hidH (HB.out.trans (hb.mono HB.out.size))
        clear hr hb
        go_wp2_with fail
        go_roundw
        case rel => exact ⟨k + 1, by omega, by omega, by go_num, HB2.out⟩
        case measure => simp [intOf]; omega
      · rw [decide_eq_false hq] at HC
        obtain hkL : longN (d + 1) zs = k := by omega
        rw [hkL]
        clear hkL hq
        generalize longN (d + 1) zs = L at *
        go_wp2_with fail
        refine HC.out.mono ?_; rintro e w2 ⟨u, rfl, hr, hb⟩
        have HB2 := hidH (HB.out.trans (hb.mono HB.out.size))
        clear hr hb
        go_wp2_with fail
        go_ret
        exact ⟨rfl, HB2.out⟩
    · obtain rfl : k = zs.length := by omega
      have hLz : longN (d + 1) zs = zs.length := by omega
      have HLZ := hidH hLz
      clear hLz hkl hle
      go_wp2_with fail
      go_ret
      exact ⟨by rw [HLZ.out]; rfl, HB.out⟩
end Go.Proofs.Ytgnoclnenhmakaa
namespace Go.Proofs.Ytgnoclnenhmakaa
set_option maxRecDepth 4000
open Go.RowKit
/-- A place in a table, its end among them. -/
def fromOk (zs : List Int) (n : Int) : Bool := decide (0 ≤ n ∧ n ≤ (zs.length : Int))
/-- What LongestRun answers. -/
def runAns (zs : List Int) (n d : Int) : Int := if smallOk zs && (degOk d && fromOk zs n) then (longN (d.toNat + 1) (zs.drop n.toNat) : Nat) else -1
theorem lrun_no (v0 : Value) (zs0 : List Int) (n1 : Int) (n2 : Int) (w : World) (lo0 hi0 : Nat) (hv0 : Lies w lo0 hi0 v0 zs0) (h : (((smallOk zs0) && ((degOk n2) && (fromOk zs0 n1)))) = false) : Calls Try.prog 17 #[v0, .int .i64 n1, .int .i64 n2] w (Gives (.int .i64 (-1)) w) := by
  have HV0_0 := hidH hv0
  obtain ⟨a0, cap0, rfl, hlc0, hcm0, hnil0, hcell0⟩ := hv0
  clear hnil0 hcell0
  unfold maxLen at hcm0
  have HB0 := hidH (Below.refl w.heap.size w)
  cases hc0 : smallOk zs0
  · have HC0 := hidH hc0
    clear h hc0
    go_enter Try.func17, Try.ntmps17
    go_wp2_with fail
    refine (small_any _ zs0 _ _ _ HV0_0.out).mono ?_; rintro e w1 ⟨rfl, hb⟩
    have HV0_1 := hidH (HV0_0.out.below hb)
    clear HV0_0
    have HB1 := hidH (HB0.out.trans (hb.mono HB0.out.size))
    clear hb HB0
    rw [HC0.out]
    go_wp2_with fail
    go_ret
    exact ⟨rfl, HB1.out⟩
  · rw [hc0, Bool.true_and] at h
    have HC0 := hidH hc0
    clear hc0
    have ⟨hs1, hs2, hs3⟩ := (small_iff zs0).1 HC0.out
    clear hs3
    cases hc1 : degOk n2
    · have HC1 := hidH hc1
      clear h hc1
      go_enter Try.func17, Try.ntmps17
      go_wp2_with fail
      refine (small_any _ zs0 _ _ _ HV0_0.out).mono ?_; rintro e w1 ⟨rfl, hb⟩
      have HV0_1 := hidH (HV0_0.out.below hb)
      clear HV0_0
      have HB1 := hidH (HB0.out.trans (hb.mono HB0.out.size))
      clear hb HB0
      rw [HC0.out]
      go_wp2_with fail
      refine (degValid_any n2 _).mono ?_; rintro e w_ ⟨rfl, rfl⟩
      rw [HC1.out]
      go_wp2_with fail
      go_ret
      exact ⟨rfl, HB1.out⟩
    · rw [hc1, Bool.true_and] at h
      have HC1 := hidH hc1
      clear hc1
      have ⟨hd1, hd2⟩ := of_decide_eq_true HC1.out
      · have HC2 := hidH h
        clear h
        have hcc := of_decide_eq_false HC2.out
        rcases (show (n1 < 0) ∨ (0 ≤ n1 ∧ (zs0.length : Int) < n1) by omega) with hcf | ⟨ht2_0, hcf⟩
        · clear hcc
          go_enter Try.func17, Try.ntmps17
          go_wp2_with fail
          refine (small_any _ zs0 _ _ _ HV0_0.out).mono ?_; rintro e w1 ⟨rfl, hb⟩
          have HV0_1 := hidH (HV0_0.out.below hb)
          clear HV0_0
          have HB1 := hidH (HB0.out.trans (hb.mono HB0.out.size))
          clear hb HB0
          rw [HC0.out]
          go_wp2_with fail
          refine (degValid_any n2 _).mono ?_; rintro e w_ ⟨rfl, rfl⟩
          rw [HC1.out]
          go_wp2_with fail
          go_ret
          exact ⟨rfl, HB1.out⟩
        · clear hcc
          go_enter Try.func17, Try.ntmps17
          go_wp2_with fail
          refine (small_any _ zs0 _ _ _ HV0_0.out).mono ?_; rintro e w1 ⟨rfl, hb⟩
          have HV0_1 := hidH (HV0_0.out.below hb)
          clear HV0_0
          have HB1 := hidH (HB0.out.trans (hb.mono HB0.out.size))
          clear hb HB0
          rw [HC0.out]
          go_wp2_with fail
          refine (degValid_any n2 _).mono ?_; rintro e w_ ⟨rfl, rfl⟩
          rw [HC1.out]
          go_wp2_with fail
          go_ret
          exact ⟨rfl, HB1.out⟩
set_option maxHeartbeats 800000 in
theorem lrun_yes (v0 : Value) (zs0 : List Int) (n1 : Int) (n2 : Int) (w : World) (lo0 hi0 : Nat) (hv0 : Lies w lo0 hi0 v0 zs0) (hc0 : (smallOk zs0) = true) (hc1 : (degOk n2) = true) (hc2 : (fromOk zs0 n1) = true) : Calls Try.prog 17 #[v0, .int .i64 n1, .int .i64 n2] w (Gives (.int .i64 (longN (n2.toNat + 1) (zs0.drop n1.toNat) : Nat)) w) := by
  have HV0_0 := hidH hv0
  clear hv0
  have HB0 := hidH (Below.refl w.heap.size w)
  have HC0 := hidH hc0
  have HC1 := hidH hc1
  have HC2 := hidH hc2
  clear hc0 hc1 hc2
  have ⟨hs1, hs2, hs3⟩ := (small_iff zs0).1 HC0.out
  clear hs3
  have ⟨hd1, hd2⟩ := of_decide_eq_true HC1.out
  have ⟨ht2_0, ht2_1⟩ := of_decide_eq_true HC2.out
  obtain ⟨b0, off0, cap0, rfl, hlc0, hcm0, _, _, _, hcx⟩ := HV0_0.out.addr (by omega)
  clear hcx
  unfold maxLen at hcm0
  obtain ⟨k, rfl⟩ : ∃ k : Nat, n1 = (k : Int) := ⟨n1.toNat, by omega⟩
  obtain ⟨d, rfl⟩ : ∃ d : Nat, n2 = (d : Int) := ⟨n2.toNat, by omega⟩
  rw [Int.toNat_natCast, Int.toNat_natCast]
  obtain ⟨ys, hys⟩ : ∃ ys, ys = zs0.drop k := ⟨_, rfl⟩
  rw [← hys]
  have HYS := hidH hys
  clear hys
  clear hd1 hs1
  go_enter Try.func17, Try.ntmps17
  go_wp2_with fail
  refine (small_any _ zs0 _ _ _ HV0_0.out).mono ?_; rintro e w1 ⟨rfl, hb⟩
  have HV0_1 := hidH (HV0_0.out.below hb)
  clear HV0_0
  have HB1 := hidH (HB0.out.trans (hb.mono HB0.out.size))
  clear hb HB0
  rw [HC0.out]
  go_wp2_with fail
  refine (degValid_any (d : Int) _).mono ?_; rintro e w_ ⟨rfl, rfl⟩
  rw [HC1.out]
  by_cases hck : cap0 = k
  · have hkz : zs0.length = k := by omega
    obtain rfl : ys = [] := by rw [HYS.out]; exact List.drop_eq_nil_of_le (by omega)
    have HR := hidH (runLen_any (.slice (some ⟨b0, off0, none⟩) 0 0) [] d w1 0 w1.heap.size (Row.nil _ _ _ _ _ (Nat.zero_le _) (fun _ => rfl)).lies (by omega) (by simp))
    generalize longN (d + 1) [] = L at *
    subst hck
    have hln : (zs0.length : Int) - cap0 = ((0 : Nat) : Int) := by omega
    go_wp2_with fail
    refine HR.out.mono ?_; rintro e wz ⟨rfl, hb⟩
    have HBZ := hidH (HB1.out.trans (hb.mono HB1.out.size))
    clear hb
    go_wp2_with fail
    go_ret
    exact ⟨rfl, HBZ.out⟩
  · have HR := hidH (runLen_any _ (zs0.drop k) d w1 _ _ ((HV0_1.out).dropped k (zs0.length - k) (cap0 - k) (by omega) rfl rfl) (by omega) (by rw [List.length_drop]; omega))
    rw [← HYS.out] at HR
    generalize longN (d + 1) ys = L at *
    have hln : (zs0.length : Int) - k = ((zs0.length - k : Nat) : Int) := by omega
    have hcn : (cap0 : Int) - k = ((cap0 - k : Nat) : Int) := by omega
    go_wp2_with fail
    refine HR.out.mono ?_; rintro e wz ⟨rfl, hb⟩
    have HBZ := hidH (HB1.out.trans (hb.mono HB1.out.size))
    clear hb
    go_wp2_with fail
    go_ret
    exact ⟨rfl, HBZ.out⟩
theorem lrun_any (v0 : Value) (zs0 : List Int) (n1 n2 : Int) (w : World) (lo0 hi0 : Nat) (hv0 : Lies w lo0 hi0 v0 zs0) : Calls Try.prog 17 #[v0, .int .i64 n1, .int .i64 n2] w (Gives (.int .i64 (runAns zs0 n1 n2)) w) := by
  unfold runAns
  cases h : (smallOk zs0 && (degOk n2 && fromOk zs0 n1))
  · exact lrun_no v0 zs0 n1 n2 w lo0 hi0 hv0 h
  · have h' := h
    simp only [Bool.and_eq_true] at h'
    obtain ⟨h0, h1, h2⟩ := h'
    exact lrun_yes v0 zs0 n1 n2 w lo0 hi0 hv0 h0 h1 h2
end Go.Proofs.Ytgnoclnenhmakaa
