/-
  Runs of a table: parts of the program and of the model, at every argument. No conditions but that slices fit in memory.
  LongestRun: the program and the model, at every argument. No conditions but that slices fit in memory.
-/
import Derived.Test.YtpkieconbfgbdaaPlanM
namespace Go.Proofs.Ytpkieconbfgbdaa
set_option maxRecDepth 4000
open Go.RowKit
theorem Lies.dropped {w : World} {lo hi b off n cap : Nat} {zs : List Int} (H : Lies w lo hi (.slice (some ⟨b, off, none⟩) n cap) zs) (k m c : Nat) (hk : k ≤ zs.length) (hm : m = zs.length - k) (hc : c = cap - k) : Lies w lo hi (.slice (some ⟨b, off + k, none⟩) m c) (zs.drop k) := by
  obtain ⟨a, cap', e, h1, h2, h3, h4⟩ := H
  injection e with e1 e2 e3
  subst e1; subst e3
  refine ⟨some ⟨b, off + k, none⟩, c, by rw [List.length_drop, hm], by rw [List.length_drop]; omega, by omega, (fun h => by cases h), fun j z hj => ?_⟩
  rw [List.getElem?_drop] at hj
  obtain ⟨b', off', e, x, y, hcc⟩ := h4 (k + j) z hj
  cases e
  exact ⟨b, off + k, rfl, x, y, by rwa [← Nat.add_assoc] at hcc⟩
theorem Lies.taken {w : World} {lo hi b off n cap : Nat} {zs : List Int} (H : Lies w lo hi (.slice (some ⟨b, off, none⟩) n cap) zs) (m : Nat) (hm : m ≤ zs.length) : Lies w lo hi (.slice (some ⟨b, off, none⟩) m cap) (zs.take m) := by
  obtain ⟨a, cap', e, h1, h2, h3, h4⟩ := H
  injection e with e1 e2 e3
  subst e1; subst e3
  refine ⟨some ⟨b, off, none⟩, cap, by rw [List.length_take, Nat.min_eq_left hm], by rw [List.length_take]; omega, h2, (fun h => by cases h), fun j z hj => ?_⟩
  have hjn : j < m := by have := (List.getElem?_eq_some_iff.1 hj).1; rw [List.length_take] at this; omega
  rw [List.getElem?_take, if_pos hjn] at hj
  exact h4 j z hj
/-! ### The program -/
theorem small_any (v : Value) (zs : List Int) (w : World) (lo hi : Nat) (hv : Lies w lo hi v zs) : Calls Try.prog 28 #[v] w (Gives (.bool (smallOk zs)) w) := by
  have HK := hidH (bounded_any v zs 60 1500 w lo hi hv (by omega) (by omega))
  clear hv
  go_enter Try.func28, Try.ntmps28
  go_wp2_with (go_at_call 56; refine HK.out.mono ?_; rintro e w' ⟨rfl, hb⟩)
  go_ret
  exact ⟨rfl, hb⟩
theorem runLen_any (v : Value) (zs : List Int) (d : Nat) (w : World) (lo hi : Nat) (hv : Lies w lo hi v zs) (hd : d ≤ 6) (hn : zs.length ≤ 1048576) : Calls Try.prog 32 #[v, .int .i64 d] w (Gives (.int .i64 (longN (d + 1) zs : Nat)) w) := by
  have HT := hidH (fun h => taken_any v zs (d + 1) w lo hi hv h hn)
  obtain ⟨a, cap, rfl, hlc, hcm, hnil, hcell⟩ := hv
  clear hnil hcell
  unfold maxLen at hcm
  by_cases hs : zs.length ≤ d + 1
  · have HLN := hidH (show longN (d + 1) zs = zs.length from if_pos hs)
    rw [HLN.out]
    clear HT
    go_enter Try.func32, Try.ntmps32
    go_wp2_with fail
    go_ret
    exact ⟨rfl, Below.refl _ _⟩
  · have HTT := hidH (HT.out (by omega))
    have HRL := hidH (difN_length (d + 1) zs)
    have HLN := hidH (show longN (d + 1) zs = d + 1 + fnz (difN (d + 1) zs) from if_neg hs)
    have HDC := hidH (show ((d + 1 : Nat) : Int) = (d : Int) + 1 by omega)
    rw [HLN.out]
    clear HT HLN
    rw [HDC.out] at HTT
    generalize difN (d + 1) zs = row at *
    by_cases hf : fnz row < row.length
    · have HNZ := hidH (show nzI row = (fnz row : Int) from if_pos hf)
      go_enter Try.func32, Try.ntmps32
      go_wp2_with fail
      refine HTT.out.mono ?_; rintro e w1 ⟨u, rfl, hl, hb⟩
      have HL := hidH hl
      have HB := hidH hb
      clear hl hb
      go_wp2_with fail
      refine (indexNz4 u _ _ _ _ HL.out).mono ?_; rintro e w2 ⟨rfl, rfl⟩
      rw [HNZ.out]
      have := HRL.out
      generalize fnz row = f at *
      go_wp2_with fail
      go_ret
      exact ⟨rfl, HB.out⟩
    · have HNZ := hidH (show nzI row = -1 from if_neg hf)
      have hfl : d + 1 + fnz row = zs.length := by have := HRL.out; have := fnz_le row; omega
      have HFL := hidH hfl
      rw [HFL.out]
      clear hfl
      go_enter Try.func32, Try.ntmps32
      go_wp2_with fail
      refine HTT.out.mono ?_; rintro e w1 ⟨u, rfl, hl, hb⟩
      have HL := hidH hl
      have HB := hidH hb
      clear hl hb
      go_wp2_with fail
      refine (indexNz4 u _ _ _ _ HL.out).mono ?_; rintro e w2 ⟨rfl, rfl⟩
      rw [HNZ.out]
      go_wp2_with fail
      go_ret
      exact ⟨rfl, HB.out⟩
/-! ### The model -/
theorem sSmall_any (v : Value) (zs : List Int) (w : World) (lo hi : Nat) (hv : Lies w lo hi v zs) : Calls Try.prog 35 #[v] w (Gives (.bool (smallOk zs)) w) := by
  have HV := hidH hv
  obtain ⟨a, cap, rfl, hlc, hcm, hnil, hcell⟩ := hv
  unfold maxLen at hcm
  have HC := hidH hcell
  clear hcell hnil
  go_enter Try.func35, Try.ntmps35
  go_wp2_with fail
  go_loop [3] (fun i => ∃ k : Nat, k ≤ zs.length ∧ i = .int .i64 k ∧ ∀ x ∈ zs.take k, inB 1500 x = true) (fun i => zs.length - (intOf i).toNat)
  case atStart => exact ⟨0, Nat.zero_le _, rfl, by simp⟩
  case round =>
    obtain ⟨k, hk, rfl, hn⟩ := hrel
    have HN := hidH hn
    clear hn
    by_cases hlt : k < zs.length
    · obtain ⟨z, hz⟩ := get_lt zs k hlt
      obtain ⟨b, off, rfl, _, _, hcz⟩ := HC.out k z hz
      have HZ := hidH hz
      clear hz
      cases hp : inB 1500 z
      · have HP := hidH hp
        clear hp
        go_wp2_with (go_at_call 60; refine (sIn_any _ _ _ false HP.out _).mono ?_; rintro e w' ⟨rfl, rfl⟩)
        go_ret
        refine ⟨?_, Below.refl _ _⟩
        have : smallOk zs = false := by
          rw [← Bool.not_eq_true]
          intro h
          have := ((small_iff _).1 h).2.2 z (List.mem_of_getElem? HZ.out)
          have h2 := of_decide_eq_false HP.out
          omega
        rw [this]; rfl
      · have HP := hidH hp
        clear hp
        go_wp2_with (go_at_call 60; refine (sIn_any _ _ _ true HP.out _).mono ?_; rintro e w' ⟨rfl, rfl⟩)
        go_round
        case rel => exact ⟨k + 1, by omega, by go_num, fun x hx => by
          rw [List.take_add_one, HZ.out] at hx
          rcases List.mem_append.1 hx with hx | hx
          · exact HN.out x hx
          · rw [show x = z by simpa using hx]; exact HP.out⟩
        case measure => simp [intOf]; omega
    · obtain rfl : k = zs.length := by omega
      have e : smallOk zs = tableOk zs := by
        have h := HN.out
        rw [List.take_of_length_le (Nat.le_refl _)] at h
        rw [Bool.eq_iff_iff, small_iff, tableOk, listOk_iff]
        constructor
        · rintro ⟨a, b, c⟩; exact ⟨a, b, fun x hx => by have := c x hx; omega⟩
        · rintro ⟨a, b, _⟩
          exact ⟨a, b, fun x hx => of_decide_eq_true (h x hx)⟩
      have HE := hidH e
      clear e
      go_wp2_with fail
      refine (sTableValid_any _ zs _ _ _ HV.out).mono ?_; rintro e w' ⟨rfl, rfl⟩
      go_wp2_with fail
      go_ret
      exact ⟨by rw [HE.out]; rfl, Below.refl _ _⟩
/-- The polynomial of a run; nothing if there is none. -/
def runA (zs : List Int) (d : Int) : List Int := if leastL zs ≤ d then interA zs else []
theorem runA_len (zs : List Int) (d : Int) : (runA zs d).length ≤ 1048576 := by unfold runA; split <;> first | exact interA_len _ | simp
theorem sRun_any (v : Value) (zs : List Int) (d : Int) (w : World) (lo hi : Nat) (hv : Lies w lo hi v zs) : Calls Try.prog 54 #[v, .int .i64 d] w (NewRowB (runA zs d) (runB zs d) w) := by
  have HV := hidH hv
  have HL := hidH (least_ge zs)
  clear hv
  by_cases hd : leastL zs ≤ d
  · have HRA := hidH (show runA zs d = interA zs from if_pos hd)
    have HRB := hidH (show runB zs d = interB zs by rw [runB, decide_eq_true hd, Bool.true_and])
    rw [HRA.out, HRB.out]
    go_enter Try.func54, Try.ntmps54
    go_wp2_with fail
    refine (sLeast_any v zs _ _ _ HV.out).mono ?_; rintro e w1 ⟨rfl, hb⟩
    have HB := hidH hb
    have HV1 := hidH (HV.out.below hb)
    clear hb
    have ⟨hg1, hg2, _, _⟩ := HL.out
    generalize leastL zs = l at *
    go_wp2_with fail
    refine (sInter_any v zs _ _ _ HV1.out).mono ?_; rintro e w2 ⟨u, rfl, hr, hb⟩
    have HR := hidH hr
    have HB2 := hidH (HB.out.trans (hb.mono HB.out.size))
    have hsz := HB.out.size
    clear hr hb
    generalize interB zs = r at *
    go_wp2_with fail
    go_ret2
    exact ⟨_, rfl, HR.out.mono hsz (Nat.le_refl _), HB2.out⟩
  · have HRA := hidH (show runA zs d = [] from if_neg hd)
    have HRB := hidH (show runB zs d = false by rw [runB, decide_eq_false hd, Bool.false_and])
    rw [HRA.out, HRB.out]
    go_enter Try.func54, Try.ntmps54
    go_wp2_with fail
    refine (sLeast_any v zs _ _ _ HV.out).mono ?_; rintro e w1 ⟨rfl, hb⟩
    have HB := hidH hb
    clear hb
    have ⟨hg1, hg2, _, _⟩ := HL.out
    generalize leastL zs = l at *
    go_wp2_with fail
    go_ret2
    exact ⟨_, rfl, Row.nil _ _ _ _ _ (Nat.zero_le _) (fun _ => rfl), HB.out.trans (((Below.refl _ _).alloc (Nat.le_refl _) _).mono HB.out.size)⟩
set_option maxHeartbeats 800000 in
theorem sLong_any (b off cap : Nat) (zs : List Int) (d : Nat) (w : World) (lo hi : Nat) (hv : Lies w lo hi (.slice (some ⟨b, off, none⟩) zs.length cap) zs) (hlc : zs.length ≤ cap) (hcm : cap ≤ 9223372036854775807) (hs : ∀ k, 1 ≤ k → k ≤ zs.length → runB (zs.take k) d = decide (k ≤ longN (d + 1) zs)) : Calls Try.prog 53 #[.slice (some ⟨b, off, none⟩) zs.length cap, .int .i64 d] w (Gives (.int .i64 (longN (d + 1) zs : Nat)) w) := by
  have HV := hidH hv
  have HS := hidH hs
  have hle := longN_le (d + 1) zs
  clear hv hs
  go_enter Try.func53, Try.ntmps53
  go_wp2_with fail
  go_loopw [5] (fun i wr => ∃ k : Nat, k ≤ zs.length ∧ k ≤ longN (d + 1) zs ∧ i = .int .i64 k ∧ Below w.heap.size w wr) (fun i _ => zs.length - (intOf i).toNat)
  case atStart => exact ⟨0, Nat.zero_le _, Nat.zero_le _, rfl, Below.refl _ _⟩
  case round =>
    obtain ⟨k, hk, hkl, rfl, hb⟩ := hrel
    have HB := hidH hb
    clear hb
    by_cases hlt : k < zs.length
    · have HC := hidH (sRun_any (.slice (some ⟨b, off, none⟩) (k + 1) cap) (zs.take (k + 1)) d wr lo hi ((HV.out.below HB.out).taken (k + 1) (by omega)))
      rw [HS.out (k + 1) (by omega) (by omega)] at HC
      have hkc : ((k + 1 : Nat) : Int) = (k : Int) + 1 := by omega
      have hkd : k + 1 ≤ cap := by omega
      by_cases hq : k + 1 ≤ longN (d + 1) zs
      · rw [decide_eq_true hq] at HC
        generalize longN (d + 1) zs = L at *
        go_wp2_with fail
        refine HC.out.mono ?_; rintro e w2 ⟨u, rfl, hr, hb⟩
        have HB2 := hidH (HB.out.trans (hb.mono HB.out.size))
        clear hr hb
        go_wp2_with fail
        go_roundw
        case rel => exact ⟨k + 1, by omega, by omega, by go_num, HB2.out⟩
        case measure => simp [intOf]; omega
      · rw [decide_eq_false hq] at HC
        obtain hkL : longN (d + 1) zs = k := by omega
        rw [hkL]
        clear hkL hq
        generalize longN (d + 1) zs = L at *
        go_wp2_with fail
        refine HC.out.mono ?_; rintro e w2 ⟨u, rfl, hr, hb⟩
        have HB2 := hidH (HB.out.trans (hb.mono HB.out.size))
        clear hr hb
        go_wp2_with fail
        go_ret
        exact ⟨rfl, HB2.out⟩
    · obtain rfl : k = zs.length := by omega
      have hLz : longN (d + 1) zs = zs.length := by omega
      have HLZ := hidH hLz
      clear hLz hkl hle
      go_wp2_with fail
      go_ret
      exact ⟨by rw [HLZ.out]; rfl, HB.out⟩
end Go.Proofs.Ytpkieconbfgbdaa
namespace Go.Proofs.Ytpkieconbfgbdaa
set_option maxRecDepth 4000
open Go.RowKit
/-- A place in a table, its end among them. -/
def fromOk (zs : List Int) (n : Int) : Bool := decide (0 ≤ n ∧ n ≤ (zs.length : Int))
/-- What LongestRun answers. -/
def runAns (zs : List Int) (n d : Int) : Int := if smallOk zs && (degOk d && fromOk zs n) then (longN (d.toNat + 1) (zs.drop n.toNat) : Nat) else -1
end Go.Proofs.Ytpkieconbfgbdaa
