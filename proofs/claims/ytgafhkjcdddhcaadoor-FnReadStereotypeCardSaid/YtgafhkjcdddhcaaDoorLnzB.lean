/-
  A plate is read: mathematics and the program. Condition: at most 1048576 texts that fit in memory.
-/
import Derived.Test.YtgafhkjcdddhcaaDoorLnzA
import Derived.Test.YtgafhkjcdddhcaaDoorShTrr
import Derived.Shelf.Strings.Trim
namespace Go.Proofs.YtgafhkjcdddhcaaDoor
set_option maxRecDepth 4000
open Go.RowKit Go.Shelf
/-- A line off its mirrored text: the spaces at its end left out. -/
def unL (l : List UInt8) : List UInt8 := Lib.trimRightB l 32
def unB (s : ByteArray) : ByteArray := ⟨(unL s.data.toList.reverse).toArray⟩
theorem unL_nil : unL [] = [] := rfl
theorem unL_sp (l : List UInt8) : unL (l ++ [32]) = unL l := by
  unfold unL Lib.trimRightB
  rw [List.reverse_append]
  rfl
theorem unL_no (l : List UInt8) (c : UInt8) (h : c ≠ 32) : unL (l ++ [c]) = l ++ [c] := by
  unfold unL Lib.trimRightB
  rw [List.reverse_append]
  show ((c :: l.reverse).dropWhile (· == 32)).reverse = _
  rw [List.dropWhile_cons_of_neg (by simpa using h)]
  simp
theorem unL_length (l : List UInt8) : (unL l).length ≤ l.length := by
  unfold unL Lib.trimRightB
  rw [List.length_reverse]
  have := (List.dropWhile_sublist (l := l.reverse) (fun x => x == (32 : UInt8))).length_le
  rw [List.length_reverse] at this
  exact this
theorem unB_size (s : ByteArray) : (unB s).size ≤ s.size := by
  show (unL s.data.toList.reverse).toArray.size ≤ s.size
  have := unL_length s.data.toList.reverse
  simp at this ⊢
  exact this
/-- The lines of a plate. -/
def unP (ps : List ByteArray) : List ByteArray := ps.map unB
/-- The plate of those lines is the plate. -/
def rdOk (ps : List ByteArray) : Bool := decide (plaL (unP ps) = ps)
theorem rdOk_bad (ps : List ByteArray) (h : linesOk (unP ps) = false) : rdOk ps = false := by
  refine decide_eq_false fun e => ?_
  have hp : plaL (unP ps) = [] := by rw [plaL, h]; rfl
  rw [hp] at e
  subst e
  cases h
def rdL (ps : List ByteArray) : List ByteArray := if rdOk ps = true then unP ps else []
theorem trim_any (s : ByteArray) (hs : s.size ≤ 9223372036854775807) (w : World) : Calls Tryd.prog 58 #[.string (revB s), .string ⟨#[32]⟩] w fun e w' => e = .returned (.string (unB s)) ∧ w' = w := by
  have h := Any.strings_TrimRight_one lays162 (revB s) 32 (by decide) w (by rw [revB_size]; exact hs)
  change Calls Tryd.prog 58 _ _ _ at h
  exact h
/-- A call that answers a new row of texts and a truth. -/
def NewTextsB (zs : List ByteArray) (b : Bool) (w : World) (e : Ending) (w' : World) : Prop := ∃ v, e = .returned (.tuple #[v, .bool b]) ∧ RowS w' w.heap.size w'.heap.size v zs ∧ Below w.heap.size w w'
set_option maxHeartbeats 1600000 in
theorem readSt_any (v : Value) (cs : List ByteArray) (w : World) (lo hi : Nat) (hv : LiesS w lo hi v cs) (hm : ∀ c ∈ cs, c.size ≤ 9223372036854775807) (hn : cs.length ≤ 1048576) : Calls Tryd.prog 27 #[v] w (NewTextsB (rdL cs) (rdOk cs) w) := by
  have HV := hidH hv
  obtain ⟨a, cap, rfl, hlc, hcm, hnil, hcell⟩ := hv
  unfold maxLen at hcm
  have HC := hidH hcell
  have HMM := hidH hm
  clear hcell hnil hm
  have hmk := run_make_row' (P := Tryd.prog) 30 9 (.string ⟨#[]⟩) 16 Tryd.underlying30 infoText rfl .i64 .i64 cs.length (by omega) (by omega) w
  have HM := hidH (BlkS.made w 9 cs.length)
  have hFl : (unP cs).length = cs.length := List.length_map _
  have HF := hidH hFl
  have HFG := hidH (fun k s (h : cs[k]? = some s) => show (unP cs)[k]? = some (unB s) by unfold unP; rw [List.getElem?_map, h]; rfl)
  have HFM := hidH (show ∀ c ∈ unP cs, c.size ≤ 9223372036854775807 from fun c hc => by
    obtain ⟨s, hs, rfl⟩ := List.mem_map.1 hc
    exact Nat.le_trans (unB_size s) (HMM.out s hs))
  have HOK := hidH (show rdOk cs = decide (plaL (unP cs) = cs) from rfl)
  have HRL := hidH (show rdL cs = if rdOk cs = true then unP cs else [] from rfl)
  generalize unP cs = F at *
  have HM : Hid (BlkS (w.alloc (.cells (madeCells #[Value.string ⟨#[]⟩] cs.length) 9)) w.heap.size (List.replicate F.length ⟨#[]⟩)) := by rw [hFl]; exact HM
  clear hFl
  have B2 := hidH (bMore (Below.refl w.heap.size w) (.cells (madeCells #[Value.string ⟨#[]⟩] cs.length) 9))
  go_enter Tryd.func27, Tryd.ntmps27
  go_wp2_with fail
  go_loopw [12] (fun i w2 => ∃ k : Nat, k ≤ cs.length ∧ i = .int .i64 k ∧ BlkS w2 w.heap.size (fillS F k) ∧ Below w.heap.size w w2) (fun i _ => cs.length - (intOf i).toNat)
  case atStart => exact ⟨0, Nat.zero_le _, rfl, by rw [fill_zeroS]; exact HM.out, B2.out⟩
  case round =>
    obtain ⟨k, hk, rfl, hB, hb⟩ := hrel
    have HB := hidH hB
    have Hb := hidH hb
    clear hB hb
    by_cases hlt : k < cs.length
    · obtain ⟨s, hs⟩ := get_lt cs k hlt
      obtain ⟨b, off, rfl, _, _, hc0⟩ := HC.out k s hs
      have hc := (Hb.out.cell (p := ⟨b, off + k, none⟩) (cell_blk _ _ _ hc0)).trans hc0
      have hss := HMM.out s (List.mem_of_getElem? hs)
      have HFS := hidH (HFG.out k s hs)
      have HMR := hidH (fun W => mirrored_any s hss W)
      have HTR := hidH (fun W => trim_any s hss W)
      clear hs hc0
      go_wp2_with fail
      refine (HMR.out _).mono ?_; rintro e w3 ⟨rfl, hb⟩
      have HB3 := hidH (HB.out.below hb)
      have Hb3 := hidH (bThen Hb.out hb)
      clear hb HB Hb
      go_wp2_with fail
      refine (HTR.out _).mono ?_; rintro e w4 ⟨rfl, hww⟩
      rw [hww]
      clear hww
      obtain ⟨ho, hf⟩ := HB3.out.2 k ⟨#[]⟩ (fill_atS F k (by rw [HF.out]; exact hlt))
      generalize unB s = z at *
      go_wp2_with fail
      go_roundw
      case rel => exact ⟨k + 1, by omega, by go_num, by rw [← fill_setS F k z HFS.out]; exact HB3.out.set k z, Hb3.out.setCell (Nat.le_refl _) _⟩
      case measure => simp [intOf]; omega
    · obtain rfl : k = cs.length := by omega
      have hB := HB.out
      rw [← HF.out, fill_allS] at hB
      have R1 := hidH (hB.row (lo := w.heap.size) (cap := cs.length) (Nat.le_refl _) hB.1 (Nat.le_of_eq HF.out) (by unfold maxLen; omega) HF.out.symm)
      clear hB HB
      have HST := hidH (fun W lo hi (h : LiesS W lo hi (.slice (some ⟨w.heap.size, 0, none⟩) cs.length cs.length) F) => stereo_any _ F W lo hi h HFM.out)
      go_wp2_with fail
      refine (HST.out _ _ _ R1.out.lies).mono ?_; rintro e w3 ⟨u, rfl, hr, hb⟩
      have U3 := hidH hr
      have s3 := hb.size
      have R3 := hidH (R1.out.below hb)
      have Hb3 := hidH (bThen Hb.out hb)
      clear hr hb R1 Hb
      go_wp2_with fail
      refine (sameT_any _ _ _ _ _ _ _ _ _ U3.out.lies (HV.out.below Hb3.out)).mono ?_; rintro e w4 ⟨rfl, hb⟩
      have R4 := hidH (R3.out.below hb)
      have s4 := hb.size
      have Hb4 := hidH (bThen Hb3.out hb)
      rw [← HOK.out]
      clear hb U3 R3 Hb3
      generalize hok : rdOk cs = rk at *
      cases rk
      · have HRL2 := hidH (show rdL cs = [] by rw [HRL.out]; rfl)
        go_wp2_with fail
        go_ret2
        rw [HRL2.out]
        exact ⟨_, rfl, RowS.nil _ _ _ _ _ (by unfold maxLen; omega) (fun _ => rfl), Hb4.out⟩
      · have HRL2 := hidH (show rdL cs = F by rw [HRL.out]; rfl)
        go_wp2_with fail
        go_ret2
        rw [HRL2.out]
        exact ⟨_, rfl, R4.out.mono (Nat.le_refl _) (by omega), Hb4.out⟩
end Go.Proofs.YtgafhkjcdddhcaaDoor
