/-
  Lines from their ends to their beginnings, behind spaces: the program, StereotypeOf. Condition: a slice of texts that fits in memory.
-/
import Derived.Test.YtgafhkjcdddhcaaDoorLnwB
import Derived.Test.YtgafhkjcdddhcaaDoorShRep
import Derived.Shelf.Strings.Repeat
namespace Go.Proofs.YtgafhkjcdddhcaaDoor
set_option maxRecDepth 4000
open Go.RowKit Go.Shelf
theorem extra105 : Go.Proofs.Builder.Extra Tryd.prog lays105_ren := {
  sizeBuilder := by kernel_rfl
  liesBuilder := by kernel_rfl
  t5 := Tryd.underlying5
  a5 := Tryd.isAgg5
  z5 := Tryd.sizeOf5
  v5 := Tryd.zeroValue5
  infoByte := by kernel_rfl
  cellsByte := by kernel_rfl
  sizeByte := by kernel_rfl
  neB5 := by decide }
theorem repeatL_sp (k : Nat) : Lib.repeatL (⟨#[32]⟩ : ByteArray).data.toList k = List.replicate k 32 := by
  induction k with
  | zero => rfl
  | succ k ih => rw [Lib.repeatL, ih]; rfl
theorem repeat_any (k : Nat) (hk : k ≤ 1000000) (w : World) : Calls Tryd.prog 70 #[.string ⟨#[32]⟩, .int .i64 k] w (Gives (.string (spB k)) w) := by
  have h := Any.strings_Repeat lays105 extra105 ⟨#[32]⟩ k w (by omega) (by show 1 * k ≤ _; omega)
  rw [repeatL_sp] at h
  change Calls Tryd.prog 70 _ _ _ at h
  exact h
theorem sp_rev (n : Nat) (s : ByteArray) : spB (n - s.size) ++ revB s = mirB n s := by
  apply ByteArray.ext
  rw [ByteArray.data_append]
  show (List.replicate (n - s.size) (32 : UInt8)).toArray ++ s.data.toList.reverse.toArray = (List.replicate (n - s.size) (32 : UInt8) ++ s.data.toList.reverse).toArray
  rw [List.append_toArray]
theorem padded_any (n : Nat) (s : ByteArray) (h : s.size ≤ n) (hn : n ≤ 1000000) (w : World) : Calls Tryd.prog 45 #[.int .i64 n, .string (revB s)] w (Gives (.string (mirB n s)) w) := by
  have HR := hidH (fun W => repeat_any (n - s.size) (by omega) W)
  have hk : (n : Int) - (s.size : Int) = ((n - s.size : Nat) : Int) := by omega
  have HS := hidH (sp_rev n s)
  have hz := revB_size s
  have h1 := spB_size (n - s.size)
  go_enter Tryd.func45, Tryd.ntmps45
  go_wp2_with fail
  refine (HR.out _).mono ?_; rintro e w1 ⟨rfl, hb⟩
  have HB := hidH hb
  clear hb
  go_wp2_with fail
  go_ret
  exact ⟨by rw [← HS.out]; rfl, HB.out⟩
set_option maxHeartbeats 1600000 in
theorem stereo_any (v : Value) (cs : List ByteArray) (w : World) (lo hi : Nat) (hv : LiesS w lo hi v cs) (hm : ∀ c ∈ cs, c.size ≤ 9223372036854775807) : Calls Tryd.prog 23 #[v] w (NewTexts (plaL cs) w) := by
  have HL := hidH (fun W (hb : Below w.heap.size w W) => linesValid_any v cs W lo hi (hv.below hb) hm)
  obtain ⟨a, cap, rfl, hlc, hcm, hnil, hcell⟩ := hv
  unfold maxLen at hcm
  have HC := hidH hcell
  clear hcell hnil hm
  cases hok : linesOk cs
  · have HP := hidH (show plaL cs = [] by rw [plaL, hok]; rfl)
    rw [hok] at HL
    clear hok
    go_enter Tryd.func23, Tryd.ntmps23
    go_wp2_with fail
    refine (HL.out _ (Below.refl _ _)).mono ?_; rintro e w1 ⟨rfl, hb⟩
    have B1 := hidH hb
    clear hb
    go_wp2_with fail
    go_ret
    rw [HP.out]
    exact ⟨_, rfl, RowS.nil _ _ _ _ _ (by unfold maxLen; omega) (fun _ => rfl), B1.out⟩
  · obtain ⟨h40, h100⟩ := linesOk_parts hok
    have HP := hidH (show plaL cs = cs.map (mirB (lonL cs)) by rw [plaL, hok]; rfl)
    have HLE := hidH (lonL_ge cs)
    have hlon := lonL_le cs 100 h100
    have H100 := hidH h100
    rw [hok] at HL
    clear hok h100
    go_enter Tryd.func23, Tryd.ntmps23
    go_wp2_with fail
    refine (HL.out _ (Below.refl _ _)).mono ?_; rintro e w1 ⟨rfl, hb⟩
    have B1 := hidH hb
    clear hb HL
    go_wp2_with fail
    go_loopw [3, 14] (fun m i wr => ∃ k : Nat, k ≤ cs.length ∧ i = .int .i64 k ∧ m = .int .i64 (lonL (cs.take k)) ∧ wr = w1) (fun _ i _ => cs.length - (intOf i).toNat)
    case atStart => exact ⟨0, Nat.zero_le _, rfl, rfl, rfl⟩
    case round =>
      obtain ⟨k, hk, rfl, rfl, rfl⟩ := hrel
      by_cases hlt : k < cs.length
      · obtain ⟨s, hs⟩ := get_lt cs k hlt
        obtain ⟨b, off, rfl, _, _, hc0⟩ := HC.out k s hs
        have hc := (B1.out.cell (p := ⟨b, off + k, none⟩) (cell_blk _ _ _ hc0)).trans hc0
        have HST := hidH (lonL_step cs k s hs)
        have hss := H100.out s (List.mem_of_getElem? hs)
        clear hs hc0
        go_wp2_with fail
        go_roundw
        case rel => exact ⟨k + 1, by omega, by go_num, by rw [HST.out]; go_num, by first | rfl | trivial⟩
        case measure => simp [intOf]; omega
      · obtain rfl : k = cs.length := by omega
        rw [List.take_length]
        have hmk := run_make_row' (P := Tryd.prog) 30 9 (.string ⟨#[]⟩) 16 Tryd.underlying30 infoText rfl .i64 .i64 cs.length (by omega) (by omega) wr
        have HM := hidH (BlkS.made wr 9 cs.length)
        have hFl : (cs.map (mirB (lonL cs))).length = cs.length := List.length_map _
        have HF := hidH hFl
        obtain ⟨F, hF⟩ : ∃ F, F = cs.map (mirB (lonL cs)) := ⟨_, rfl⟩
        rw [← hF] at HP HF hFl
        have HFF := hidH hF
        clear hF
        have HM : Hid (BlkS (wr.alloc (.cells (madeCells #[Value.string ⟨#[]⟩] cs.length) 9)) wr.heap.size (List.replicate F.length ⟨#[]⟩)) := by rw [hFl]; exact HM
        clear hFl
        have B2 := hidH (bMore B1.out (.cells (madeCells #[Value.string ⟨#[]⟩] cs.length) 9))
        have hb1 := B1.out.size
        have HFG := hidH (fun k s (h : cs[k]? = some s) => show F[k]? = some (mirB (lonL cs) s) by rw [HFF.out, List.getElem?_map, h]; rfl)
        go_wp2_with fail
        go_loopw [28] (fun i w2 => ∃ k : Nat, k ≤ cs.length ∧ i = .int .i64 k ∧ BlkS w2 wr.heap.size (fillS F k) ∧ Below w.heap.size w w2) (fun i _ => cs.length - (intOf i).toNat)
        case atStart => exact ⟨0, Nat.zero_le _, rfl, by rw [fill_zeroS]; exact HM.out, B2.out⟩
        case round =>
          obtain ⟨k, hk, rfl, hB, hb⟩ := hrel
          have HB := hidH hB
          have Hb := hidH hb
          clear hB hb
          by_cases hlt : k < cs.length
          · obtain ⟨s, hs⟩ := get_lt cs k hlt
            obtain ⟨b, off, rfl, _, _, hc0⟩ := HC.out k s hs
            have hc := (Hb.out.cell (p := ⟨b, off + k, none⟩) (cell_blk _ _ _ hc0)).trans hc0
            have hss := H100.out s (List.mem_of_getElem? hs)
            have hle := HLE.out s (List.mem_of_getElem? hs)
            have HFS := hidH (HFG.out k s hs)
            have HMR := hidH (fun W => mirrored_any s (by omega) W)
            have HPD := hidH (fun W => padded_any (lonL cs) s hle (by omega) W)
            clear hs hc0 hle
            go_wp2_with fail
            refine (HMR.out _).mono ?_; rintro e w3 ⟨rfl, hb⟩
            have HB3 := hidH (HB.out.below hb)
            have Hb3 := hidH (bThen Hb.out hb)
            clear hb
            go_wp2_with fail
            refine (HPD.out _).mono ?_; rintro e w4 ⟨rfl, hb⟩
            have HB4 := hidH (HB3.out.below hb)
            have Hb4 := hidH (bThen Hb3.out hb)
            clear hb HB3 Hb3 HB Hb
            obtain ⟨ho, hf⟩ := HB4.out.2 k ⟨#[]⟩ (fill_atS F k (by rw [HF.out]; exact hlt))
            generalize mirB (lonL cs) s = z at *
            go_wp2_with fail
            go_roundw
            case rel => exact ⟨k + 1, by omega, by go_num, by rw [← fill_setS F k z HFS.out]; exact HB4.out.set k z, Hb4.out.setCell hb1 _⟩
            case measure => simp [intOf]; omega
          · obtain rfl : k = cs.length := by omega
            go_wp2_with fail
            go_ret
            have hB := HB.out
            rw [← HF.out, fill_allS] at hB
            rw [HP.out]
            exact ⟨_, rfl, hB.row (cap := cs.length) hb1 hB.1 (Nat.le_of_eq HF.out) (by unfold maxLen; omega) HF.out.symm, Hb.out⟩
end Go.Proofs.YtgafhkjcdddhcaaDoor
