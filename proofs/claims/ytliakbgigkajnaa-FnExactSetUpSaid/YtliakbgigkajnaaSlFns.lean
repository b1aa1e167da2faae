/-
  The laws' own functions on slices of numbers: a copy, equality, marks and whether they still stand. Condition: slices of at most 1048576 numbers.
-/
import Derived.Test.YtliakbgigkajnaaSl
import Derived.BigQuiet
namespace Go.Proofs.Ytliakbgigkajnaa
set_option maxRecDepth 4000
open Go.RowKit
theorem infoInt : (Try.prog.info? 3).map (fun i => (i.zero, i.size, i.bytes)) = some (some (.int .i64 0), 1, 8) := by kernel_rfl
/-- A call that answers a new row of numbers and a truth. -/
def NewRowB (zs : List Int) (b : Bool) (w : World) (e : Ending) (w' : World) : Prop := ∃ v, e = .returned (.tuple #[v, .bool b]) ∧ Row w' w.heap.size w'.heap.size v zs ∧ Below w.heap.size w w'
/-- A call that answers a new row of numbers. -/
def NewRow (zs : List Int) (w : World) (e : Ending) (w' : World) : Prop := ∃ v, e = .returned v ∧ Row w' w.heap.size w'.heap.size v zs ∧ Below w.heap.size w w'
theorem toInts_any (v : Value) (zs : List Int) (w : World) (hz : Lies w 0 w.heap.size v zs) (hn : zs.length ≤ 1048576) : Calls Try.prog 6 #[v] w (NewRow zs w) := by
  obtain ⟨a, cap, rfl, hlc, hcm, hnil, hcell⟩ := hz
  unfold maxLen at hcm
  have HC := hidH hcell
  have HN := hidH hnil
  clear hcell hnil
  have HM := hidH (Blk.made w 3 zs.length)
  have hmk := run_make_row' (P := Try.prog) 22 3 (.int .i64 0) 8 Try.underlying22 infoInt rfl .i64 .i64 zs.length (by omega) (by omega) w
  go_enter Try.func6, Try.ntmps6
  go_wp2
  go_loopw [4] (fun i wr => ∃ k : Nat, k ≤ zs.length ∧ i = .int .i64 k ∧ Blk wr w.heap.size (fill zs k) ∧ Below w.heap.size w wr) (fun i _ => zs.length - (intOf i).toNat)
  case atStart => exact ⟨0, Nat.zero_le _, rfl, by rw [fill_zero]; exact HM.out, (Below.refl _ _).alloc (Nat.le_refl _) _⟩
  case round =>
    obtain ⟨k, hk, rfl, hB, hb⟩ := hrel
    have HB := hidH hB
    have Hb := hidH hb
    clear hB hb
    by_cases hlt : k < zs.length
    · obtain ⟨z, hz⟩ := get_lt zs k hlt
      obtain ⟨b, off, rfl, _, hbl, hc⟩ := HC.out k z hz
      have hcw : wr.cell? ⟨b, off + k, none⟩ = some (.int .i64 z) := by rw [Hb.out.cell (p := ⟨b, off + k, none⟩) hbl]; exact hc
      obtain ⟨ho, hf⟩ := HB.out.2 k 0 (fill_at zs k hlt)
      have HZ := hidH hz
      clear hz hc
      go_wp2
      go_roundw
      case rel => exact ⟨k + 1, by omega, by go_num, by rw [← fill_set zs k z HZ.out]; exact HB.out.set k z, Hb.out.setCell (Nat.le_refl _) _⟩
      case measure => simp [intOf]; omega
    · obtain rfl : k = zs.length := by omega
      go_wp2
      go_ret
      have hB := HB.out
      rw [fill_all] at hB
      exact ⟨_, rfl, hB.row (Nat.le_refl _) hB.1 (Nat.le_refl _) (by unfold maxLen; omega) rfl, Hb.out⟩
/-- The numbers from k on, n of them. -/
def upFrom (k : Int) (n : Nat) : List Int := (List.range n).map fun (i : Nat) => k + i
theorem upFrom_length (k : Int) (n : Nat) : (upFrom k n).length = n := by simp [upFrom]
theorem upFrom_get (k : Int) (n i : Nat) (h : i < n) : (upFrom k n)[i]? = some (k + i) := by simp [upFrom, h]
theorem eqInts_yes (v u : Value) (zs : List Int) (w : World) (l1 h1 l2 h2 : Nat) (hv : Lies w l1 h1 v zs) (hu : Lies w l2 h2 u zs) : Calls Try.prog 9 #[v, u] w (Gives (.bool true) w) := by
  obtain ⟨a, cap, rfl, hlc, hcm, hnil, hcell⟩ := hv
  obtain ⟨a2, cap2, rfl, hlc2, hcm2, hnil2, hcell2⟩ := hu
  unfold maxLen at hcm hcm2
  have HC := hidH hcell
  have HC2 := hidH hcell2
  clear hcell hnil hcell2 hnil2
  go_enter Try.func9, Try.ntmps9
  go_wp2
  go_loopw [5] (fun i wr => ∃ k : Nat, k ≤ zs.length ∧ i = .int .i64 k ∧ Below w.heap.size w wr) (fun i _ => zs.length - (intOf i).toNat)
  case atStart => exact ⟨0, Nat.zero_le _, rfl, Below.refl _ _⟩
  case round =>
    obtain ⟨k, hk, rfl, hb⟩ := hrel
    have Hb := hidH hb
    clear hb
    by_cases hlt : k < zs.length
    · obtain ⟨z, hz⟩ := get_lt zs k hlt
      obtain ⟨b, off, rfl, _, _, hc⟩ := HC.out k z hz
      obtain ⟨b2, off2, rfl, _, _, hc2⟩ := HC2.out k z hz
      have hcw : wr.cell? ⟨b, off + k, none⟩ = some (.int .i64 z) := by rw [Hb.out.cell (p := ⟨b, off + k, none⟩) (cell_blk _ _ _ hc)]; exact hc
      have hcw2 : wr.cell? ⟨b2, off2 + k, none⟩ = some (.int .i64 z) := by rw [Hb.out.cell (p := ⟨b2, off2 + k, none⟩) (cell_blk _ _ _ hc2)]; exact hc2
      clear hz hc hc2
      go_wp2
      go_quiet (fail)
      go_wp2
      go_roundw
      case rel => exact ⟨k + 1, by omega, by go_num, below_drewN Hb.out _⟩
      case measure => simp [intOf]; omega
    · obtain rfl : k = zs.length := by omega
      go_wp2
      go_ret
      exact ⟨rfl, Hb.out⟩
/-- A call that marks a row from k on. -/
def Marks (v : Value) (lo hi n : Nat) (k : Int) (w : World) (e : Ending) (w' : World) : Prop := e = .returned (.int .i64 (k + n)) ∧ Row w' lo hi v (upFrom k n) ∧ Apart lo hi w w'
/-- The first numbers of a list replaced. -/
def over (T zs : List Int) (k : Nat) : List Int := T.take k ++ zs.drop k
theorem over_set (T zs : List Int) (k : Nat) (x : Int) (hl : T.length = zs.length) (h : T[k]? = some x) : (over T zs k).set k x = over T zs (k + 1) := by
  have hk := (List.getElem?_eq_some_iff.1 h).1
  have hl2 : (T.take k).length = k := by simp; omega
  unfold over
  rw [List.set_append_right _ _ (by omega), hl2, Nat.sub_self, List.drop_eq_getElem_cons (by omega), List.set_cons_zero, List.take_add_one, h]
  simp
theorem over_get (T zs : List Int) (k : Nat) (hl : T.length = zs.length) (h : k < zs.length) : (over T zs k)[k]? = zs[k]? := by
  unfold over
  rw [List.getElem?_append_right (by simp; omega), List.length_take, Nat.min_eq_left (by omega), Nat.sub_self, List.getElem?_drop, Nat.add_zero]
theorem over_all (T zs : List Int) (hl : T.length = zs.length) : over T zs zs.length = T := by
  unfold over
  rw [List.drop_length, List.append_nil, List.take_of_length_le (by omega)]
theorem over_zero (T zs : List Int) : over T zs 0 = zs := by simp [over]
theorem over_at (T zs : List Int) (k : Nat) (hl : T.length = zs.length) (h : k < zs.length) : ∃ x, (over T zs k)[k]? = some x := ⟨zs[k], by
  unfold over
  rw [List.getElem?_append_right (by simp; omega), List.length_take, Nat.min_eq_left (by omega), Nat.sub_self, List.getElem?_drop, Nat.add_zero, List.getElem?_eq_getElem h]⟩
theorem mark_any (v : Value) (zs : List Int) (k0 : Int) (w : World) (lo hi : Nat) (hv : Row w lo hi v zs) (hk1 : 0 ≤ k0) (hk0 : k0 ≤ 4194304) (hn : zs.length ≤ 1048576) : Calls Try.prog 10 #[v, .int .i64 k0] w (Marks v lo hi zs.length k0 w) := by
  by_cases h0 : zs.length = 0
  · obtain ⟨a, cap, rfl, hlc, hcm, hnil, hcell⟩ := hv
    obtain rfl : zs = [] := List.eq_nil_of_length_eq_zero h0
    unfold maxLen at hcm
    have HN := hidH hnil
    clear hnil hcell
    go_enter Try.func10, Try.ntmps10
    go_wp2
    go_loopw [1, 5] (fun m i wr => i = .int .i64 0 ∧ m = .int .i64 k0 ∧ w = wr) (fun _ _ _ => 0)
    case atStart => exact ⟨rfl, rfl, rfl⟩
    case round =>
      obtain ⟨rfl, rfl, rfl⟩ := hrel
      go_wp2
      go_ret
      exact ⟨by simp, ⟨a, cap, rfl, Nat.zero_le _, by unfold maxLen; omega, HN.out, fun j z hj => by simp [upFrom] at hj⟩, Apart.of_below (Below.refl _ _)⟩
  · obtain ⟨b, cap, rfl, hlc, hcm, hlo, hhi, hB⟩ := hv.blk (by omega)
    have hT : (upFrom k0 zs.length).length = zs.length := upFrom_length _ _
    have HT := hidH hT
    have HB0 := hidH hB
    clear hB hT hv
    unfold maxLen at hcm
    go_enter Try.func10, Try.ntmps10
    go_wp2
    go_loopw [1, 5] (fun m i wr => ∃ k : Nat, k ≤ zs.length ∧ i = .int .i64 k ∧ m = .int .i64 (k0 + k) ∧ Blk wr b (over (upFrom k0 zs.length) zs k) ∧ Apart lo hi w wr) (fun _ i _ => zs.length - (intOf i).toNat)
    case atStart => exact ⟨0, Nat.zero_le _, rfl, by simp, HB0.out, Apart.of_below (Below.refl _ _)⟩
    case round =>
      obtain ⟨k, hk, rfl, rfl, hB, ha⟩ := hrel
      have HB := hidH hB
      have HA := hidH ha
      clear hB ha
      by_cases hlt : k < zs.length
      · obtain ⟨x, hx⟩ := over_at (upFrom k0 zs.length) zs k HT.out hlt
        obtain ⟨ho, hf⟩ := HB.out.2 k x hx
        clear hx
        go_wp2
        go_roundw
        case rel => exact ⟨k + 1, by omega, by go_num, by go_num, by rw [← over_set _ _ k _ HT.out (upFrom_get _ _ k hlt)]; exact (HB.out.set k _), HA.out.trans (Apart.of_onto (Onto.setCell b k _ _) hlo hhi)⟩
        case measure => simp [intOf]; omega
      · obtain rfl : k = zs.length := by omega
        go_wp2
        go_ret
        have hB := HB.out
        rw [over, List.drop_length, List.append_nil, List.take_of_length_le (by rw [HT.out]; exact Nat.le_refl _)] at hB
        exact ⟨rfl, hB.row hlo hhi (by rw [upFrom_length]; exact hlc) (by unfold maxLen; omega) (upFrom_length _ _).symm, HA.out⟩
end Go.Proofs.Ytliakbgigkajnaa
