/-
  The laws' own functions on slices of numbers: a copy, equality, marks and whether they still stand. Condition: slices of at most 1048576 numbers.
-/
import Derived.Test.YtliakbgigkajnaaDoorSl
import Derived.BigQuiet
namespace Go.Proofs.YtliakbgigkajnaaDoor
set_option maxRecDepth 4000
open Go.RowKit
theorem infoInt : (Tryd.prog.info? 3).map (fun i => (i.zero, i.size, i.bytes)) = some (some (.int .i64 0), 1, 8) := by kernel_rfl
/-- A call that answers a new row of numbers and a truth. -/
def NewRowB (zs : List Int) (b : Bool) (w : World) (e : Ending) (w' : World) : Prop := ∃ v, e = .returned (.tuple #[v, .bool b]) ∧ Row w' w.heap.size w'.heap.size v zs ∧ Below w.heap.size w w'
/-- A call that answers a new row of numbers. -/
def NewRow (zs : List Int) (w : World) (e : Ending) (w' : World) : Prop := ∃ v, e = .returned v ∧ Row w' w.heap.size w'.heap.size v zs ∧ Below w.heap.size w w'
/-- The numbers from k on, n of them. -/
def upFrom (k : Int) (n : Nat) : List Int := (List.range n).map fun (i : Nat) => k + i
theorem upFrom_length (k : Int) (n : Nat) : (upFrom k n).length = n := by simp [upFrom]
theorem upFrom_get (k : Int) (n i : Nat) (h : i < n) : (upFrom k n)[i]? = some (k + i) := by simp [upFrom, h]
theorem eqInts_yes (v u : Value) (zs : List Int) (w : World) (l1 h1 l2 h2 : Nat) (hv : Lies w l1 h1 v zs) (hu : Lies w l2 h2 u zs) : Calls Tryd.prog 18 #[v, u] w (Gives (.bool true) w) := by
  obtain ⟨a, cap, rfl, hlc, hcm, hnil, hcell⟩ := hv
  obtain ⟨a2, cap2, rfl, hlc2, hcm2, hnil2, hcell2⟩ := hu
  unfold maxLen at hcm hcm2
  have HC := hidH hcell
  have HC2 := hidH hcell2
  clear hcell hnil hcell2 hnil2
  go_enter Tryd.func18, Tryd.ntmps18
  go_wp2
  go_loopw [5] (fun i wr => ∃ k : Nat, k ≤ zs.length ∧ i = .int .i64 k ∧ Below w.heap.size w wr) (fun i _ => zs.length - (intOf i).toNat)
  case atStart => exact ⟨0, Nat.zero_le _, rfl, Below.refl _ _⟩
  case round =>
    obtain ⟨k, hk, rfl, hb⟩ := hrel
    have Hb := hidH hb
    clear hb
    by_cases hlt : k < zs.length
    · obtain ⟨z, hz⟩ := get_lt zs k hlt
      obtain ⟨b, off, rfl, _, _, hc⟩ := HC.out k z hz
      obtain ⟨b2, off2, rfl, _, _, hc2⟩ := HC2.out k z hz
      have hcw : wr.cell? ⟨b, off + k, none⟩ = some (.int .i64 z) := by rw [Hb.out.cell (p := ⟨b, off + k, none⟩) (cell_blk _ _ _ hc)]; exact hc
      have hcw2 : wr.cell? ⟨b2, off2 + k, none⟩ = some (.int .i64 z) := by rw [Hb.out.cell (p := ⟨b2, off2 + k, none⟩) (cell_blk _ _ _ hc2)]; exact hc2
      clear hz hc hc2
      go_wp2
      go_quiet (fail)
      go_wp2
      go_roundw
      case rel => exact ⟨k + 1, by omega, by go_num, below_drewN Hb.out _⟩
      case measure => simp [intOf]; omega
    · obtain rfl : k = zs.length := by omega
      go_wp2
      go_ret
      exact ⟨rfl, Hb.out⟩
/-- A call that marks a row from k on. -/
def Marks (v : Value) (lo hi n : Nat) (k : Int) (w : World) (e : Ending) (w' : World) : Prop := e = .returned (.int .i64 (k + n)) ∧ Row w' lo hi v (upFrom k n) ∧ Apart lo hi w w'
/-- The first numbers of a list replaced. -/
def over (T zs : List Int) (k : Nat) : List Int := T.take k ++ zs.drop k
theorem over_set (T zs : List Int) (k : Nat) (x : Int) (hl : T.length = zs.length) (h : T[k]? = some x) : (over T zs k).set k x = over T zs (k + 1) := by
  have hk := (List.getElem?_eq_some_iff.1 h).1
  have hl2 : (T.take k).length = k := by simp; omega
  unfold over
  rw [List.set_append_right _ _ (by omega), hl2, Nat.sub_self, List.drop_eq_getElem_cons (by omega), List.set_cons_zero, List.take_add_one, h]
  simp
theorem over_get (T zs : List Int) (k : Nat) (hl : T.length = zs.length) (h : k < zs.length) : (over T zs k)[k]? = zs[k]? := by
  unfold over
  rw [List.getElem?_append_right (by simp; omega), List.length_take, Nat.min_eq_left (by omega), Nat.sub_self, List.getElem?_drop, Nat.add_zero]
theorem over_all (T zs : List Int) (hl : T.length = zs.length) : over T zs zs.length = T := by
  unfold over
  rw [List.drop_length, List.append_nil, List.take_of_length_le (by omega)]
theorem over_zero (T zs : List Int) : over T zs 0 = zs := by simp [over]
theorem over_at (T zs : List Int) (k : Nat) (hl : T.length = zs.length) (h : k < zs.length) : ∃ x, (over T zs k)[k]? = some x := ⟨zs[k], by
  unfold over
  rw [List.getElem?_append_right (by simp; omega), List.length_take, Nat.min_eq_left (by omega), Nat.sub_self, List.getElem?_drop, Nat.add_zero, List.getElem?_eq_getElem h]⟩
theorem mark_any (v : Value) (zs : List Int) (k0 : Int) (w : World) (lo hi : Nat) (hv : Row w lo hi v zs) (hk1 : 0 ≤ k0) (hk0 : k0 ≤ 4194304) (hn : zs.length ≤ 1048576) : Calls Tryd.prog 20 #[v, .int .i64 k0] w (Marks v lo hi zs.length k0 w) := by
  by_cases h0 : zs.length = 0
  · obtain ⟨a, cap, rfl, hlc, hcm, hnil, hcell⟩ := hv
    obtain rfl : zs = [] := List.eq_nil_of_length_eq_zero h0
    unfold maxLen at hcm
    have HN := hidH hnil
    clear hnil hcell
    go_enter Tryd.func20, Tryd.ntmps20
    go_wp2
    go_loopw [1, 5] (fun m i wr => i = .int .i64 0 ∧ m = .int .i64 k0 ∧ w = wr) (fun _ _ _ => 0)
    case atStart => exact ⟨rfl, rfl, rfl⟩
    case round =>
      obtain ⟨rfl, rfl, rfl⟩ := hrel
      go_wp2
      go_ret
      exact ⟨by simp, ⟨a, cap, rfl, Nat.zero_le _, by unfold maxLen; omega, HN.out, fun j z hj => by simp [upFrom] at hj⟩, Apart.of_below (Below.refl _ _)⟩
  · obtain ⟨b, cap, rfl, hlc, hcm, hlo, hhi, hB⟩ := hv.blk (by omega)
    have hT : (upFrom k0 zs.length).length = zs.length := upFrom_length _ _
    have HT := hidH hT
    have HB0 := hidH hB
    clear hB hT hv
    unfold maxLen at hcm
    go_enter Tryd.func20, Tryd.ntmps20
    go_wp2
    go_loopw [1, 5] (fun m i wr => ∃ k : Nat, k ≤ zs.length ∧ i = .int .i64 k ∧ m = .int .i64 (k0 + k) ∧ Blk wr b (over (upFrom k0 zs.length) zs k) ∧ Apart lo hi w wr) (fun _ i _ => zs.length - (intOf i).toNat)
    case atStart => exact ⟨0, Nat.zero_le _, rfl, by simp, HB0.out, Apart.of_below (Below.refl _ _)⟩
    case round =>
      obtain ⟨k, hk, rfl, rfl, hB, ha⟩ := hrel
      have HB := hidH hB
      have HA := hidH ha
      clear hB ha
      by_cases hlt : k < zs.length
      · obtain ⟨x, hx⟩ := over_at (upFrom k0 zs.length) zs k HT.out hlt
        obtain ⟨ho, hf⟩ := HB.out.2 k x hx
        clear hx
        go_wp2
        go_roundw
        case rel => exact ⟨k + 1, by omega, by go_num, by go_num, by rw [← over_set _ _ k _ HT.out (upFrom_get _ _ k hlt)]; exact (HB.out.set k _), HA.out.trans (Apart.of_onto (Onto.setCell b k _ _) hlo hhi)⟩
        case measure => simp [intOf]; omega
      · obtain rfl : k = zs.length := by omega
        go_wp2
        go_ret
        have hB := HB.out
        rw [over, List.drop_length, List.append_nil, List.take_of_length_le (by rw [HT.out]; exact Nat.le_refl _)] at hB
        exact ⟨rfl, hB.row hlo hhi (by rw [upFrom_length]; exact hlc) (by unfold maxLen; omega) (upFrom_length _ _).symm, HA.out⟩
theorem held_any (v : Value) (k0 : Int) (n : Nat) (w : World) (lo hi : Nat) (hv : Lies w lo hi v (upFrom k0 n)) (hk1 : 0 ≤ k0) (hk0 : k0 ≤ 4194304) (hn : n ≤ 1048576) : Calls Tryd.prog 21 #[v, .int .i64 k0] w (Gives (.int .i64 (k0 + n)) w) := by
  obtain ⟨a, cap, rfl, hlc, hcm, hnil, hcell⟩ := hv
  rw [upFrom_length] at hlc ⊢
  unfold maxLen at hcm
  have HC := hidH hcell
  clear hcell hnil
  go_enter Tryd.func21, Tryd.ntmps21
  go_wp2
  go_loopw [1, 5] (fun m i wr => ∃ k : Nat, k ≤ n ∧ i = .int .i64 k ∧ m = .int .i64 (k0 + k) ∧ Below w.heap.size w wr) (fun _ i _ => n - (intOf i).toNat)
  case atStart => exact ⟨0, Nat.zero_le _, rfl, by simp, Below.refl _ _⟩
  case round =>
    obtain ⟨k, hk, rfl, rfl, hb⟩ := hrel
    have Hb := hidH hb
    clear hb
    by_cases hlt : k < n
    · obtain ⟨b, off, rfl, _, _, hc⟩ := HC.out k _ (upFrom_get _ _ k hlt)
      have hcw : wr.cell? ⟨b, off + k, none⟩ = some (.int .i64 (k0 + k)) := by rw [Hb.out.cell (p := ⟨b, off + k, none⟩) (cell_blk _ _ _ hc)]; exact hc
      clear hc
      go_wp2
      go_roundw
      case rel => exact ⟨k + 1, by omega, by go_num, by go_num, Hb.out⟩
      case measure => simp [intOf]; omega
    · obtain rfl : k = n := by omega
      go_wp2
      go_ret
      exact ⟨rfl, Hb.out⟩
end Go.Proofs.YtliakbgigkajnaaDoor
