/-
  FormatPoly of the program and of the model: the numbers in decimal, with a space between. Conditions: the library's table of powers of ten is as its own text lays it.
-/
import Derived.Test.YtoahialihfijjaaDoorStrJoin
import Derived.Test.YtoahialihfijjaaDoorStrNum
import Derived.Test.YtoahialihfijjaaDoorStrA
import Derived.Test.YtoahialihfijjaaDoorPolyV
namespace Go.Proofs.YtoahialihfijjaaDoor
set_option maxRecDepth 4000
open Go.RowKit
/-- Numbers in decimal, with a space between. -/
def textL (zs : List Int) : List UInt8 := Lib.join (zs.map Lib.itoa) [32]
theorem textL_nil : textL [] = [] := rfl
theorem join_snoc (y sep : List UInt8) : ∀ xs : List (List UInt8), xs ≠ [] → Lib.join (xs ++ [y]) sep = Lib.join xs sep ++ sep ++ y
  | [], h => absurd rfl h
  | x :: r, _ => by
    rw [List.cons_append, Lib.join_cons, Lib.join_cons]
    simp [Lib.joinTail]
theorem textL_snoc (zs : List Int) (x : Int) (h : zs ≠ []) : textL (zs ++ [x]) = textL zs ++ [32] ++ Lib.itoa x := by
  unfold textL
  rw [List.map_append]
  exact join_snoc _ _ _ (by simpa using h)
theorem textL_one (x : Int) : textL [x] = Lib.itoa x := Lib.join_one _ _
theorem textL_len (zs : List Int) (h : ∀ x ∈ zs, -9223372036854775807 ≤ x ∧ x ≤ 9223372036854775807) : (textL zs).length ≤ 22 * zs.length := by
  have key : ∀ ys : List Int, (∀ x ∈ ys, -9223372036854775807 ≤ x ∧ x ≤ 9223372036854775807) → Lib.lens (ys.map Lib.itoa) ≤ 21 * ys.length := by
    intro ys
    induction ys with
    | nil => intro _; exact Nat.le_refl _
    | cons y ys ih =>
      intro hy
      have h1 := ih (fun x hx => hy x (List.mem_cons_of_mem _ hx))
      have h2 := hy y List.mem_cons_self
      have h3 := Lib.itoa_length_le y (by omega) (by omega)
      simp only [List.map_cons, Lib.lens, List.sum_cons, List.length_cons] at h1 ⊢
      omega
  cases zs with
  | nil => exact Nat.le_refl _
  | cons z zs =>
    unfold textL
    have hk := key _ h
    rw [List.map_cons, Lib.join_length, ← List.map_cons]
    simp only [List.length_map, List.length_cons, List.length_nil] at hk ⊢
    omega
theorem textL_take (zs : List Int) (k : Nat) (x : Int) (hx : zs[k]? = some x) : textL (zs.take (k + 1)) = textL (zs.take k) ++ (if 0 < k then [32] else []) ++ Lib.itoa x := by
  have hk := (List.getElem?_eq_some_iff.1 hx).1
  have e : zs.take (k + 1) = zs.take k ++ [x] := by rw [List.take_add_one, hx]; rfl
  rw [e]
  by_cases h0 : 0 < k
  · rw [if_pos h0]
    refine textL_snoc _ _ (fun h => ?_)
    have := congrArg List.length h
    rw [List.length_take, List.length_nil] at this
    omega
  · obtain rfl : k = 0 := by omega
    simp [textL_one, textL_nil]
set_option maxHeartbeats 1000000 in
theorem l2Text_any (v : Value) (zs : List Int) (w : World) (lo hi : Nat) (hv : Lies w lo hi v zs) (hn : zs.length ≤ 100) (hz : ∀ x ∈ zs, -9223372036854775807 ≤ x ∧ x ≤ 9223372036854775807) : Calls Tryd.prog 23 #[v] w (Gives (.string ⟨(textL zs).toArray⟩) w) := by
  have HV := hidH hv
  obtain ⟨a, cap, rfl, hlc, hcm, hnil, hcell⟩ := hv
  unfold maxLen at hcm
  have HC := hidH hcell
  have HZ := hidH hz
  clear hcell hnil hz
  go_enter Tryd.func23, Tryd.ntmps23
  go_wp2
  go_loopw [3, 4] (fun o i wr => ∃ k : Nat, k ≤ zs.length ∧ i = .int .i64 k ∧ o = .string ⟨(textL (zs.take k)).toArray⟩ ∧ Below w.heap.size w wr) (fun _ i _ => zs.length - (intOf i).toNat)
  case atStart => exact ⟨0, Nat.zero_le _, rfl, rfl, Below.refl _ _⟩
  case round =>
    obtain ⟨k, hk, rfl, rfl, hb⟩ := hrel
    have HB := hidH hb
    clear hb
    by_cases hlt : k < zs.length
    · obtain ⟨x, hx⟩ := get_lt zs k hlt
      obtain ⟨b, off, rfl, _, _, hc⟩ := HC.out k x hx
      have hcw : wr.cell? ⟨b, off + k, none⟩ = some (.int .i64 x) := by rw [HB.out.cell (p := ⟨b, off + k, none⟩) (cell_blk _ _ _ hc)]; exact hc
      have ⟨x0, x1⟩ := HZ.out x (List.mem_of_getElem? hx)
      have HE := hidH (textL_take zs k x hx)
      have hl : (textL (zs.take k)).length ≤ 2200 := by
        have h := textL_len (zs.take k) (fun y hy => HZ.out y (List.mem_of_mem_take hy))
        rw [List.length_take] at h
        omega
      have hl2 := Lib.itoa_length_le x (by omega) (by omega)
      have HD := hidH fun W => l9Dec_any x x0 x1 W
      clear hx hc
      by_cases h0 : 0 < k
      · rw [if_pos h0] at HE
        generalize textL (zs.take k) = t at *
        generalize Lib.itoa x = d at *
        go_wp2_with fail
        refine (HD.out _).mono ?_; rintro e w2 ⟨rfl, hb⟩
        have HB2 := hidH (HB.out.trans (hb.mono HB.out.size))
        clear hb
        go_wp2
        go_roundw
        case rel =>
          refine ⟨k + 1, by omega, by go_num, ?_, HB2.out⟩
          rw [HE.out, bytes_append, bytes_append]
          simp
        case measure => simp [intOf]; omega
      · rw [if_neg h0] at HE
        generalize textL (zs.take k) = t at *
        generalize Lib.itoa x = d at *
        go_wp2_with fail
        refine (HD.out _).mono ?_; rintro e w2 ⟨rfl, hb⟩
        have HB2 := hidH (HB.out.trans (hb.mono HB.out.size))
        clear hb
        go_wp2
        go_roundw
        case rel =>
          refine ⟨k + 1, by omega, by go_num, ?_, HB2.out⟩
          rw [HE.out, bytes_append]
          simp
        case measure => simp [intOf]; omega
    · obtain rfl : k = zs.length := by omega
      go_wp2
      go_ret
      exact ⟨by rw [List.take_length]; rfl, HB.out⟩
/-- The text of a polynomial. -/
def fpB (zs : List Int) : ByteArray := if polyOk zs then ⟨(textL zs).toArray⟩ else ⟨#[]⟩
theorem infoStr : (Tryd.prog.info? 9).map (fun i => (i.zero, i.size, i.bytes)) = some (some (.string ⟨#[]⟩), 1, 16) := by kernel_rfl
theorem join_decsL (zs : List Int) : Lib.join ((zs.map decB).map (·.data.toList)) [32] = textL zs := by
  unfold textL
  rw [List.map_map]
  congr 1
theorem join_decs (zs : List Int) : joinB (zs.map decB) ⟨#[32]⟩ = ⟨(textL zs).toArray⟩ := by
  unfold joinB textL
  rw [List.map_map]
  congr 3
theorem sFormatPoly_any (v : Value) (zs : List Int) (w : World) (lo hi : Nat) (hv : Lies w lo hi v zs) : Calls Tryd.prog 8 #[v] w (Gives (.string (fpB zs)) w) := by
  have HV := hidH fun W (hb : Below w.heap.size w W) => sPolyValid_gives v zs W lo hi (hv.below hb)
  have hv0 := hv
  obtain ⟨a, cap, e0, _⟩ := hv0
  subst e0
  unfold fpB
  cases hk : polyOk zs
  · rw [hk] at HV
    rw [if_neg (by decide)]
    clear hk
    go_enter Tryd.func8, Tryd.ntmps8
    go_wp2_with fail
    refine (HV.out _ (Below.refl _ _)).mono ?_; rintro e w1 ⟨rfl, hb⟩
    have HB := hidH hb
    clear hb
    go_wp2
    go_ret
    exact ⟨rfl, HB.out⟩
  · rw [hk] at HV
    rw [if_pos rfl]
    have ⟨h1, h7, hz⟩ := (listOk_iff _ _ _).1 hk
    have HT := hidH fun W (hb : Below w.heap.size w W) => l2Text_any _ zs W lo hi (hv.below hb) (by omega) (fun x hx => by have := hz x hx; omega)
    clear hk hz
    generalize (⟨(textL zs).toArray⟩ : ByteArray) = t at *
    go_enter Tryd.func8, Tryd.ntmps8
    go_wp2_with fail
    refine (HV.out _ (Below.refl _ _)).mono ?_; rintro e w1 ⟨rfl, hb⟩
    have HB := hidH hb
    clear hb
    go_wp2_with fail
    refine (HT.out _ HB.out).mono ?_; rintro e w2 ⟨rfl, hb⟩
    have HB2 := hidH (HB.out.trans (hb.mono HB.out.size))
    clear hb
    go_wp2
    go_ret
    exact ⟨rfl, HB2.out⟩
set_option maxHeartbeats 1000000 in
theorem formatPoly_any (v : Value) (zs : List Int) (w : World) (lo hi : Nat) (hv : Lies w lo hi v zs) (hT : PowT w) : Calls Tryd.prog 7 #[v] w (Gives (.string (fpB zs)) w) := by
  have HV := hidH (polyValid_any v zs w lo hi hv)
  unfold fpB
  cases hk : polyOk zs
  · obtain ⟨a, cap, rfl, _⟩ := hv
    rw [hk] at HV
    rw [if_neg (by decide)]
    clear hk
    go_enter Tryd.func7, Tryd.ntmps7
    go_wp2_with fail
    refine HV.out.mono ?_; rintro e w1 ⟨rfl, hb⟩
    have HB := hidH hb
    clear hb
    go_wp2
    go_ret
    exact ⟨rfl, HB.out⟩
  · rw [hk] at HV
    rw [if_pos rfl]
    have ⟨h1, h7, hz⟩ := (listOk_iff _ _ _).1 hk
    obtain ⟨b, off, cap, rfl, hlc, hcm, _, _, hbl, hcell⟩ := hv.addr (by omega)
    unfold maxLen at hcm
    have HL := hidH (textL_len zs (fun x hx => by have := hz x hx; omega))
    have HC := hidH hcell
    have HZ := hidH hz
    have HT := hidH hT
    have HJ := hidH (join_decs zs)
    clear hcell hz hT hk
    go_enter Tryd.func7, Tryd.ntmps7
    go_wp2_with fail
    refine HV.out.mono ?_; rintro e w1 ⟨rfl, hb⟩
    have HB := hidH hb
    clear hb
    have hmk := run_make_row' (P := Tryd.prog) 38 9 (.string ⟨#[]⟩) 16 Tryd.underlying38 infoStr rfl .i64 .i64 zs.length (by omega) (by omega) w1
    have HM := hidH (BlkS.made w1 9 zs.length)
    have HBm := hidH ((HB.out).alloc HB.out.size (.cells (madeCells #[Value.string ⟨#[]⟩] zs.length) 9))
    have hlt1 : w.heap.size ≤ w1.heap.size := HB.out.size
    go_wp2
    go_loopw [13] (fun i wr => ∃ k : Nat, k ≤ zs.length ∧ i = .int .i64 k ∧ BlkS wr w1.heap.size (fillS (zs.map decB) k) ∧ Below w.heap.size w wr) (fun i _ => zs.length - (intOf i).toNat)
    case atStart => exact ⟨0, Nat.zero_le _, rfl, by rw [fill_zeroS, List.length_map]; exact HM.out, HBm.out⟩
    case round =>
      obtain ⟨k, hk, rfl, hB, hb⟩ := hrel
      have HBk := hidH hB
      have HBr := hidH hb
      clear hB hb HM HBm
      by_cases hlt : k < zs.length
      · obtain ⟨x, hx⟩ := get_lt zs k hlt
        have hc := HC.out k x hx
        have hcw : wr.cell? ⟨b, off + k, none⟩ = some (.int .i64 x) := by rw [HBr.out.cell (p := ⟨b, off + k, none⟩) hbl]; exact hc
        have ⟨x0, x1⟩ := HZ.out x (List.mem_of_getElem? hx)
        have HI := hidH fun W (hb : Below w.heap.size w W) => itoa_any x (by omega) (by omega) W (HT.out.below hb)
        have HX := hidH hx
        clear hx hc
        go_wp2_with fail
        refine (HI.out _ HBr.out).mono ?_; rintro e w2 ⟨rfl, hb⟩
        have HB2 := hidH (HBr.out.trans (hb.mono HBr.out.size))
        have HK2 := hidH (HBk.out.below hb)
        have hxm : (zs.map decB)[k]? = some (decB x) := by rw [List.getElem?_map, HX.out]; rfl
        obtain ⟨ho, hf⟩ := HK2.out.2 k _ (fill_atS (zs.map decB) k (by rw [List.length_map]; exact hlt))
        have HS := hidH (fill_setS (zs.map decB) k (decB x) hxm)
        clear hb hxm HBr HBk
        go_wp2
        go_roundw
        case rel => exact ⟨k + 1, by omega, by go_num, by rw [← HS.out]; exact HK2.out.set k _, HB2.out.setCell hlt1 _⟩
        case measure => simp [intOf]; omega
      · obtain rfl : k = zs.length := by omega
        have hB := HBk.out
        have hlm : zs.length = (zs.map decB).length := by rw [List.length_map]
        rw [hlm, fill_allS] at hB
        have HJo := hidH (join_any (zs.map decB) ⟨#[32]⟩ (.slice (some ⟨w1.heap.size, 0, none⟩) zs.length zs.length) wr 0 (w1.heap.size + 1) (hB.row (Nat.zero_le _) (Nat.lt_succ_self _) (Nat.le_of_eq hlm.symm) (by unfold maxLen; omega) hlm).lies (by
          show (Lib.join _ [32]).length ≤ _
          rw [join_decsL]
          have := HL.out
          omega) (by rw [← hlm]; omega))
        rw [HJ.out] at HJo
        clear hB HL HJ hlm
        go_wp2_with fail
        refine HJo.out.mono ?_; rintro e w2 ⟨rfl, hb⟩
        have HB2 := hidH (HBr.out.trans (hb.mono HBr.out.size))
        clear hb
        go_wp2
        go_ret
        exact ⟨rfl, HB2.out⟩
end Go.Proofs.YtoahialihfijjaaDoor
