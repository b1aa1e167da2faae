/-
  The coefficients of powers of a polynomial: the program. No conditions but that slices fit in memory.
-/
import Derived.Test.YtgenniaklpheoaaPolyFb
import Derived.Test.YtgenniaklpheoaaPolyPow
namespace Go.Proofs.Ytgenniaklpheoaa
open Go.RowKit
theorem mulAdd_length (r c : Int) (l : List Int) : (mulAdd r c l).length = l.length := by
  cases l with
  | nil => rfl
  | cons x l => rw [mulAdd, List.length_cons, List.length_zipWith, List.length_cons]; omega
theorem mulAdd_zero (r c : Int) (l : List Int) (x : Int) (h : l[0]? = some x) : (mulAdd r c l)[0]? = some (c - r * x) := by
  cases l with
  | nil => simp at h
  | cons y l => simp at h; subst h; rfl
theorem mulAdd_succ (r c : Int) (l : List Int) (i : Nat) (x y : Int) (hx : l[i]? = some x) (hy : l[i + 1]? = some y) : (mulAdd r c l)[i + 1]? = some (x - r * y) := by
  cases l with
  | nil => simp at hx
  | cons z l =>
    rw [mulAdd, List.getElem?_cons_succ, List.getElem?_zipWith, hx]
    rw [List.getElem?_cons_succ] at hy
    rw [hy]
/-- What the program makes of the coefficients, with the wraparound of 64 bits. -/
def mulAddW (r c : Int) (l : List Int) : List Int := (mulAdd r c l).map wrap64
theorem mulAddW_length (r c : Int) (l : List Int) : (mulAddW r c l).length = l.length := by rw [mulAddW, List.length_map, mulAdd_length]
theorem mulAddW_zero (r c : Int) (l : List Int) (x : Int) (h : l[0]? = some x) : (mulAddW r c l)[0]? = some (wrap64 (c - r * x)) := by
  rw [mulAddW, List.getElem?_map, mulAdd_zero r c l x h]; rfl
theorem mulAddW_succ (r c : Int) (l : List Int) (i : Nat) (x y : Int) (hx : l[i]? = some x) (hy : l[i + 1]? = some y) : (mulAddW r c l)[i + 1]? = some (wrap64 (x - r * y)) := by
  rw [mulAddW, List.getElem?_map, mulAdd_succ r c l i x y hx hy]; rfl
theorem wrap_sub (a r b : Int) : wrap64 (wrap64 a - r * wrap64 b) = wrap64 (a - r * b) := by
  have e : r * wrap64 b = r * b - 18446744073709551616 * (r * ((b + 9223372036854775808) / 18446744073709551616)) := by
    have h : wrap64 b = b - 18446744073709551616 * ((b + 9223372036854775808) / 18446744073709551616) := by unfold wrap64; omega
    rw [h, Int.mul_sub, Int.mul_left_comm r]
  rw [e]
  unfold wrap64
  omega
theorem mulAddW_wrap (r c : Int) (l : List Int) : mulAddW r c (l.map wrap64) = (mulAdd r c l).map wrap64 := by
  refine list_ext (by rw [mulAddW_length, List.length_map, List.length_map, mulAdd_length]) fun i x y hx hy => ?_
  have hi : i < l.length := by have := (List.getElem?_eq_some_iff.1 hx).1; rwa [mulAddW_length, List.length_map] at this
  rw [List.getElem?_map] at hy
  cases i with
  | zero =>
    obtain ⟨z, hz⟩ := get_lt l 0 hi
    rw [mulAddW_zero r c _ (wrap64 z) (by rw [List.getElem?_map, hz]; rfl)] at hx
    rw [mulAdd_zero r c l z hz] at hy
    injection hx with hx
    injection hy with hy
    rw [← hx, ← hy]
    have := wrap_sub c r z
    rw [← this]
    have e : ∀ t, wrap64 (wrap64 c - t) = wrap64 (c - t) := fun t => by unfold wrap64; omega
    rw [e]
  | succ i =>
    obtain ⟨z, hz⟩ := get_lt l i (by omega)
    obtain ⟨u, hu⟩ := get_lt l (i + 1) hi
    rw [mulAddW_succ r c _ i (wrap64 z) (wrap64 u) (by rw [List.getElem?_map, hz]; rfl) (by rw [List.getElem?_map, hu]; rfl)] at hx
    rw [mulAdd_succ r c l i z u hz hu] at hy
    injection hx with hx
    injection hy with hy
    rw [← hx, ← hy]
    exact wrap_sub z r u
theorem over_down (T zs : List Int) (k : Nat) (x : Int) (hl : T.length = zs.length) (hx : zs[k]? = some x) : (over T zs (k + 1)).set k x = over T zs k := by
  have hk := (List.getElem?_eq_some_iff.1 hx).1
  unfold over
  have h2 : (T.take (k + 1)).length = k + 1 := by rw [List.length_take]; omega
  rw [List.set_append_left _ _ (by omega)]
  obtain ⟨y, hy⟩ := get_lt T k (by omega)
  rw [List.take_add_one, hy]
  have h3 : (T.take k).length = k := by rw [List.length_take]; omega
  rw [List.set_append_right _ _ (by omega), h3, Nat.sub_self]
  obtain ⟨hk', e⟩ := List.getElem?_eq_some_iff.1 hx
  rw [List.drop_eq_getElem_cons hk', e]
  simp
theorem wsub (x t : Int) : wrap64 (x - t) = wrap64 (x - wrap64 t) := by unfold wrap64; omega
/-- A call that changes a row of numbers in its place. -/
def InPlace (b : Nat) (L : List Int) (w : World) (e : Ending) (w' : World) : Prop := e = .returned (.tuple #[]) ∧ Blk w' b L ∧ Onto b w w'
set_option maxHeartbeats 800000 in
theorem mulAdd_any (b cap : Nat) (l : List Int) (r c : Int) (w : World) (hB : Blk w b l) (h0 : 0 < l.length) (h7 : l.length ≤ 7) (hc : l.length ≤ cap) (hcm : cap ≤ 9223372036854775807) : Calls Try.prog 62 #[.slice (some ⟨b, 0, none⟩) l.length cap, .int .i64 r, .int .i64 c] w (InPlace b (mulAddW r c l) w) := by
  have HB0 := hidH hB
  have HLL := hidH (mulAddW_length r c l)
  clear hB
  go_enter Try.func62, Try.ntmps62
  go_wp2_with fail
  go_loopw [6] (fun i wr => ∃ k : Nat, k < l.length ∧ i = .int .i64 k ∧ Blk wr b (over l (mulAddW r c l) (k + 1)) ∧ Onto b w wr) (fun i _ => (intOf i).toNat)
  case atStart => exact ⟨l.length - 1, by omega, by go_num, by rw [show l.length - 1 + 1 = l.length by omega, ← HLL.out, over_all _ _ HLL.out.symm]; exact HB0.out, Onto.refl _ _⟩
  case round =>
    obtain ⟨k, hk, rfl, hblk, ho⟩ := hrel
    have HBK := hidH hblk
    have HO := hidH ho
    clear hblk ho
    have old : ∀ j z, j ≤ k → l[j]? = some z → (over l (mulAddW r c l) (k + 1))[j]? = some z := fun j z hj hz => by
      unfold over
      rw [List.getElem?_append_left (by rw [List.length_take]; omega), List.getElem?_take, if_pos (by omega)]
      exact hz
    obtain ⟨y, hy⟩ := get_lt l k hk
    obtain ⟨hc1, hf1⟩ := HBK.out.2 k y (old k y (Nat.le_refl _) hy)
    rcases k with _ | k
    · have HG := hidH (over_down l (mulAddW r c l) 0 _ HLL.out.symm (mulAddW_zero r c l y hy))
      clear old hy
      go_wp2_with fail
      go_end0
      exact ⟨rfl, by have h := HG.out; rw [over_zero] at h; rw [← h, ← wsub]; exact HBK.out.set 0 _, HO.out.trans (Onto.setCell b 0 wr _)⟩
    · obtain ⟨x, hx⟩ := get_lt l k (by omega)
      obtain ⟨hc2, _⟩ := HBK.out.2 k x (old k x (by omega) hx)
      have HG := hidH (over_down l (mulAddW r c l) (k + 1) _ HLL.out.symm (mulAddW_succ r c l k x y hx hy))
      have v1 : IntKind.i64.wrap ((k : Int) + 1 - 1) = (k : Int) := by rw [Int.add_sub_cancel]; exact IntWalk.i64_in _ (by omega)
      clear old hx hy
      go_wp2_with fail
      go_region
      go_wp2_with fail
      go_roundw
      case rel => exact ⟨k, by omega, by go_num, by rw [← HG.out, ← wsub]; exact (HBK.out.set (k + 1) _).drewN 1, HO.out.trans ((Onto.setCell b (k + 1) wr _).drewN 1)⟩
      case measure => simp [intOf]
theorem fac_bd (k : Nat) (hk : k ≤ 6) : 1 ≤ fac k ∧ fac k ≤ 720 := by
  have : k = 0 ∨ k = 1 ∨ k = 2 ∨ k = 3 ∨ k = 4 ∨ k = 5 ∨ k = 6 := by omega
  rcases this with rfl | rfl | rfl | rfl | rfl | rfl | rfl <;> decide
theorem fac_any (k : Nat) (hk : k ≤ 6) (w : World) : Calls Try.prog 63 #[.int .i64 k] w fun e w' => e = .returned (.int .i64 (fac k)) ∧ w = w' := by
  go_enter Try.func63, Try.ntmps63
  go_wp2
  go_loop [3, 6] (fun o i => ∃ j : Nat, j ≤ k ∧ i = .int .i64 j ∧ o = .int .i64 (fac j)) (fun _ i => k - (intOf i).toNat)
  case atStart => exact ⟨0, Nat.zero_le _, rfl, rfl⟩
  case round =>
    obtain ⟨j, hj, rfl, rfl⟩ := hrel
    by_cases hlt : j < k
    · have ⟨b1, b2⟩ := fac_bd (j + 1) (by omega)
      have e : fac j * ((j : Int) + 1) = fac (j + 1) := by rw [fac, Int.mul_comm]
      have v1 : IntKind.i64.wrap (fac j * ((j : Int) + 1)) = fac (j + 1) := by rw [e]; exact IntWalk.i64_in _ (by omega)
      have v2 : wrap64 (fac j * ((j : Int) + 1)) = fac (j + 1) := by rw [← wrap_i]; exact v1
      go_wp2
      go_round
      case rel => exact ⟨j + 1, by omega, by go_num, by first | rfl | rw [v2] | rw [v1]⟩
      case measure => simp [intOf]; omega
    · go_wp2
      obtain rfl : j = k := by omega
      go_ret
      exact ⟨rfl, rfl⟩
theorem powI_length (m : Nat) (p : List Int) (k : Nat) : (powI m p k).length = m := by
  induction p generalizing k with
  | nil => simp [powI]
  | cons x p ih => rw [powI, mulAdd_length, ih]
/-- What PowersOf answers. -/
def powW (p : List Int) (k : Nat) : List Int := (powI p.length (p.drop k) k).map wrap64
theorem powW_length (p : List Int) (k : Nat) : (powW p k).length = p.length := by rw [powW, List.length_map, powI_length]
theorem powW_step (p : List Int) (k : Nat) (x : Int) (h : p[k]? = some x) : mulAddW k (com k * x) (powW p (k + 1)) = powW p k := by
  obtain ⟨hk, e⟩ := List.getElem?_eq_some_iff.1 h
  unfold powW
  rw [mulAddW_wrap, List.drop_eq_getElem_cons hk, e, powI]
theorem powW_end (p : List Int) : powW p p.length = List.replicate p.length 0 := by
  unfold powW
  rw [List.drop_length, powI, List.map_replicate, show wrap64 0 = 0 by unfold wrap64; omega]
set_option maxHeartbeats 2000000 in
theorem pow_yes (v : Value) (zs : List Int) (w : World) (lo hi : Nat) (hv : Lies w lo hi v zs) (hz : polyOk zs = true) : Calls Try.prog 26 #[v] w (NewRow (powW zs 0) w) := by
  have ⟨k1, hs⟩ := polyOk_small _ hz
  have h7 := hs.1
  have HZ := hidH hz
  have HPV := hidH (polyValid_any v zs w lo hi hv)
  have HLV := hidH hv
  obtain ⟨b, off, cap, rfl, hlc, hcm, hl1, hh1, hbw, hcell⟩ := hv.addr (by omega)
  unfold maxLen at hcm
  have HC := hidH hcell
  have HSM := hidH hs.2
  clear hcell hs hz
  go_enter Try.func26, Try.ntmps26
  go_wp2_with fail
  refine HPV.out.mono ?_; rintro e w1 ⟨rfl, hb⟩
  rw [HZ.out]
  have hmk := run_make_row' (P := Try.prog) 23 3 (.int .i64 0) 8 Try.underlying23 infoInt rfl .i64 .i64 zs.length (by omega) (by omega) w1
  have HM := hidH (show (w1.alloc (.cells (madeCells #[Value.int .i64 0] zs.length) 3)).heap[w1.heap.size]? = some (.cells (ints (List.replicate zs.length 0)).toArray 3 (0, 0)) by rw [made_ints]; exact heap_alloc_new w1 _)
  have HB1 := hidH hb
  have hsz := hb.size
  have HBA := hidH (hb.alloc hb.size (.cells (madeCells #[Value.int .i64 0] zs.length) 3))
  clear hb
  generalize hwa : w1.alloc (.cells (madeCells #[Value.int .i64 0] zs.length) 3) = wa at *
  have hblk0 := blk_of_heap (zs := List.replicate zs.length 0) HM.out
  have HBK0 := hidH hblk0
  clear hblk0 hwa HM
  go_wp2_with fail
  go_loopw [4] (fun i wr => ∃ k : Nat, k ≤ zs.length ∧ i = .int .i64 ((k : Int) - 1) ∧ Blk wr w1.heap.size (powW zs k) ∧ Below w.heap.size w wr) (fun i _ => (intOf i + 1).toNat)
  case atStart => exact ⟨zs.length, Nat.le_refl _, rfl, by rw [powW_end]; exact HBK0.out, HBA.out⟩
  case round =>
    obtain ⟨k, hk, rfl, hblk, hb⟩ := hrel
    have HBK := hidH hblk
    have HBq := hidH hb
    clear hblk hb
    by_cases h0 : 0 < k
    · obtain ⟨j, rfl⟩ : ∃ j, k = j + 1 := ⟨k - 1, by omega⟩
      obtain ⟨x, hx⟩ := get_lt zs j (by omega)
      have hc0 := HC.out j x hx
      have hcx : wr.cell? ⟨b, off + j, none⟩ = some (.int .i64 x) := by rw [HBq.out.cell (p := ⟨b, off + j, none⟩) hbw]; exact hc0
      have HST := hidH (powW_step zs j x hx)
      have hxb := HSM.out x (List.mem_of_getElem? hx)
      have ⟨f1, f2⟩ := fac_bd j (by omega)
      have HF := hidH fun (W : World) => fac_any j (by omega) W
      have hji : ((j + 1 : Nat) : Int) - 1 = (j : Int) := by omega
      rw [hji]
      clear hc0 hx
      have hq : com j = 720 / fac j := by unfold com; rw [Int.tdiv_eq_ediv_of_nonneg (by omega)]
      have hst : mulAddW j (IntKind.i64.wrap (720 / fac j * x)) (powW zs (j + 1)) = powW zs j := by
        rw [← HST.out, ← hq]
        congr 1
        have h720 : (com j).natAbs ≤ 720 := by
          have : j = 0 ∨ j = 1 ∨ j = 2 ∨ j = 3 ∨ j = 4 ∨ j = 5 ∨ j = 6 := by omega
          rcases this with rfl | rfl | rfl | rfl | rfl | rfl | rfl <;> decide
        have hb := abs_mul_le (a := com j) (b := x) (A := 720) (B := 100000) h720 (by omega)
        exact IntWalk.i64_in _ (by omega)
      have HMA := hidH fun (W : World) (hB : Blk W w1.heap.size (powW zs (j + 1))) => by
        have h := mulAdd_any w1.heap.size zs.length (powW zs (j + 1)) j (IntKind.i64.wrap (720 / fac j * x)) W hB (by rw [powW_length]; omega) (by rw [powW_length]; omega) (by rw [powW_length]; exact Nat.le_refl _) (by omega)
        rw [hst, powW_length] at h
        exact h
      have hfz : (fac j == 0) = false := beq_eq_false_iff_ne.2 (by omega)
      clear hst hq HST
      generalize hf : fac j = f at *
      go_wp2_with fail
      go_region_with (first
        | (go_at_call 63; refine (HF.out _).mono ?_; rintro e wd ⟨rfl, rfl⟩)
        | (go_at_call 62; refine (HMA.out _ (HBK.out.drewN 1)).mono ?_; rintro e wd ⟨rfl, hbk2, ho2⟩; have HBK2 := hidH hbk2; have HO2 := hidH (ho2.below hsz (by have := HBq.out.size; exact this)); clear hbk2 ho2))
      all_goals
        go_wp2_with fail
        go_roundw
        case rel => exact ⟨j, by omega, rfl, HBK2.out, HBq.out.drew.trans HO2.out⟩
        case measure => simp [intOf]
    · obtain rfl : k = 0 := by omega
      go_wp2_with fail
      go_ret
      exact ⟨_, rfl, HBK.out.row hsz HBK.out.1 (by rw [powW_length]; exact Nat.le_refl _) (by unfold maxLen; omega) (powW_length _ _).symm, HBq.out⟩
/-! ### The answers -/
theorem stair_bd (k : Nat) (hk : k ≤ 6) : ∀ y ∈ stair k, y.natAbs ≤ 720 := by
  have : k = 0 ∨ k = 1 ∨ k = 2 ∨ k = 3 ∨ k = 4 ∨ k = 5 ∨ k = 6 := by omega
  rcases this with rfl | rfl | rfl | rfl | rfl | rfl | rfl <;> decide
theorem addMul_bd (x : Int) (hx : x.natAbs ≤ 100000) (M : Nat) (o s : List Int) (ho : ∀ y ∈ o, y.natAbs ≤ M) (hs : ∀ y ∈ s, y.natAbs ≤ 720) : ∀ y ∈ addMul x o s, y.natAbs ≤ M + 72000000 := by
  induction o generalizing s with
  | nil => intro y hy; cases s <;> simp [addMul] at hy
  | cons a o ih =>
    cases s with
    | nil => intro y hy; rw [addMul] at hy; have := ho y hy; omega
    | cons c s =>
      intro y hy
      rw [addMul] at hy
      rcases List.mem_cons.1 hy with rfl | hy
      · have h1 := ho a List.mem_cons_self
        have h2 := abs_mul_le hx (hs c List.mem_cons_self)
        omega
      · exact ih s (fun y hy => ho y (List.mem_cons_of_mem _ hy)) (fun y hy => hs y (List.mem_cons_of_mem _ hy)) y hy
theorem powS_bd (p o : List Int) (k M : Nat) (hk : k + p.length ≤ 7) (hp : ∀ x ∈ p, x.natAbs ≤ 100000) (ho : ∀ y ∈ o, y.natAbs ≤ M) : ∀ y ∈ powS o p k, y.natAbs ≤ M + p.length * 72000000 := by
  induction p generalizing o k M with
  | nil => intro y hy; have := ho y hy; rw [List.length_nil]; omega
  | cons x p ih =>
    rw [List.length_cons] at hk ⊢
    intro y hy
    have := ih (addMul x o (stair k)) (k + 1) (M + 72000000) (by omega) (fun x hx => hp x (List.mem_cons_of_mem _ hx)) (addMul_bd x (hp x List.mem_cons_self) M o _ ho (stair_bd k (by omega))) y hy
    omega
theorem powL_bd (p : List Int) (h : Small p) : ∀ y ∈ powL p, -504000000 ≤ y ∧ y ≤ 504000000 := fun y hy => by
  have h7 := h.1
  have := powS_bd p _ 0 0 (by omega) (fun x hx => by have := h.2 x hx; omega) (fun y hy => by have := List.eq_of_mem_replicate hy; omega) y hy
  omega
theorem powW_powL (p : List Int) (h : Small p) : powW p 0 = powL p := by
  unfold powW
  rw [List.drop_zero, powI_powL p h.1]
  exact (List.map_congr_left fun y hy => by have := powL_bd p h y hy; exact wrap64_id y (by omega) (by omega)).trans (List.map_id _)
/-- What PowersOf answers. -/
def powA (zs : List Int) : List Int := if polyOk zs then powL zs else []
theorem pow_no (v : Value) (zs : List Int) (w : World) (lo hi : Nat) (hv : Lies w lo hi v zs) (hz : polyOk zs = false) : Calls Try.prog 26 #[v] w (NewRow [] w) := by
  have HPV := hidH (polyValid_any v zs w lo hi hv)
  have HZ := hidH hz
  clear hv hz
  go_enter Try.func26, Try.ntmps26
  go_wp2_with fail
  refine HPV.out.mono ?_; rintro e w1 ⟨rfl, hb⟩
  rw [HZ.out]
  have HB := hidH hb
  clear hb
  go_wp2_with fail
  go_ret
  exact ⟨_, rfl, Row.nil _ _ _ _ _ (Nat.zero_le _) (fun _ => rfl), HB.out⟩
theorem pow_any (v : Value) (zs : List Int) (w : World) (lo hi : Nat) (hv : Lies w lo hi v zs) : Calls Try.prog 26 #[v] w (NewRow (powA zs) w) := by
  unfold powA
  cases h : polyOk zs
  · exact pow_no v zs w lo hi hv h
  · have := pow_yes v zs w lo hi hv h
    rw [powW_powL zs (polyOk_small _ h).2] at this
    exact this
end Go.Proofs.Ytgenniaklpheoaa
