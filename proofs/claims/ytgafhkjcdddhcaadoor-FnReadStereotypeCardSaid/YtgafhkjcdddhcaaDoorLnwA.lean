/-
  Lines from their ends to their beginnings, behind spaces: mathematics and the model. Condition: at most a million bytes.
-/
import Derived.Test.YtgafhkjcdddhcaaDoorLnvB
namespace Go.Proofs.YtgafhkjcdddhcaaDoor
set_option maxRecDepth 4000
open Go.RowKit
/-- Spaces. -/
def spB (k : Nat) : ByteArray := ⟨(List.replicate k (32 : UInt8)).toArray⟩
theorem spB_size (k : Nat) : (spB k).size = k := by
  show (List.replicate k (32 : UInt8)).toArray.size = k
  simp
theorem spB_add (a b : Nat) : spB a ++ spB b = spB (a + b) := by
  apply ByteArray.ext
  rw [ByteArray.data_append]
  show (List.replicate a (32 : UInt8)).toArray ++ (List.replicate b (32 : UInt8)).toArray = (List.replicate (a + b) (32 : UInt8)).toArray
  rw [List.append_toArray, List.replicate_append_replicate]
/-- A line from its end to its beginning, behind spaces. -/
def mirAt (n : Nat) (s : ByteArray) (j : Nat) : ByteArray := ⟨(List.replicate (n - s.size) (32 : UInt8) ++ (s.data.toList.drop j).reverse).toArray⟩
def mirB (n : Nat) (s : ByteArray) : ByteArray := ⟨(List.replicate (n - s.size) (32 : UInt8) ++ s.data.toList.reverse).toArray⟩
theorem mirAt_all (n : Nat) (s : ByteArray) : mirAt n s s.size = spB (n - s.size) := by
  unfold mirAt spB
  rw [List.drop_eq_nil_of_le (by simp), List.reverse_nil, List.append_nil]
theorem mirAt_zero (n : Nat) (s : ByteArray) : mirAt n s 0 = mirB n s := by
  unfold mirAt mirB
  rw [List.drop_zero]
theorem mirAt_size (n : Nat) (s : ByteArray) (j : Nat) (h : s.size ≤ n) : (mirAt n s j).size ≤ n := by
  show (List.replicate (n - s.size) (32 : UInt8) ++ (s.data.toList.drop j).reverse).toArray.size ≤ n
  have : s.data.toList.length = s.size := by simp
  simp
  omega
theorem mirB_size (n : Nat) (s : ByteArray) (h : s.size ≤ n) : (mirB n s).size ≤ n := by
  rw [← mirAt_zero]; exact mirAt_size n s 0 h
theorem mirAt_step (n : Nat) (s : ByteArray) (p : Nat) (h : p < s.size) : mirAt n s (p + 1) ++ s.extract p (p + 1) = mirAt n s p := by
  apply ByteArray.ext
  rw [ByteArray.data_append, ByteArray.data_extract]
  apply Array.toList_inj.1
  rw [Array.toList_append, Array.toList_extract]
  have hl : p < s.data.toList.length := by simpa using h
  show (List.replicate (n - s.size) (32 : UInt8) ++ (s.data.toList.drop (p + 1)).reverse) ++ _ = List.replicate (n - s.size) (32 : UInt8) ++ (s.data.toList.drop p).reverse
  rw [List.drop_eq_getElem_cons hl, List.reverse_cons, List.append_assoc]
  congr 2
  simp only [List.extract]
  rw [List.drop_eq_getElem_cons hl, show p + 1 - p = 1 by omega, List.take_succ_cons, List.take_zero]
theorem many_sp (n : Nat) (h : n ≤ 1000000) (w : World) : Calls Tryd.prog 48 #[.string ⟨#[32]⟩, .int .i64 n] w fun e w' => e = .returned (.string (spB n)) ∧ w' = w := by
  have h1 : (⟨#[32]⟩ : ByteArray) = spB 1 := rfl
  have h2 : (⟨#[]⟩ : ByteArray) = spB 0 := rfl
  have HH := hidH h2
  rw [h1]
  clear h1 h2
  go_enter Tryd.func48, Tryd.ntmps48
  go_wp2
  go_loopw [0, 1, 5] (fun s k o wr => ∃ a q b : Nat, s = .string (spB a) ∧ k = .int .i64 q ∧ o = .string (spB b) ∧ b + a * q = n ∧ a ≤ 2 * n + 1 ∧ q ≤ n ∧ wr = w) (fun _ k _ _ => (intOf k).toNat)
  case atStart => exact ⟨1, n, 0, rfl, rfl, by rw [← HH.out], by omega, by omega, by omega, rfl⟩
  case round =>
    obtain ⟨a, q, b, rfl, rfl, rfl, he, ha, hqn, rfl⟩ := hrel
    have sa := spB_size a
    have sb := spB_size b
    by_cases h0 : 0 < q
    · have haq : a ≤ a * q := Nat.le_mul_of_pos_right a h0
      have hb : b ≤ n := by omega
      have han : a ≤ n := by omega
      have HA1 := hidH (spB_add a a)
      have HA2 := hidH (spB_add b a)
      obtain ⟨r, hr⟩ : ∃ r, r = q / 2 := ⟨_, rfl⟩
      by_cases hodd : q % 2 = 1
      · obtain rfl : q = 2 * r + 1 := by omega
        have HE := hidH (show (b + a) + (a + a) * r = n by rw [Nat.mul_add, Nat.mul_one, ← Nat.mul_assoc, Nat.mul_comm a 2, Nat.two_mul] at he; omega)
        clear he haq hr
        have hm : ((2 * r + 1 : Nat) : Int) % 2 = 1 := by omega
        go_wp2
        go_roundw
        case rel => exact ⟨a + a, r, b + a, by rw [← HA1.out], by go_num, by first | rw [← HA2.out] | rfl, HE.out, by omega, by omega, by first | rfl | trivial⟩
        case measure => simp [intOf]; omega
      · obtain rfl : q = 2 * r := by omega
        have HE := hidH (show b + (a + a) * r = n by rw [← Nat.mul_assoc, Nat.mul_comm a 2, Nat.two_mul] at he; exact he)
        clear he haq hr
        have hm : ((2 * r : Nat) : Int) % 2 = 0 := by omega
        go_wp2
        go_roundw
        case rel => exact ⟨a + a, r, b, by rw [← HA1.out], by go_num, by first | rw [← HA2.out] | rfl, HE.out, by omega, by omega, by first | rfl | trivial⟩
        case measure => simp [intOf]; omega
    · obtain rfl : q = 0 := by omega
      obtain rfl : b = n := by simpa using he
      go_wp2
      go_ret
      exact ⟨rfl, rfl⟩
theorem sMirror_any (s : ByteArray) (n : Nat) (hs : s.size ≤ n) (hn : n ≤ 1000000) (w : World) : Calls Tryd.prog 54 #[.string s, .int .i64 n] w fun e w' => e = .returned (.string (mirB n s)) ∧ w' = w := by
  have HM := hidH (fun W => many_sp (n - s.size) (by omega) W)
  have hk : (n : Int) - (s.size : Int) = ((n - s.size : Nat) : Int) := by omega
  have HA := hidH (mirAt_all n s)
  have HZ := hidH (mirAt_zero n s)
  have HT := hidH (fun p h => mirAt_step n s p h)
  have HS := hidH (fun j => mirAt_size n s j hs)
  go_enter Tryd.func54, Tryd.ntmps54
  go_wp2_with fail
  refine (HM.out _).mono ?_; rintro e w1 ⟨rfl, hww⟩
  rw [hww]
  clear hww
  go_wp2_with fail
  go_loopw [5, 6] (fun o i wr => ∃ (j : Nat) (x : Int), j ≤ s.size ∧ x + 1 = j ∧ i = .int .i64 x ∧ o = .string (mirAt n s j) ∧ wr = w) (fun _ i _ => (intOf i + 1).toNat)
  case atStart => exact ⟨s.size, _, Nat.le_refl _, by omega, rfl, by rw [HA.out], rfl⟩
  case round =>
    obtain ⟨j, x, hj, hx, rfl, rfl, rfl⟩ := hrel
    by_cases h0 : 0 < j
    · obtain ⟨p, rfl⟩ : ∃ p : Nat, x = p := ⟨j - 1, by omega⟩
      obtain rfl : j = p + 1 := by omega
      have hsz := HS.out (p + 1)
      clear hx
      have hps : p < s.size := by omega
      have HT2 := hidH (HT.out p hps)
      go_wp2
      go_roundw
      case rel => exact ⟨p, _, by omega, by omega, rfl, by first | (rw [← HT2.out]; rfl) | (rw [← HT2.out]), by first | rfl | trivial⟩
      case measure => simp [intOf]
    · obtain rfl : j = 0 := by omega
      obtain rfl : x = -1 := by omega
      rw [HZ.out]
      go_wp2
      go_ret
      exact ⟨rfl, rfl⟩
theorem ownsBelowS {w w' : World} {base : Nat} {e : TypeId} {size : Nat} {v : Value} {n : Nat} {xs : List Value} (h : w.ownsRow base e size v n xs) (hb : Below w.heap.size w w') : w'.ownsRow base e size v n xs := by
  obtain ⟨hl, h | ⟨g, cap, cur, hv, hg, hh, h1, h2, h3, h4⟩⟩ := h
  · exact ⟨hl, .inl h⟩
  · exact ⟨hl, .inr ⟨g, cap, cur, hv, hg, by rw [hb.block g (by rcases Nat.lt_or_ge g w.heap.size with q | q; exact q; rw [Array.getElem?_eq_none q] at hh; cases hh)]; exact hh, h1, h2, h3, h4⟩⟩
/-- The longest line's length. -/
def lonL : List ByteArray → Nat
  | [] => 0
  | s :: r => max s.size (lonL r)
theorem lonL_append (cs : List ByteArray) (s : ByteArray) : lonL (cs ++ [s]) = max (lonL cs) s.size := by
  induction cs with
  | nil => simp [lonL]
  | cons c r ih => rw [List.cons_append, lonL, ih, lonL, Nat.max_assoc]
theorem lonL_step (cs : List ByteArray) (k : Nat) (s : ByteArray) (h : cs[k]? = some s) : lonL (cs.take (k + 1)) = max (lonL (cs.take k)) s.size := by
  rw [List.take_add_one, h, ← lonL_append]
  rfl
theorem lonL_ge (cs : List ByteArray) : ∀ s ∈ cs, s.size ≤ lonL cs := by
  induction cs with
  | nil => intro s h; simp at h
  | cons c r ih =>
    intro s h
    rw [lonL]
    rcases List.mem_cons.1 h with rfl | h
    · omega
    · have := ih s h; omega
theorem lonL_le (cs : List ByteArray) (m : Nat) (h : ∀ s ∈ cs, s.size ≤ m) : lonL cs ≤ m := by
  induction cs with
  | nil => exact Nat.zero_le _
  | cons c r ih =>
    rw [lonL]
    have h1 := h c (List.mem_cons_self ..)
    have h2 := ih fun s hs => h s (List.mem_cons_of_mem _ hs)
    omega
/-- The lines of a plate. -/
def plaL (cs : List ByteArray) : List ByteArray := if linesOk cs = true then cs.map (mirB (lonL cs)) else []
theorem linesOk_parts {cs : List ByteArray} (h : linesOk cs = true) : cs.length ≤ 40 ∧ ∀ s ∈ cs, s.size ≤ 100 := by
  unfold linesOk at h
  rw [Bool.and_eq_true] at h
  refine ⟨of_decide_eq_true h.1, fun s hs => ?_⟩
  have := List.all_eq_true.1 h.2 s hs
  unfold linOk at this
  rw [Bool.and_eq_true, Bool.and_eq_true] at this
  exact of_decide_eq_true this.2.1
theorem map_take_step {f : ByteArray → ByteArray} {cs : List ByteArray} {k : Nat} {s : ByteArray} (h : cs[k]? = some s) : (cs.map f).take k ++ [f s] = (cs.map f).take (k + 1) := by
  rw [List.take_add_one, List.getElem?_map, h]
  rfl
theorem ints_snocS' (done : List ByteArray) (x : ByteArray) : intsS done ++ [Value.string x] = intsS (done ++ [x]) := by simp [intsS]
set_option maxHeartbeats 1600000 in
theorem sStereo_any (v : Value) (cs : List ByteArray) (w : World) (lo hi : Nat) (hv : LiesS w lo hi v cs) (hm : ∀ c ∈ cs, c.size ≤ 9223372036854775807) : Calls Tryd.prog 24 #[v] w (NewTexts (plaL cs) w) := by
  have HL := hidH (fun W (hb : Below w.heap.size w W) => sLinesValid_any v cs W lo hi (hv.below hb) hm)
  obtain ⟨i0, hi0, hz0, hz1, hz2⟩ := info_parts infoText
  have HV := hidH hv
  obtain ⟨a, cap, rfl, hlc, hcm, hnil, hcell⟩ := hv
  unfold maxLen at hcm
  have HC := hidH hcell
  have HO := hidH (World.ownsRow_made (base := w.heap.size) (e := 9) (size := 1) w #[] 0 (Nat.le_refl _) (Nat.zero_le _) rfl)
  have B0 := hidH ((Below.refl _ w).alloc (Nat.le_refl _) (.cells #[] 9))
  clear hcell hnil hm
  cases hok : linesOk cs
  · have HP := hidH (show plaL cs = [] by rw [plaL, hok]; rfl)
    rw [hok] at HL
    clear hok
    go_enter Tryd.func24, Tryd.ntmps24
    go_wp2_with fail
    refine (HL.out _ B0.out).mono ?_; rintro e w1 ⟨rfl, hb⟩
    have B1 := hidH (B0.out.trans (hb.mono B0.out.size))
    clear hb
    go_wp2_with fail
    go_ret
    rw [HP.out]
    exact ⟨_, rfl, RowS.nil _ _ _ _ _ (by unfold maxLen; omega) (by intro h; first | cases h | rfl), B1.out⟩
  · obtain ⟨h40, h100⟩ := linesOk_parts hok
    have HP := hidH (show plaL cs = cs.map (mirB (lonL cs)) by rw [plaL, hok]; rfl)
    have HLE := hidH (lonL_ge cs)
    have hlon := lonL_le cs 100 h100
    have H100 := hidH h100
    rw [hok] at HL
    clear hok h100
    go_enter Tryd.func24, Tryd.ntmps24
    go_wp2_with fail
    refine (HL.out _ B0.out).mono ?_; rintro e w1 ⟨rfl, hb⟩
    have B1 := hidH (B0.out.trans (hb.mono B0.out.size))
    have O1 := hidH (ownsBelowS HO.out hb)
    clear hb B0 HO HL
    go_wp2_with fail
    go_loopw [4, 5] (fun m i wr => ∃ k : Nat, k ≤ cs.length ∧ i = .int .i64 k ∧ m = .int .i64 (lonL (cs.take k)) ∧ wr = w1) (fun _ i _ => cs.length - (intOf i).toNat)
    case atStart => exact ⟨0, Nat.zero_le _, rfl, rfl, rfl⟩
    case round =>
      obtain ⟨k, hk, rfl, rfl, rfl⟩ := hrel
      by_cases hlt : k < cs.length
      · obtain ⟨s, hs⟩ := get_lt cs k hlt
        obtain ⟨b, off, rfl, _, _, hc0⟩ := HC.out k s hs
        have hc := (B1.out.cell (p := ⟨b, off + k, none⟩) (cell_blk _ _ _ hc0)).trans hc0
        have HST := hidH (lonL_step cs k s hs)
        have hss := H100.out s (List.mem_of_getElem? hs)
        clear hs hc0
        go_wp2_with fail
        go_roundw
        case rel => exact ⟨k + 1, by omega, by go_num, by rw [HST.out]; go_num, by first | rfl | trivial⟩
        case measure => simp [intOf]; omega
      · obtain rfl : k = cs.length := by omega
        rw [List.take_length]
        have hPT : ∀ k, k ≤ cs.length → ((cs.map (mirB (lonL cs))).take k).length = k := fun k h => by rw [List.length_take, List.length_map]; omega
        have HPT := hidH hPT
        clear hPT
        go_wp2_with fail
        go_loopw [3, 6] (fun o i wr => ∃ (k : Nat) (ov : Value), k ≤ cs.length ∧ i = .int .i64 k ∧ ov = o ∧ wr.ownsRow w.heap.size 9 1 ov k (intsS ((cs.map (mirB (lonL cs))).take k)) ∧ Below w.heap.size w wr) (fun _ i _ => cs.length - (intOf i).toNat)
        case atStart => exact ⟨0, _, Nat.zero_le _, rfl, rfl, O1.out, B1.out⟩
        case round =>
          obtain ⟨k, ov, hk, rfl, rfl, hown, hb⟩ := hrel
          have HW := hidH hown
          have HB := hidH hb
          have hsz := HB.out.size
          clear hown hb O1 B1
          by_cases hlt : k < cs.length
          · obtain ⟨s, hs⟩ := get_lt cs k hlt
            obtain ⟨b, off, rfl, _, _, hc0⟩ := HC.out k s hs
            have hc := (HB.out.cell (p := ⟨b, off + k, none⟩) (cell_blk _ _ _ hc0)).trans hc0
            have HST := hidH (map_take_step (f := mirB (lonL cs)) hs)
            have hle := HLE.out s (List.mem_of_getElem? hs)
            have HMI := hidH (fun W => sMirror_any s (lonL cs) hle (by omega) W)
            have HS := hidH (ints_snocS' ((cs.map (mirB (lonL cs))).take k) (mirB (lonL cs) s))
            clear hs hc0 hle
            go_wp2_with fail
            refine (HMI.out _).mono ?_; rintro e w2 ⟨rfl, hww⟩
            rw [hww]
            clear hww
            generalize mirB (lonL cs) s = z at *
            go_wp2_with (at_builtin; refine wpList_append_own _ rfl _ _ 30 rfl w.heap.size 9 i0 (.string ⟨#[]⟩) 1 16 Tryd.underlying30 hi0 hz0 hz1 hz2 rfl (by decide) _ _ _ rfl (HW.out.alloc _) ⟨wr.heap.size, 0, none⟩ 1 1 [.string z] rfl rfl (news_oneS wr _ _) (one_oneS _) (by unfold maxLen; omega) (by omega) (by simp; omega) ?_)
            intro v' w5 hown1 hgrow _
            have HBL := hidH (((Below.refl _ wr).alloc hsz _).grown hgrow (by simp; omega) fun g hg => (HW.out.lt g hg).1 : Below w.heap.size wr w5)
            rw [HS.out] at hown1
            rw [HST.out] at hown1
            have HN := hidH hown1
            clear hown1 hgrow
            go_wp2
            go_roundw
            case rel => exact ⟨k + 1, v', by omega, by go_num, rfl, HN.out, HB.out.trans HBL.out⟩
            case measure => simp [intOf]; omega
          · obtain rfl : k = cs.length := by omega
            rw [← List.length_map (mirB (lonL cs)), List.take_length, List.length_map] at HW
            go_wp2_with fail
            go_ret
            rw [HP.out]
            exact ⟨ov, rfl, (row_of_ownsS HW.out).1, HB.out⟩
end Go.Proofs.YtgafhkjcdddhcaaDoor
