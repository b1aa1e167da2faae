/-
  A drawn text of a polynomial, which is sometimes changed at one place. Condition: at most 1048576 bytes, which can be read.
-/
import Derived.Test.YtoahialihfijjaaDoorKitT
import Derived.Test.YtoahialihfijjaaDoorKitQ
import Derived.Test.YtoahialihfijjaaDoorKitR
import Derived.Test.YtoahialihfijjaaDoorKitC
import Derived.Test.YtoahialihfijjaaDoorStrF
import Derived.Deep.RegionWith
import Derived.IntWalk
namespace Go.Proofs.YtoahialihfijjaaDoor
set_option maxRecDepth 4000
open Go.RowKit
/-- A drawn text. -/
def DrawText (w : World) (e : Ending) (w' : World) : Prop := ∃ s : ByteArray, s.size ≤ 1000 ∧ e = .returned (.string s) ∧ Below w.heap.size w w'
def puts6 : List ByteArray := [⟨#[]⟩, ⟨#[48]⟩, ⟨#[32]⟩, ⟨#[45]⟩, ⟨#[120]⟩, ⟨#[57, 57, 57, 57, 57]⟩]
theorem puts6_size : ∀ z ∈ puts6, z.size ≤ 5 := by decide
theorem wrap64_small (m : Nat) (h : m ≤ 1000) : IntKind.i64.wrap (m : Int) = (m : Int) := IntWalk.i64_in _ (by omega)
set_option maxHeartbeats 1600000 in
theorem drawParsePoly (a : Option Addr) (len cap : Nat) (w : World) (hc : Came w a len cap) (hl : len ≤ 1048576) : Calls Tryd.prog 12 #[.slice a len cap] w (DrawText w) := by
  have HO := hidH (opened_any a len cap w hc hl)
  clear hc
  go_enter Tryd.func12, Tryd.ntmps12
  go_wp2_with fail
  refine HO.out.mono ?_
  rintro e w1 ⟨rfl, hR, hB⟩
  have R1 := hidH hR
  have B1 := hidH hB
  have s1 := hB.size
  have hr1 := hR.lt
  clear hR hB HO
  go_wp2_with fail
  refine (someS_any w.heap.size 0 w1 R1.out (by omega)).mono ?_
  rintro e w2 ⟨v, zs, rfl, hown, h1, h6, hbd, hR, hO⟩
  have RW := hidH (row_of_owns hown).1
  have R2 := hidH hR
  have O2 := hidH hO
  have s2 := hO.size
  have HTx := hidH (l2Text_any v zs w2 _ _ RW.out.lies (by omega) (fun x hx => by have := hbd x hx; omega))
  have hlen := textL_len zs (fun x hx => by have := hbd x hx; omega)
  have hne : textL zs ≠ [] := by
    cases zs with
    | nil => simp at h1
    | cons x r =>
      intro e
      unfold textL at e
      rw [List.map_cons, Lib.join_cons] at e
      exact itoa_ne x (List.append_eq_nil_iff.1 e).1
  have hpos : 0 < (textL zs).length := List.length_pos_iff.2 hne
  have ht : (⟨(textL zs).toArray⟩ : ByteArray).size = (textL zs).length := by simp [ByteArray.size]
  have ht1 : 0 < (⟨(textL zs).toArray⟩ : ByteArray).size := by omega
  have ht2 : (⟨(textL zs).toArray⟩ : ByteArray).size ≤ 132 := by omega
  obtain ⟨va, vn, vc, hvf⟩ : ∃ a2 n2 c2, v = .slice a2 n2 c2 := by
    obtain ⟨a2, c2, e, _⟩ := RW.out.lies
    exact ⟨a2, _, c2, e⟩
  subst hvf
  clear hown hR hO hbd hlen hne hpos ht RW
  generalize (⟨(textL zs).toArray⟩ : ByteArray) = t at *
  go_wp2_with fail
  refine HTx.out.mono ?_
  rintro e w3 ⟨rfl, hB⟩
  have R3 := hidH (R2.out.onto hB)
  have O3 := hidH (O2.out.trans (Onto.of_below hB))
  clear hB HTx R2 O2
  go_wp2_with fail
  refine (pick_any 2 w.heap.size _ w3 R3.out (by omega)).mono ?_
  rintro e w4 ⟨x, rfl, x0, x1, hR4, hO4⟩
  have R4 := hidH hR4
  have O4 := hidH (O3.out.trans hO4)
  clear x1 hR4 hO4 R3 O3
  by_cases e0 : x = 0
  · have b0 : (x == 0) = true := beq_iff_eq.2 e0
    clear e0
    go_wp2
    go_ret
    exact ⟨t, by omega, rfl, B1.out.trans (O4.out.below (Nat.le_refl _) s1)⟩
  · have b0 : (x == 0) = false := beq_eq_false_iff_ne.2 e0
    clear e0
    go_wp2_with fail
    refine (pick_any t.size w.heap.size _ w4 R4.out (by omega)).mono ?_
    rintro e w5 ⟨k, rfl, k0, k1, hR5, hO5⟩
    have R5 := hidH hR5
    have O5 := hidH (O4.out.trans hO5)
    have k2 := k1 (by omega)
    clear k1 hR5 hO5 R4 O4
    obtain ⟨q, rfl⟩ := Int.eq_ofNat_of_zero_le k0
    go_wp2
    have HC1 := hidH (show Rd (w5.alloc (.cells (strC puts6) 9)).drew w.heap.size (0 + 15 + 1 + 1) from Rd.drewN (R5.out.onto ((Below.refl w5.heap.size w5).alloc (Nat.le_refl _) (.cells (strC puts6) 9))) 1)
    have HC2 := hidH (show Strs (w5.alloc (.cells (strC puts6) 9)).drew w.heap.size ⟨w5.heap.size, 0, none⟩ puts6 from strs_new _ _ _ _ R5.out.lt)
    have HC4 := hidH (show Onto w.heap.size w1 (w5.alloc (.cells (strC puts6) 9)).drew from Onto.drewN (O5.out.trans ((Onto.refl _ w5).alloc (.cells (strC puts6) 9))) 1)
    have hx1 : (t.extract 0 q).size ≤ 132 := by rw [ByteArray.size_extract]; omega
    have hq : q < t.size := by omega
    clear R5 O5 k0 k2
    go_region_with (first | (go_at_call 29; refine (of_any w5.heap.size 0 puts6 w.heap.size _ _ HC1.out (by omega) (by decide) (by decide) HC2.out).mono ?_; rintro e w7 ⟨z, hz, rfl, hR7, hO7⟩; (have hz5 := puts6_size z hz); (have H7 := hidH (HC4.out.trans hO7)); (have R7 := hidH hR7); clear hz hR7 hO7) | (go_at_call 28; refine (pick_any 2 w.heap.size _ _ R7.out (by omega)).mono ?_; rintro e w8 ⟨y, rfl, y0, y1, hR8, hO8⟩; (have y2 := y1 (by omega)); (have H8 := hidH (H7.out.trans hO8)); (obtain ⟨p, rfl⟩ := Int.eq_ofNat_of_zero_le y0); (obtain ⟨m, hm, hms⟩ : ∃ m : Nat, (q : Int) + (p : Int) = (m : Int) ∧ m ≤ t.size := ⟨q + p, by omega, by omega⟩); (have hwm : IntKind.i64.wrap (m : Int) = (m : Int) := wrap64_small m (by omega)); clear y1 hR8 hO8))
    all_goals
      go_wp2
      go_ret
      refine ⟨_, ?_, rfl, B1.out.trans (H8.out.below (Nat.le_refl _) s1)⟩
      rw [ByteArray.size_append, ByteArray.size_append, ByteArray.size_extract, ByteArray.size_extract]
      omega
end Go.Proofs.YtoahialihfijjaaDoor
