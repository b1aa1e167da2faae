/-
  PutError: the program and the model, at every argument. No conditions but that slices fit in memory.
-/
import Derived.Test.YtiehkjidcnnncaaErrB
import Derived.Test.YtiehkjidcnnncaaPolyT
namespace Go.Proofs.Ytiehkjidcnnncaa
set_option maxRecDepth 4000
open Go.RowKit
/-- An entry that a table has. -/
def atOk (zs : List Int) (k : Int) : Bool := decide (0 ≤ k ∧ k < zs.length)
/-- An entry of a list with an amount added. -/
def putL (zs : List Int) (k : Nat) (a : Int) : List Int := zs.set k (zs.getD k 0 + a)
theorem putL_length (zs : List Int) (k : Nat) (a : Int) : (putL zs k a).length = zs.length := by simp [putL]
theorem getD_of {zs : List Int} {k : Nat} {z : Int} (h : zs[k]? = some z) : zs.getD k 0 = z := by rw [List.getD_eq_getElem?_getD, h]; rfl
def putOk (zs : List Int) (k a : Int) : Bool := tableOk zs && (atOk zs k && (inB 1000000000 a && inB 1000000000 (zs.getD k.toNat 0 + a)))
/-- What PutError answers. -/
def putA (zs : List Int) (k a : Int) : List Int := if putOk zs k a then putL zs k.toNat a else []
theorem putA_len (zs : List Int) (k a : Int) : (putA zs k a).length ≤ 1048576 := by
  unfold putA
  split
  · rename_i h
    simp only [putOk, Bool.and_eq_true] at h
    have := tableOk_len _ h.1
    rw [putL_length]; omega
  · simp
theorem tab_bd {zs : List Int} (h : tableOk zs = true) {k : Nat} {z : Int} (hz : zs[k]? = some z) : -1000000000 ≤ z ∧ z ≤ 1000000000 := ((listOk_iff _ _ _).1 h).2.2 z (List.mem_of_getElem? hz)
theorem tab_put (zs : List Int) (k : Nat) (a z : Int) (h : tableOk zs = true) (hz : zs[k]? = some z) : tableOk (putL zs k a) = inB 1000000000 (z + a) := by
  have hk := (List.getElem?_eq_some_iff.1 hz).1
  have ⟨h1, h2, h3⟩ := (listOk_iff _ _ _).1 h
  rw [Bool.eq_iff_iff]
  unfold tableOk
  rw [listOk_iff, putL_length, putL, getD_of hz, inB, decide_eq_true_eq]
  constructor
  · intro ⟨_, _, h⟩
    exact h _ (List.mem_of_getElem? (by rw [List.getElem?_set, if_pos rfl, if_pos hk]))
  · intro hb
    refine ⟨h1, h2, fun x hx => ?_⟩
    rcases List.mem_or_eq_of_mem_set hx with hx | rfl
    · exact h3 x hx
    · exact hb
theorem sPut4_any (v : Value) (zs : List Int) (k : Nat) (z a : Int) (w : World) (lo hi : Nat) (hv : Lies w lo hi v zs) (hz : zs[k]? = some z) (hn : zs.length ≤ 1048576) (h1 : -4611686018427387904 ≤ z + a) (h2 : z + a ≤ 4611686018427387904) : Calls Try.prog 39 #[v, .int .i64 k, .int .i64 a] w (NewRow (putL zs k a) w) := by
  have hk := (List.getElem?_eq_some_iff.1 hz).1
  obtain ⟨b, off, cap, rfl, hlc, hcm, _, _, _, hcell⟩ := hv.addr (by omega)
  obtain ⟨i0, hi0, hz0, hz1, hz2⟩ := info_parts infoInt
  have HC := hidH (cells_map hcell)
  have HO := hidH (oneCells zs)
  have HZ := hidH hz
  have HZD := hidH (getD_of hz)
  clear hcell hz
  unfold maxLen at hcm
  go_enter Try.func39, Try.ntmps39
  go_wp2_with (at_builtin; refine wpList_append_own _ rfl _ _ 22 rfl w.heap.size 3 i0 (.int .i64 0) 1 8 Try.underlying22 hi0 hz0 hz1 hz2 rfl (by decide) _ _ _ rfl (World.ownsRow_made w #[] 0 (Nat.le_refl _) (Nat.zero_le _) rfl) ⟨b, off, none⟩ zs.length cap (ints zs) rfl ?qc1 ?qc2 HO.out ?qc4 ?qc5 ?qc6 ?_)
  case qc1 => rw [ints_length, Nat.mul_one]
  case qc2 => exact HC.out _ ((Below.refl _ _).alloc (Nat.le_refl _) _)
  case qc4 => unfold maxLen; omega
  case qc5 => omega
  case qc6 => simp
  intro v' w1 hown hgrow hnil
  have HB1 := hidH (((Below.refl w.heap.size w).alloc (Nat.le_refl _) (.cells #[] 3)).grown hgrow (by simp) (by intro k hk; simp [Value.ownBlock] at hk; omega))
  have hr := (row_of_owns hown).1
  obtain ⟨b8, c8, rfl, hlc8, hcm8, hlo8, hhi8, hblk⟩ := hr.blk (by omega)
  have HBK := hidH hblk
  clear hown hgrow hnil hr hblk
  obtain ⟨hc8, hf8⟩ := HBK.out.2 k z HZ.out
  have HST := hidH (HBK.out.set k (z + a))
  unfold maxLen at hcm8
  go_wp2_with fail
  go_ret
  rw [putL, HZD.out]
  exact ⟨_, rfl, HST.out.row (by omega) HST.out.1 (by simpa using hlc8) (by unfold maxLen; omega) (by simp), HB1.out.setCell (by show w.heap.size ≤ b8; omega) _⟩
def sAtOk (zs : List Int) (k : Int) : Bool := decide (0 ≤ k ∧ k ≤ (zs.length : Int) - 1)
theorem sAtOk_eq (zs : List Int) (k : Int) : sAtOk zs k = atOk zs k := by
  unfold sAtOk atOk
  rw [Bool.eq_iff_iff, decide_eq_true_eq, decide_eq_true_eq]; omega
end Go.Proofs.Ytiehkjidcnnncaa
