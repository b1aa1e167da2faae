/-
  The text of one erratum: the program. Condition: the library's table of powers of ten is as its own text lays it.
-/
import Derived.Test.YtmejfkjbdokdaaaDoorErrFa
import Derived.Deep.RegionHeld
namespace Go.Proofs.YtmejfkjbdokdaaaDoor
set_option maxRecDepth 4000
open Go.RowKit
def eB (F : List Int) (k : Nat) : ByteArray := ⟨(eTxt F k).toArray⟩
theorem join_eB (F : List Int) (n : Nat) : joinB ((List.range n).map (eB F)) ⟨#[59]⟩ = ⟨(eTexts F n).toArray⟩ := by
  unfold joinB eTexts
  rw [List.map_map]
  congr 3
theorem eB_at (F : List Int) (n k : Nat) (h : k < n) : ((List.range n).map (eB F))[k]? = some (eB F k) := by
  rw [List.getElem?_map, List.getElem?_range h]; rfl
set_option maxHeartbeats 1600000 in
theorem erratumText_any (x y z : Int) (w : World) (hx : -1000000000 ≤ x ∧ x ≤ 1000000000) (hy : -1000000000 ≤ y ∧ y ≤ 1000000000) (hz : -1000000000 ≤ z ∧ z ≤ 1000000000) (hT : PowT w) : Calls Tryd.prog 22 #[.agg #[.int .i64 x, .int .i64 y, .int .i64 z]] w (Gives (.string (decB x ++ ⟨#[58]⟩ ++ decB y ++ ⟨#[62]⟩ ++ decB z)) w) := by
  have HB0 := hidH ((Below.refl w.heap.size w).alloc (Nat.le_refl _) (.cells #[.int .i64 x, .int .i64 y, .int .i64 z] 40))
  have HT := hidH (hT.below HB0.out)
  have lx : (decB x).size ≤ 21 := Lib.itoa_length_le x (by omega) (by omega)
  have ly : (decB y).size ≤ 21 := Lib.itoa_length_le y (by omega) (by omega)
  have lz : (decB z).size ≤ 21 := Lib.itoa_length_le z (by omega) (by omega)
  have hlt : w.heap.size < (w.alloc (.cells #[.int .i64 x, .int .i64 y, .int .i64 z] 40)).heap.size := by simp
  have c0 : (w.alloc (.cells #[.int .i64 x, .int .i64 y, .int .i64 z] 40)).cell? ⟨w.heap.size, 0, none⟩ = some (.int .i64 x) := by rw [World.cell?_alloc_at _ _ _ _ rfl]; rfl
  have c1 : (w.alloc (.cells #[.int .i64 x, .int .i64 y, .int .i64 z] 40)).cell? ⟨w.heap.size, 1, none⟩ = some (.int .i64 y) := by rw [World.cell?_alloc_at _ _ _ _ rfl]; rfl
  have c2 : (w.alloc (.cells #[.int .i64 x, .int .i64 y, .int .i64 z] 40)).cell? ⟨w.heap.size, 2, none⟩ = some (.int .i64 z) := by rw [World.cell?_alloc_at _ _ _ _ rfl]; rfl
  clear hT
  go_enter Tryd.func22, Tryd.ntmps22
  go_wp2_with fail
  generalize w.alloc (.cells #[.int .i64 x, .int .i64 y, .int .i64 z] 40) = wA at *
  have HX := hidH fun W (hb : Below wA.heap.size wA W) => (itoa_any x (by omega) (by omega) W (HT.out.below hb)).mono fun e w' (h : Gives _ W e w') => (⟨h.1, hb.trans (h.2.mono hb.size)⟩ : e = .returned (.string (decB x)) ∧ Below wA.heap.size wA w')
  have HY := hidH fun W (hb : Below wA.heap.size wA W) => (itoa_any y (by omega) (by omega) W (HT.out.below hb)).mono fun e w' (h : Gives _ W e w') => (⟨h.1, hb.trans (h.2.mono hb.size)⟩ : e = .returned (.string (decB y)) ∧ Below wA.heap.size wA w')
  have HZ := hidH fun W (hb : Below wA.heap.size wA W) => (itoa_any z (by omega) (by omega) W (HT.out.below hb)).mono fun e w' (h : Gives _ W e w') => (⟨h.1, hb.trans (h.2.mono hb.size)⟩ : e = .returned (.string (decB z)) ∧ Below wA.heap.size wA w')
  have Hc0 := hidH c0
  have Hc1 := hidH c1
  have Hc2 := hidH c2
  have HBc := hidH (Below.refl wA.heap.size wA)
  generalize decB x = dx at *
  generalize decB y = dy at *
  generalize decB z = dz at *
  go_region_held (fun w' => w'.cell? ⟨w.heap.size, 0, none⟩ = some (.int .i64 x) ∧ w'.cell? ⟨w.heap.size, 1, none⟩ = some (.int .i64 y) ∧ w'.cell? ⟨w.heap.size, 2, none⟩ = some (.int .i64 z))
    (first | exact ⟨c0, c1, c2⟩ | go_keep)
    (first
    | (go_at_call 37; (with_reducible refine (HX.out _ (by first | exact HBc.out | exact HBc.out.drew)).mono ?_); rintro e wd ⟨rfl, hbd⟩; have HBc := hidH hbd; have c0 : wd.cell? ⟨w.heap.size, 0, none⟩ = some (.int .i64 x) := (by rw [HBc.out.cell (p := ⟨w.heap.size, 0, none⟩) hlt]; exact Hc0.out); have c1 : wd.cell? ⟨w.heap.size, 1, none⟩ = some (.int .i64 y) := (by rw [HBc.out.cell (p := ⟨w.heap.size, 1, none⟩) hlt]; exact Hc1.out); have c2 : wd.cell? ⟨w.heap.size, 2, none⟩ = some (.int .i64 z) := (by rw [HBc.out.cell (p := ⟨w.heap.size, 2, none⟩) hlt]; exact Hc2.out); clear hbd)
    | (go_at_call 37; (with_reducible refine (HY.out _ (by first | exact HBc.out | exact HBc.out.drew)).mono ?_); rintro e wd ⟨rfl, hbd⟩; have HBc := hidH hbd; have c0 : wd.cell? ⟨w.heap.size, 0, none⟩ = some (.int .i64 x) := (by rw [HBc.out.cell (p := ⟨w.heap.size, 0, none⟩) hlt]; exact Hc0.out); have c1 : wd.cell? ⟨w.heap.size, 1, none⟩ = some (.int .i64 y) := (by rw [HBc.out.cell (p := ⟨w.heap.size, 1, none⟩) hlt]; exact Hc1.out); have c2 : wd.cell? ⟨w.heap.size, 2, none⟩ = some (.int .i64 z) := (by rw [HBc.out.cell (p := ⟨w.heap.size, 2, none⟩) hlt]; exact Hc2.out); clear hbd)
    | (go_at_call 37; (with_reducible refine (HZ.out _ (by first | exact HBc.out | exact HBc.out.drew)).mono ?_); rintro e wd ⟨rfl, hbd⟩; have HBc := hidH hbd; have c0 : wd.cell? ⟨w.heap.size, 0, none⟩ = some (.int .i64 x) := (by rw [HBc.out.cell (p := ⟨w.heap.size, 0, none⟩) hlt]; exact Hc0.out); have c1 : wd.cell? ⟨w.heap.size, 1, none⟩ = some (.int .i64 y) := (by rw [HBc.out.cell (p := ⟨w.heap.size, 1, none⟩) hlt]; exact Hc1.out); have c2 : wd.cell? ⟨w.heap.size, 2, none⟩ = some (.int .i64 z) := (by rw [HBc.out.cell (p := ⟨w.heap.size, 2, none⟩) hlt]; exact Hc2.out); clear hbd))
  all_goals (
    go_wp2_with fail
    go_ret
    exact ⟨rfl, HB0.out.trans (HBc.out.mono HB0.out.size)⟩)
end Go.Proofs.YtmejfkjbdokdaaaDoor
