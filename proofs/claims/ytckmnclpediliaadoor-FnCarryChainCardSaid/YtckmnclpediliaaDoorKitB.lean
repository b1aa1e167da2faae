/-
  The reader of drawn inputs: opening it, and a number out of a list. Condition: the reader has been asked at most a million times.
-/
import Derived.Test.YtckmnclpediliaaDoorKitA
import Derived.OpenShut
namespace Go.Proofs.YtckmnclpediliaaDoor
set_option maxRecDepth 4000
open Go.RowKit
/-- A byte slice that came in: nil, or its cells hold bytes. -/
def Bytes (w : World) (a : Option Addr) (len : Nat) : Prop := ∀ j, j < len → ∃ b off x, a = some ⟨b, off, none⟩ ∧ b < w.heap.size ∧ 0 ≤ x ∧ x ≤ 255 ∧ w.cell? ⟨b, off + j, none⟩ = some (.int .u8 x)
/-- A byte slice that came in, with its length and its capacity. -/
structure Came (w : World) (a : Option Addr) (len cap : Nat) : Prop where
  lenLe : len ≤ cap
  capLe : cap ≤ maxLen
  bytes : Bytes w a len
  ofNil : a = none → cap = 0
theorem came_nil (w : World) : Came w none 0 0 := ⟨Nat.le_refl _, Nat.zero_le _, fun _ hj => absurd hj (Nat.not_lt_zero _), fun _ => rfl⟩
theorem cell_lt (w : World) (p : Addr) (v : Value) (h : w.cell? p = some v) : p.block < w.heap.size := by
  unfold World.cell? at h
  split at h
  · rename_i hb
    exact (Array.getElem?_eq_some_iff.1 hb).1
  · simp at h
theorem came_row (w : World) (x : Addr) (l c : Nat) (zs : List Int) (hl : l ≤ c) (hm : c ≤ maxLen) (hz : zs.length = c) (hcell : ∀ i, i < zs.length → w.cell? (x.add i) = some (.int .u8 (zs.getD i 0))) (hwz : ∀ n ∈ zs, (Lit.int .u8 n).wf = true) : Came w (some x) l c := by
  refine ⟨hl, hm, fun j hj => ?_, fun h => by cases h⟩
  obtain ⟨b, off, spot⟩ := x
  have hc := hcell j (by omega)
  have h0 := hcell 0 (by omega)
  have hspot : spot = none := by simpa [Addr.add] using World.cell?_spot h0
  subst hspot
  have e : (⟨b, off, none⟩ : Addr).add j = ⟨b, off + j, none⟩ := by simp [Addr.add]
  rw [e] at hc
  have hb := bounds_u8 (hwz _ (List.getElem_mem (l := zs) (n := j) (by omega)))
  have eg : zs.getD j 0 = zs[j] := by rw [List.getD_eq_getElem?_getD, List.getElem?_eq_getElem (by omega)]; rfl
  rw [eg] at hc
  exact ⟨b, off, zs[j], rfl, cell_lt w _ _ hc, hb.1, hb.2, hc⟩
/-- A call that answers a pointer to a new reader. -/
def Opened (w : World) (e : Ending) (w' : World) : Prop := e = .returned (.pointer (some ⟨w.heap.size, 0, none⟩)) ∧ Rd w' w.heap.size 0 ∧ Below w.heap.size w w'
theorem rd_new (w : World) (a : Option Addr) (len cap : Nat) (hl : len ≤ 2000) (hb : Bytes w a len) : Rd (w.alloc (.cells #[.slice a len cap, .int .i64 0] 53)) w.heap.size 0 := by
  refine ⟨a, len, cap, 0, Nat.le_refl _, hl, by simp, by simp, by simp, by simp, fun j hj => ?_⟩
  obtain ⟨b, off, x, rfl, hlt, x1, x2, hc⟩ := hb j hj
  exact ⟨b, off, x, rfl, hlt, x1, x2, by rw [World.cell?_alloc_past _ _ _ hlt]; exact hc⟩
theorem open_any (a : Option Addr) (len cap : Nat) (w : World) (hl : len ≤ 1048576) (hcap : len ≤ cap) (hcap2 : cap ≤ 9223372036854775807) (hb : Bytes w a len) (hnil : a = none → cap = 0) : Calls Tryd.prog 16 #[.slice a len cap] w (Opened w) := by
  by_cases h : 2000 < len
  · have hb2 : Bytes w a 2000 := fun j hj => hb j (by omega)
    obtain ⟨b, off, _, rfl, _⟩ := hb 0 (by omega)
    have hR := rd_new w (some ⟨b, off, none⟩) 2000 cap (Nat.le_refl _) hb2
    have HR := hidH hR
    clear hR hb hb2 hnil
    go_enter Tryd.func16, Tryd.ntmps16
    go_wp2
    go_ret
    exact ⟨rfl, HR.out, (Below.refl _ _).alloc (Nat.le_refl _) _⟩
  · have HR := hidH (rd_new w a len cap (by omega) hb)
    clear hb hnil
    go_enter Tryd.func16, Tryd.ntmps16
    go_wp2
    go_ret
    exact ⟨rfl, HR.out, (Below.refl _ _).alloc (Nat.le_refl _) _⟩
/-- A slice of numbers lies apart from block r. -/
def Ints (w : World) (r : Nat) (a : Addr) (zs : List Int) : Prop := a.spot = none ∧ a.block < w.heap.size ∧ a.block ≠ r ∧ ∀ j z, zs[j]? = some z → w.cell? ⟨a.block, a.off + j, none⟩ = some (.int .i64 z)
/-- What a number out of a list answers. -/
def OneOf (zs : List Int) (r B : Nat) (w : World) (e : Ending) (w' : World) : Prop := ∃ z, z ∈ zs ∧ e = .returned (.int .i64 z) ∧ Rd w' r (B + 1) ∧ Onto r w w'
theorem num_any (b off : Nat) (zs : List Int) (r B : Nat) (w : World) (h : Rd w r B) (hB : B ≤ 1000000) (hz : 0 < zs.length) (hz2 : zs.length ≤ 1000) (hi : Ints w r ⟨b, off, none⟩ zs) :
    Calls Tryd.prog 29 #[.pointer (some ⟨r, 0, none⟩), .slice (some ⟨b, off, none⟩) zs.length zs.length] w (OneOf zs r B w) := by
  obtain ⟨_, hbl, hbr, hc⟩ := hi
  have HP := hidH (pick_any zs.length r B w h hB)
  have HC := hidH hc
  clear hc h
  go_enter Tryd.func29, Tryd.ntmps29
  go_wp2_with fail
  refine HP.out.mono ?_
  rintro e w' ⟨x, rfl, x0, x1, hR, hO⟩
  have hx := x1 (by omega)
  clear x1
  obtain ⟨k, rfl⟩ := Int.eq_ofNat_of_zero_le x0
  have hk : k < zs.length := by omega
  obtain ⟨z, hz'⟩ : ∃ z, zs[k]? = some z := ⟨_, List.getElem?_eq_getElem hk⟩
  have hcell : w'.cell? ⟨b, off + k, none⟩ = some (.int .i64 z) := by
    rw [hO.cell hbl hbr]; exact HC.out _ _ hz'
  have HM := hidH (List.mem_of_getElem? hz')
  have HR := hidH hR
  have HO := hidH hO
  clear hz' hR hO
  go_wp2
  go_ret
  exact ⟨z, HM.out, rfl, HR.out, HO.out⟩
theorem Rd.more {w : World} {r B C : Nat} (h : Rd w r B) (hB : B ≤ C) : Rd w r C := by
  obtain ⟨a, len, cap, p, hp, t⟩ := h
  exact ⟨a, len, cap, p, by omega, t⟩
theorem Rd.onto {w w' : World} {r B : Nat} (h : Rd w r B) (hb : Below w.heap.size w w') : Rd w' r B := by
  obtain ⟨a, len, cap, p, hp, hl, hr, h0, h1, hf, hd⟩ := h
  refine ⟨a, len, cap, p, hp, hl, Nat.lt_of_lt_of_le hr hb.size, ?_, ?_, ?_, fun j hj => ?_⟩
  · rw [hb.cell (p := ⟨r, 0, none⟩) hr]; exact h0
  · rw [hb.cell (p := ⟨r, 1, none⟩) hr]; exact h1
  · rw [hb.frozen (p := ⟨r, 1, none⟩) hr]; exact hf
  · obtain ⟨b, off, x, e, hlt, x1, x2, hc⟩ := hd j hj
    exact ⟨b, off, x, e, hlt, x1, x2, by rw [hb.cell (p := ⟨b, off + j, none⟩) (by show b < _; omega)]; exact hc⟩
/-- The cells of a list of numbers. -/
def intC (zs : List Int) : Array Value := (zs.map (Value.int .i64)).toArray
theorem intC_at (zs : List Int) (j : Nat) (z : Int) (h : zs[j]? = some z) : (intC zs)[j]? = some (.int .i64 z) := by simp [intC, h]
theorem ints_new (w : World) (r t : Nat) (zs : List Int) (hr : r < w.heap.size) : Ints (w.alloc (.cells (intC zs) t)) r ⟨w.heap.size, 0, none⟩ zs :=
  ⟨rfl, by simp, by show w.heap.size ≠ r; omega, fun j z h => by
    show (w.alloc (.cells (intC zs) t)).cell? ⟨w.heap.size, 0 + j, none⟩ = _
    rw [Nat.zero_add, World.cell?_alloc_at _ _ _ _ rfl]; exact intC_at zs j z h⟩
theorem Rd.lt {w : World} {r B : Nat} (h : Rd w r B) : r < w.heap.size := by
  obtain ⟨_, _, _, _, _, _, h, _⟩ := h; exact h
end Go.Proofs.YtckmnclpediliaaDoor
