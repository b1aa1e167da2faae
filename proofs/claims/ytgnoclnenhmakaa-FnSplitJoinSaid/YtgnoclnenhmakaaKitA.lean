/-
  The reader of drawn inputs: a pick from n numbers is one of them, and moves the reader alone. Condition: the reader has been asked at most a million times.
  The reader of drawn inputs: opening it, and a number out of a list. Condition: the reader has been asked at most a million times.
-/
import Derived.Test.YtgnoclnenhmakaaBase
import Derived.BigQuiet
import Derived.OpenShut
namespace Go.Proofs.Ytgnoclnenhmakaa
set_option maxRecDepth 4000
open Go.RowKit
/-- Block r is a reader that has been asked at most B times. -/
def Rd (w : World) (r B : Nat) : Prop := ∃ (a : Option Addr) (len cap p : Nat), p ≤ B ∧ len ≤ 2000 ∧ r < w.heap.size ∧
  w.cell? ⟨r, 0, none⟩ = some (.slice a len cap) ∧ w.cell? ⟨r, 1, none⟩ = some (.int .i64 p) ∧ w.frozen? ⟨r, 1, none⟩ = false ∧
  (∀ j, j < len → ∃ b off x, a = some ⟨b, off, none⟩ ∧ b < r ∧ 0 ≤ x ∧ x ≤ 255 ∧ w.cell? ⟨b, off + j, none⟩ = some (.int .u8 x))
/-- What a pick from n numbers answers. -/
def Picked (n : Int) (r B : Nat) (w : World) (e : Ending) (w' : World) : Prop := ∃ x : Int, e = .returned (.int .i64 x) ∧ 0 ≤ x ∧ (1 ≤ n → x < n) ∧ Rd w' r (B + 1) ∧ Onto r w w'
theorem xor_nn (x y : Int) (hx : 0 ≤ x) (hx2 : x < 1000000000000) (hy : 0 ≤ y) (hy2 : y < 1000000000000) : ∃ z : Nat, bits .xor .i64 x y = (z : Int) ∧ z < 1099511627776 := by
  obtain ⟨a, rfl⟩ := Int.eq_ofNat_of_zero_le hx
  obtain ⟨b, rfl⟩ := Int.eq_ofNat_of_zero_le hy
  have hz : a ^^^ b < 2 ^ 40 := Nat.xor_lt_two_pow (by omega) (by omega)
  refine ⟨a ^^^ b, ?_, hz⟩
  show IntKind.i64.wrap ((BitVec.ofInt 64 (a : Int) ^^^ BitVec.ofInt 64 (b : Int)).toNat : Int) = _
  rw [BitVec.toNat_xor, ofInt_u64 a (by omega), ofInt_u64 b (by omega)]
  exact IntWalk.i64_in _ (by omega)
set_option maxHeartbeats 800000 in
theorem pick_far (n : Int) (r b off len cap p : Nat) (x1 x2 : Int) (w : World) (hn : 1 ≤ n) (hp : p ≤ 1000000) (hl : len ≤ 2000) (hl0 : 0 < len) (hlp : len ≤ p) (hb : b < r)
    (h0 : w.cell? ⟨r, 0, none⟩ = some (.slice (some ⟨b, off, none⟩) len cap)) (h1 : w.cell? ⟨r, 1, none⟩ = some (.int .i64 p)) (hf : w.frozen? ⟨r, 1, none⟩ = false)
    (hx1 : 0 ≤ x1 ∧ x1 ≤ 255) (hx2 : 0 ≤ x2 ∧ x2 ≤ 255) (hc1 : w.cell? ⟨b, off + p % len, none⟩ = some (.int .u8 x1)) (hc2 : w.cell? ⟨b, off + (p * 7 + 3) % len, none⟩ = some (.int .u8 x2)) :
    Calls Try.prog 49 #[.pointer (some ⟨r, 0, none⟩), .int .i64 n] w fun e w' => ∃ x : Int, e = .returned (.int .i64 x) ∧ 0 ≤ x ∧ x < n ∧ ∃ q, w' = (w.setCell ⟨r, 1, none⟩ (.int .i64 (p + 1))).drewN q := by
  have hl1 : ((len : Int) == 0) = false := beq_eq_false_iff_ne.2 (by omega)
  have hlt : ¬ p < len := by omega
  have other : ∀ i, ⟨b, i, none⟩ ≠ (⟨r, 1, none⟩ : Addr) := fun i h => by injection h; omega
  have k0 : (w.setCell ⟨r, 1, none⟩ (.int .i64 (p + 1))).cell? ⟨r, 0, none⟩ = some (.slice (some ⟨b, off, none⟩) len cap) := by
    rw [World.cell?_setCell_other _ _ _ _ (by intro h; injection h; omega)]; exact h0
  have k1 : (w.setCell ⟨r, 1, none⟩ (.int .i64 (p + 1))).cell? ⟨b, off + p % len, none⟩ = some (.int .u8 x1) := by
    rw [World.cell?_setCell_other _ _ _ _ (fun h => other _ h.symm)]; exact hc1
  have k2 : (w.setCell ⟨r, 1, none⟩ (.int .i64 (p + 1))).cell? ⟨b, off + (p * 7 + 3) % len, none⟩ = some (.int .u8 x2) := by
    rw [World.cell?_setCell_other _ _ _ _ (fun h => other _ h.symm)]; exact hc2
  have hln : ¬ len = 0 := by omega
  have b1 := Nat.mod_lt p hl0
  have b2 := Nat.mod_lt (p * 7 + 3) hl0
  have b3 := Nat.div_le_self p len
  have e1 : (p : Int).tmod len = ((p % len : Nat) : Int) := by rw [Int.tmod_eq_emod_of_nonneg (by omega)]; rfl
  have e1' : (p : Int) % len = ((p % len : Nat) : Int) := rfl
  have e2 : ((p : Int) * 7 + 3).tmod len = (((p * 7 + 3) % len : Nat) : Int) := by
    rw [Int.tmod_eq_emod_of_nonneg (by omega), Int.natCast_emod, Int.natCast_add, Int.natCast_mul]; rfl
  have e2' : ((p : Int) * 7 + 3) % len = (((p * 7 + 3) % len : Nat) : Int) := by
    rw [Int.natCast_emod, Int.natCast_add, Int.natCast_mul]; rfl
  have e3 : (p : Int).tdiv len = ((p / len : Nat) : Int) := by rw [Int.tdiv_eq_ediv_of_nonneg (by omega)]; rfl
  have e3' : (p : Int) / len = ((p / len : Nat) : Int) := rfl
  generalize p % len = i1 at *
  generalize (p * 7 + 3) % len = i2 at *
  generalize p / len = d at *
  have v1 : IntKind.i64.wrap ((p : Int) * 7) = (p : Int) * 7 := IntWalk.i64_in _ (by omega)
  have v2 : IntKind.i64.wrap ((p : Int) * 7 + 3) = (p : Int) * 7 + 3 := IntWalk.i64_in _ (by omega)
  have v3 : IntKind.i64.wrap (x1 * 131) = x1 * 131 := IntWalk.i64_in _ (by omega)
  have v4 : IntKind.i64.wrap (x2 * 1117) = x2 * 1117 := IntWalk.i64_in _ (by omega)
  have v5 : IntKind.i64.wrap (x1 * 131 + x2 * 1117) = x1 * 131 + x2 * 1117 := IntWalk.i64_in _ (by omega)
  have v6 : IntKind.i64.wrap ((p : Int) * 29) = (p : Int) * 29 := IntWalk.i64_in _ (by omega)
  have v7 : IntKind.i64.wrap (x1 * 131 + x2 * 1117 + (p : Int) * 29) = x1 * 131 + x2 * 1117 + (p : Int) * 29 := IntWalk.i64_in _ (by omega)
  have v8 : IntKind.i64.wrap ((d : Int) * 53) = (d : Int) * 53 := IntWalk.i64_in _ (by omega)
  have v9 : IntKind.i64.wrap (x1 * 131 + x2 * 1117 + (p : Int) * 29 + (d : Int) * 53) = x1 * 131 + x2 * 1117 + (p : Int) * 29 + (d : Int) * 53 := IntWalk.i64_in _ (by omega)
  have v10 : IntKind.i64.wrap x1 = x1 := IntWalk.i64_in _ (by omega)
  have v11 : IntKind.i64.wrap x2 = x2 := IntWalk.i64_in _ (by omega)
  clear hc1 hc2 other
  go_enter Try.func49, Try.ntmps49
  go_wp2_with fail
  go_quiet (fail)
  clear v1 v2 v3 v4 v5 v6 v7 v8 v9 v10 v11 e1 e1' e2 e2' e3 e3' k0 k1 k2
  have hX : 0 ≤ x1 * 131 + x2 * 1117 + (p : Int) * 29 + (d : Int) * 53 ∧ x1 * 131 + x2 * 1117 + (p : Int) * 29 + (d : Int) * 53 < 1000000000000 := by omega
  generalize x1 * 131 + x2 * 1117 + (p : Int) * 29 + (d : Int) * 53 = X at *
  obtain ⟨z, hz, hzb⟩ := xor_nn X (X / 64) hX.1 hX.2 (by omega) (by omega)
  have m1 := Int.emod_nonneg (z : Int) (show n ≠ 0 by omega)
  have m2 := Int.emod_lt_of_pos (z : Int) (show 0 < n by omega)
  go_wp2
  go_ret
  exact ⟨_, rfl, m1, m2, _, rfl⟩
set_option maxHeartbeats 800000 in
theorem pick_near (n : Int) (r b off len cap p : Nat) (x1 : Int) (w : World) (hn : 1 ≤ n) (hp : p ≤ 1000000) (hlp : p < len) (hb : b < r)
    (h0 : w.cell? ⟨r, 0, none⟩ = some (.slice (some ⟨b, off, none⟩) len cap)) (h1 : w.cell? ⟨r, 1, none⟩ = some (.int .i64 p)) (hf : w.frozen? ⟨r, 1, none⟩ = false)
    (hx1 : 0 ≤ x1 ∧ x1 ≤ 255) (hc1 : w.cell? ⟨b, off + p, none⟩ = some (.int .u8 x1)) :
    Calls Try.prog 49 #[.pointer (some ⟨r, 0, none⟩), .int .i64 n] w fun e w' => ∃ x : Int, e = .returned (.int .i64 x) ∧ 0 ≤ x ∧ x < n ∧ ∃ q, w' = (w.setCell ⟨r, 1, none⟩ (.int .i64 (p + 1))).drewN q := by
  have hl1 : ((len : Int) == 0) = false := beq_eq_false_iff_ne.2 (by omega)
  have k0 : (w.setCell ⟨r, 1, none⟩ (.int .i64 (p + 1))).cell? ⟨r, 0, none⟩ = some (.slice (some ⟨b, off, none⟩) len cap) := by
    rw [World.cell?_setCell_other _ _ _ _ (by intro h; injection h; omega)]; exact h0
  have k1 : (w.setCell ⟨r, 1, none⟩ (.int .i64 (p + 1))).cell? ⟨b, off + p, none⟩ = some (.int .u8 x1) := by
    rw [World.cell?_setCell_other _ _ _ _ (by intro h; injection h; omega)]; exact hc1
  clear hc1
  have m1 := Int.emod_nonneg x1 (show n ≠ 0 by omega)
  have m2 := Int.emod_lt_of_pos x1 (show 0 < n by omega)
  go_enter Try.func49, Try.ntmps49
  go_wp2
  go_ret
  exact ⟨_, rfl, m1, m2, 0, rfl⟩
theorem pick_none (n : Int) (r cap p : Nat) (a : Option Addr) (w : World) (hn : 1 ≤ n) (hp : p ≤ 1000000)
    (h0 : w.cell? ⟨r, 0, none⟩ = some (.slice a 0 cap)) (h1 : w.cell? ⟨r, 1, none⟩ = some (.int .i64 p)) (hf : w.frozen? ⟨r, 1, none⟩ = false) :
    Calls Try.prog 49 #[.pointer (some ⟨r, 0, none⟩), .int .i64 n] w fun e w' => e = .returned (.int .i64 0) ∧ w.setCell ⟨r, 1, none⟩ (.int .i64 (p + 1)) = w' := by
  have k0 : (w.setCell ⟨r, 1, none⟩ (.int .i64 (p + 1))).cell? ⟨r, 0, none⟩ = some (.slice a 0 cap) := by
    rw [World.cell?_setCell_other _ _ _ _ (by intro h; injection h; omega)]; exact h0
  go_enter Try.func49, Try.ntmps49
  go_wp2
  go_ret
  exact ⟨rfl, rfl⟩
theorem pick_low (n : Int) (r len cap p : Nat) (a : Option Addr) (w : World) (hn : n < 1) (hp : p ≤ 1000000)
    (h0 : w.cell? ⟨r, 0, none⟩ = some (.slice a len cap)) (h1 : w.cell? ⟨r, 1, none⟩ = some (.int .i64 p)) (hf : w.frozen? ⟨r, 1, none⟩ = false) :
    Calls Try.prog 49 #[.pointer (some ⟨r, 0, none⟩), .int .i64 n] w fun e w' => e = .returned (.int .i64 0) ∧ w.setCell ⟨r, 1, none⟩ (.int .i64 (p + 1)) = w' := by
  have k0 : (w.setCell ⟨r, 1, none⟩ (.int .i64 (p + 1))).cell? ⟨r, 0, none⟩ = some (.slice a len cap) := by
    rw [World.cell?_setCell_other _ _ _ _ (by intro h; injection h; omega)]; exact h0
  go_enter Try.func49, Try.ntmps49
  go_wp2
  go_ret
  exact ⟨rfl, rfl⟩
theorem Rd.moved {w : World} {r B : Nat} {a : Option Addr} {len cap p : Nat} (hp : p ≤ B) (hl : len ≤ 2000) (hr : r < w.heap.size)
    (h0 : w.cell? ⟨r, 0, none⟩ = some (.slice a len cap)) (h1 : w.cell? ⟨r, 1, none⟩ = some (.int .i64 p)) (hf : w.frozen? ⟨r, 1, none⟩ = false)
    (hd : ∀ j, j < len → ∃ b off x, a = some ⟨b, off, none⟩ ∧ b < r ∧ 0 ≤ x ∧ x ≤ 255 ∧ w.cell? ⟨b, off + j, none⟩ = some (.int .u8 x)) (q : Nat) :
    Rd ((w.setCell ⟨r, 1, none⟩ (.int .i64 (p + 1))).drewN q) r (B + 1) ∧ Onto r w ((w.setCell ⟨r, 1, none⟩ (.int .i64 (p + 1))).drewN q) := by
  have ho := (Onto.setCell r 1 w (.int .i64 ((p : Int) + 1))).drewN q
  refine ⟨⟨a, len, cap, p + 1, by omega, hl, Nat.lt_of_lt_of_le hr ho.size, ?_, ?_, ?_, ?_⟩, ho⟩
  · rw [World.cell?_drewN, World.cell?_setCell_other _ _ _ _ (by intro h; injection h; omega)]; exact h0
  · rw [World.cell?_drewN, World.cell?_setCell_same _ _ _ h1]; rfl
  · simp [hf]
  · intro j hj
    obtain ⟨b, off, x, e, hb, x1, x2, hc⟩ := hd j hj
    exact ⟨b, off, x, e, hb, x1, x2, by rw [World.cell?_drewN, World.cell?_setCell_other _ _ _ _ (by intro h; injection h; omega)]; exact hc⟩
theorem pick_any (n : Int) (r B : Nat) (w : World) (h : Rd w r B) (hB : B ≤ 1000000) : Calls Try.prog 49 #[.pointer (some ⟨r, 0, none⟩), .int .i64 n] w (Picked n r B w) := by
  obtain ⟨a, len, cap, p, hp, hl, hr, h0, h1, hf, hd⟩ := h
  have hm := Rd.moved hp hl hr h0 h1 hf hd
  by_cases hn : 1 ≤ n
  · by_cases hl0 : len = 0
    · subst hl0
      exact (pick_none n r cap p a w hn (by omega) h0 h1 hf).mono fun e w' ⟨he, hw⟩ => ⟨0, he, by omega, fun _ => by omega, by rw [← hw]; exact hm 0⟩
    · by_cases hlp : p < len
      · obtain ⟨b, off, x, rfl, hb, x1, x2, hc⟩ := hd p hlp
        exact (pick_near n r b off len cap p x w hn (by omega) hlp hb h0 h1 hf ⟨x1, x2⟩ hc).mono fun e w' ⟨y, he, y0, y1, q, hw⟩ => ⟨y, he, y0, fun _ => y1, by rw [hw]; exact hm q⟩
      · obtain ⟨b, off, x, rfl, hb, x1, x2, hc⟩ := hd (p % len) (Nat.mod_lt _ (by omega))
        obtain ⟨b', off', y, e, _, y1, y2, hc2⟩ := hd ((p * 7 + 3) % len) (Nat.mod_lt _ (by omega))
        simp only [Option.some.injEq, Addr.mk.injEq] at e
        obtain ⟨rfl, rfl, _⟩ := e
        exact (pick_far n r b off len cap p x y w hn (by omega) hl (by omega) (by omega) hb h0 h1 hf ⟨x1, x2⟩ ⟨y1, y2⟩ hc hc2).mono fun e w' ⟨y, he, y0, y1, q, hw⟩ => ⟨y, he, y0, fun _ => y1, by rw [hw]; exact hm q⟩
  · exact (pick_low n r len cap p a w (by omega) (by omega) h0 h1 hf).mono fun e w' ⟨he, hw⟩ => ⟨0, he, by omega, fun h => absurd h hn, by rw [← hw]; exact hm 0⟩
end Go.Proofs.Ytgnoclnenhmakaa
namespace Go.Proofs.Ytgnoclnenhmakaa
set_option maxRecDepth 4000
open Go.RowKit
/-- A byte slice that came in: nil, or its cells hold bytes. -/
def Bytes (w : World) (a : Option Addr) (len : Nat) : Prop := ∀ j, j < len → ∃ b off x, a = some ⟨b, off, none⟩ ∧ b < w.heap.size ∧ 0 ≤ x ∧ x ≤ 255 ∧ w.cell? ⟨b, off + j, none⟩ = some (.int .u8 x)
/-- A byte slice that came in, with its length and its capacity. -/
structure Came (w : World) (a : Option Addr) (len cap : Nat) : Prop where
  lenLe : len ≤ cap
  capLe : cap ≤ maxLen
  bytes : Bytes w a len
  ofNil : a = none → cap = 0
theorem came_nil (w : World) : Came w none 0 0 := ⟨Nat.le_refl _, Nat.zero_le _, fun _ hj => absurd hj (Nat.not_lt_zero _), fun _ => rfl⟩
theorem cell_lt (w : World) (p : Addr) (v : Value) (h : w.cell? p = some v) : p.block < w.heap.size := by
  unfold World.cell? at h
  split at h
  · rename_i hb
    exact (Array.getElem?_eq_some_iff.1 hb).1
  · simp at h
theorem came_row (w : World) (x : Addr) (l c : Nat) (zs : List Int) (hl : l ≤ c) (hm : c ≤ maxLen) (hz : zs.length = c) (hcell : ∀ i, i < zs.length → w.cell? (x.add i) = some (.int .u8 (zs.getD i 0))) (hwz : ∀ n ∈ zs, (Lit.int .u8 n).wf = true) : Came w (some x) l c := by
  refine ⟨hl, hm, fun j hj => ?_, fun h => by cases h⟩
  obtain ⟨b, off, spot⟩ := x
  have hc := hcell j (by omega)
  have h0 := hcell 0 (by omega)
  have hspot : spot = none := by simpa [Addr.add] using World.cell?_spot h0
  subst hspot
  have e : (⟨b, off, none⟩ : Addr).add j = ⟨b, off + j, none⟩ := by simp [Addr.add]
  rw [e] at hc
  have hb := bounds_u8 (hwz _ (List.getElem_mem (l := zs) (n := j) (by omega)))
  have eg : zs.getD j 0 = zs[j] := by rw [List.getD_eq_getElem?_getD, List.getElem?_eq_getElem (by omega)]; rfl
  rw [eg] at hc
  exact ⟨b, off, zs[j], rfl, cell_lt w _ _ hc, hb.1, hb.2, hc⟩
/-- A call that answers a pointer to a new reader. -/
def Opened (w : World) (e : Ending) (w' : World) : Prop := e = .returned (.pointer (some ⟨w.heap.size, 0, none⟩)) ∧ Rd w' w.heap.size 0 ∧ Below w.heap.size w w'
theorem rd_new (w : World) (a : Option Addr) (len cap : Nat) (hl : len ≤ 2000) (hb : Bytes w a len) : Rd (w.alloc (.cells #[.slice a len cap, .int .i64 0] 74)) w.heap.size 0 := by
  refine ⟨a, len, cap, 0, Nat.le_refl _, hl, by simp, by simp, by simp, by simp, fun j hj => ?_⟩
  obtain ⟨b, off, x, rfl, hlt, x1, x2, hc⟩ := hb j hj
  exact ⟨b, off, x, rfl, hlt, x1, x2, by rw [World.cell?_alloc_past _ _ _ hlt]; exact hc⟩
theorem open_any (a : Option Addr) (len cap : Nat) (w : World) (hl : len ≤ 1048576) (hcap : len ≤ cap) (hcap2 : cap ≤ 9223372036854775807) (hb : Bytes w a len) (hnil : a = none → cap = 0) : Calls Try.prog 28 #[.slice a len cap] w (Opened w) := by
  by_cases h : 2000 < len
  · have hb2 : Bytes w a 2000 := fun j hj => hb j (by omega)
    obtain ⟨b, off, _, rfl, _⟩ := hb 0 (by omega)
    have hR := rd_new w (some ⟨b, off, none⟩) 2000 cap (Nat.le_refl _) hb2
    have HR := hidH hR
    clear hR hb hb2 hnil
    go_enter Try.func28, Try.ntmps28
    go_wp2
    go_ret
    exact ⟨rfl, HR.out, (Below.refl _ _).alloc (Nat.le_refl _) _⟩
  · have HR := hidH (rd_new w a len cap (by omega) hb)
    clear hb hnil
    go_enter Try.func28, Try.ntmps28
    go_wp2
    go_ret
    exact ⟨rfl, HR.out, (Below.refl _ _).alloc (Nat.le_refl _) _⟩
/-- A slice of numbers lies apart from block r. -/
def Ints (w : World) (r : Nat) (a : Addr) (zs : List Int) : Prop := a.spot = none ∧ a.block < w.heap.size ∧ a.block ≠ r ∧ ∀ j z, zs[j]? = some z → w.cell? ⟨a.block, a.off + j, none⟩ = some (.int .i64 z)
/-- What a number out of a list answers. -/
def OneOf (zs : List Int) (r B : Nat) (w : World) (e : Ending) (w' : World) : Prop := ∃ z, z ∈ zs ∧ e = .returned (.int .i64 z) ∧ Rd w' r (B + 1) ∧ Onto r w w'
theorem num_any (b off : Nat) (zs : List Int) (r B : Nat) (w : World) (h : Rd w r B) (hB : B ≤ 1000000) (hz : 0 < zs.length) (hz2 : zs.length ≤ 1000) (hi : Ints w r ⟨b, off, none⟩ zs) :
    Calls Try.prog 50 #[.pointer (some ⟨r, 0, none⟩), .slice (some ⟨b, off, none⟩) zs.length zs.length] w (OneOf zs r B w) := by
  obtain ⟨_, hbl, hbr, hc⟩ := hi
  have HP := hidH (pick_any zs.length r B w h hB)
  have HC := hidH hc
  clear hc h
  go_enter Try.func50, Try.ntmps50
  go_wp2_with fail
  refine HP.out.mono ?_
  rintro e w' ⟨x, rfl, x0, x1, hR, hO⟩
  have hx := x1 (by omega)
  clear x1
  obtain ⟨k, rfl⟩ := Int.eq_ofNat_of_zero_le x0
  have hk : k < zs.length := by omega
  obtain ⟨z, hz'⟩ : ∃ z, zs[k]? = some z := ⟨_, List.getElem?_eq_getElem hk⟩
  have hcell : w'.cell? ⟨b, off + k, none⟩ = some (.int .i64 z) := by
    rw [hO.cell hbl hbr]; exact HC.out _ _ hz'
  have HM := hidH (List.mem_of_getElem? hz')
  have HR := hidH hR
  have HO := hidH hO
  clear hz' hR hO
  go_wp2
  go_ret
  exact ⟨z, HM.out, rfl, HR.out, HO.out⟩
theorem Rd.more {w : World} {r B C : Nat} (h : Rd w r B) (hB : B ≤ C) : Rd w r C := by
  obtain ⟨a, len, cap, p, hp, t⟩ := h
  exact ⟨a, len, cap, p, by omega, t⟩
theorem Rd.onto {w w' : World} {r B : Nat} (h : Rd w r B) (hb : Below w.heap.size w w') : Rd w' r B := by
  obtain ⟨a, len, cap, p, hp, hl, hr, h0, h1, hf, hd⟩ := h
  refine ⟨a, len, cap, p, hp, hl, Nat.lt_of_lt_of_le hr hb.size, ?_, ?_, ?_, fun j hj => ?_⟩
  · rw [hb.cell (p := ⟨r, 0, none⟩) hr]; exact h0
  · rw [hb.cell (p := ⟨r, 1, none⟩) hr]; exact h1
  · rw [hb.frozen (p := ⟨r, 1, none⟩) hr]; exact hf
  · obtain ⟨b, off, x, e, hlt, x1, x2, hc⟩ := hd j hj
    exact ⟨b, off, x, e, hlt, x1, x2, by rw [hb.cell (p := ⟨b, off + j, none⟩) (by show b < _; omega)]; exact hc⟩
/-- The cells of a list of numbers. -/
def intC (zs : List Int) : Array Value := (zs.map (Value.int .i64)).toArray
theorem intC_at (zs : List Int) (j : Nat) (z : Int) (h : zs[j]? = some z) : (intC zs)[j]? = some (.int .i64 z) := by simp [intC, h]
theorem ints_new (w : World) (r t : Nat) (zs : List Int) (hr : r < w.heap.size) : Ints (w.alloc (.cells (intC zs) t)) r ⟨w.heap.size, 0, none⟩ zs :=
  ⟨rfl, by simp, by show w.heap.size ≠ r; omega, fun j z h => by
    show (w.alloc (.cells (intC zs) t)).cell? ⟨w.heap.size, 0 + j, none⟩ = _
    rw [Nat.zero_add, World.cell?_alloc_at _ _ _ _ rfl]; exact intC_at zs j z h⟩
theorem Rd.lt {w : World} {r B : Nat} (h : Rd w r B) : r < w.heap.size := by
  obtain ⟨_, _, _, _, _, _, h, _⟩ := h; exact h
end Go.Proofs.Ytgnoclnenhmakaa
