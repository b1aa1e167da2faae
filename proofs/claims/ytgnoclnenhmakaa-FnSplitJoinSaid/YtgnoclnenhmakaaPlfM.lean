/-
  Mathematics of steps through a table. No conditions.
  GreedyPlan: the program, of whose plan only the number of segments is told.
-/
import Derived.Test.YtgnoclnenhmakaaPlanC
import Derived.Test.YtgnoclnenhmakaaPlanSg
import Derived.StillTailTactics
import Derived.Laws.AppendOwn
import Derived.StillTactics
import Derived.OwnWalk
import Derived.Laws.Pointers
import Derived.Deep.AppendLies
import Derived.Deep.LoopGhost
import Derived.Deep.Cut
namespace Go.Proofs.Ytgnoclnenhmakaa
set_option maxRecDepth 4000
open Go.RowKit
/-- Steps that go forward, and not behind those of a place before. -/
structure Fwd (n : Nat) (nx : Nat → Nat) : Prop where
  lt : ∀ i, i < n → i < nx i
  le : ∀ i, i < n → nx i ≤ n
  mono : ∀ i j, i ≤ j → j < n → nx i ≤ nx j
/-- How many steps lead from a place to the end, with fuel. -/
def gC (nx : Nat → Nat) (n : Nat) : Nat → Nat → Nat
  | 0, _ => 0
  | f + 1, i => if i < n then 1 + gC nx n f (nx i) else 0
theorem gC_fuel {n : Nat} {nx : Nat → Nat} (h : Fwd n nx) (f g i : Nat) (hf : n - i ≤ f) (hg : n - i ≤ g) : gC nx n f i = gC nx n g i := by
  induction f generalizing g i with
  | zero =>
    have : ¬ i < n := by omega
    cases g with
    | zero => rfl
    | succ g => rw [gC, gC, if_neg this]
  | succ f ih =>
    cases g with
    | zero =>
      have : ¬ i < n := by omega
      rw [gC, gC, if_neg this]
    | succ g =>
      rw [gC, gC]
      by_cases c : i < n
      · rw [if_pos c, if_pos c]
        have := h.lt i c
        rw [ih g (nx i) (by omega) (by omega)]
      · rw [if_neg c, if_neg c]
def gN (nx : Nat → Nat) (n i : Nat) : Nat := gC nx n n i
theorem gN_end {n : Nat} {nx : Nat → Nat} (i : Nat) (hi : n ≤ i) : gN nx n i = 0 := by
  unfold gN
  cases n with
  | zero => rfl
  | succ n => rw [gC, if_neg (by omega)]
theorem gN_step {n : Nat} {nx : Nat → Nat} (h : Fwd n nx) (i : Nat) (hi : i < n) : gN nx n i = 1 + gN nx n (nx i) := by
  unfold gN
  obtain ⟨m, rfl⟩ : ∃ m, n = m + 1 := ⟨n - 1, by omega⟩
  have := h.lt i hi
  conv => lhs; rw [gC]
  rw [if_pos hi, gC_fuel h m (m + 1) (nx i) (by omega) (by omega)]
/-- Longer steps lead from a later place with no more steps to the end. -/
theorem gN_cmp {n : Nat} {nx ny : Nat → Nat} (h : Fwd n nx) (k : Fwd n ny) (hxy : ∀ i, i < n → nx i ≤ ny i) (f i j : Nat) (hf : n - i ≤ f) (hij : i ≤ j) : gN ny n j ≤ gN nx n i := by
  induction f generalizing i j with
  | zero => rw [gN_end j (by omega)]; exact Nat.zero_le _
  | succ f ih =>
    by_cases c : j < n
    · have ci : i < n := by omega
      rw [gN_step h i ci, gN_step k j c]
      have h1 := h.lt i ci
      have h2 := Nat.le_trans (h.mono i j hij c) (hxy j c)
      have := ih (nx i) (ny j) (by omega) h2
      omega
    · rw [gN_end j (by omega)]; exact Nat.zero_le _
theorem gN_mono {n : Nat} {nx : Nat → Nat} (h : Fwd n nx) (i j : Nat) (hij : i ≤ j) : gN nx n j ≤ gN nx n i := gN_cmp h h (fun _ _ => Nat.le_refl _) _ i j (Nat.le_refl _) hij
theorem gN_le {n : Nat} {nx : Nat → Nat} (h : Fwd n nx) (f i : Nat) (hf : n - i ≤ f) : gN nx n i ≤ n - i := by
  induction f generalizing i with
  | zero => rw [gN_end i (by omega)]; exact Nat.zero_le _
  | succ f ih =>
    by_cases c : i < n
    · have h1 := h.lt i c
      have := ih (nx i) (by omega)
      rw [gN_step h i c]; omega
    · rw [gN_end i (by omega)]; exact Nat.zero_le _
/-- The beginning of a table up to k: its steps end at k. -/
theorem gN_cut {n k : Nat} {nx nk : Nat → Nat} (h : Fwd n nx) (hk : Fwd k nk) (hkn : k < n) (e : ∀ i, i < k → nk i = min (nx i) k) (f i : Nat) (hf : k - i ≤ f) (hi : i ≤ k) : gN nx n i ≤ gN nk k i + gN nx n k ∧ gN nk k i + gN nx n k ≤ gN nx n i + 1 := by
  induction f generalizing i with
  | zero =>
    obtain rfl : i = k := by omega
    rw [gN_end (n := i) (nx := nk) i (Nat.le_refl _)]; omega
  | succ f ih =>
    by_cases c : i < k
    · have h1 := h.lt i (by omega)
      rw [gN_step h i (by omega), gN_step hk i c, e i c]
      by_cases d : nx i ≤ k
      · rw [Nat.min_eq_left d]
        have := ih (nx i) (by omega) d
        omega
      · rw [Nat.min_eq_right (by omega), gN_end (n := k) (nx := nk) k (Nat.le_refl _)]
        have a := gN_mono h k (nx i) (by omega)
        have b := gN_mono h (nx i) (nx k) (h.mono i k (by omega) hkn)
        rw [gN_step h k hkn]
        rw [gN_step h k hkn] at a
        omega
    · obtain rfl : i = k := by omega
      rw [gN_end (n := i) (nx := nk) i (Nat.le_refl _)]; omega
theorem dif_tail (a : Int) (l : List Int) : (dif (a :: l)).drop 1 = dif l := by
  cases l with
  | nil => rfl
  | cons b l => rfl
theorem difW_drop1 (l : List Int) : difW (l.drop 1) = (difW l).drop 1 := by
  cases l with
  | nil => rfl
  | cons a l => unfold difW; rw [← List.map_drop, dif_tail]; rfl
theorem difW_drop (l : List Int) (c : Nat) : difW (l.drop c) = (difW l).drop c := by
  induction c generalizing l with
  | zero => rfl
  | succ c ih =>
    have e : l.drop (c + 1) = (l.drop 1).drop c := by rw [List.drop_drop]; congr 1; omega
    rw [e, ih, difW_drop1, List.drop_drop]; congr 1; omega
theorem difN_drop (k : Nat) : ∀ (l : List Int) (c : Nat), difN k (l.drop c) = (difN k l).drop c := by
  induction k with
  | zero => intro l c; rfl
  | succ k ih => intro l c; rw [difN, difW_drop, ih]; rfl
theorem zero_drop (row : List Int) (c : Nat) (h : zeroOk row = true) : zeroOk (row.drop c) = true := (zero_iff _).2 fun x hx => (zero_iff _).1 h x (List.mem_of_mem_drop hx)
theorem long_self (o : Nat) (zs : List Int) : zeroOk (difN o (zs.take (longN o zs))) = true := by rw [long_run o zs _ (longN_le o zs)]; exact decide_eq_true (Nat.le_refl _)
theorem long_of (o : Nat) (zs : List Int) (m : Nat) (hm : m ≤ zs.length) (h : zeroOk (difN o (zs.take m)) = true) : m ≤ longN o zs := by rw [long_run o zs m hm] at h; exact of_decide_eq_true h
/-- Behind some entries of a run the run still is one. -/
theorem long_drop (o : Nat) (zs : List Int) (t : Nat) (ht : t < zs.length) : longN o zs ≤ t + longN o (zs.drop t) := by
  by_cases c : longN o zs ≤ t
  · omega
  · have hle := longN_le o zs
    have h := long_of o (zs.drop t) (longN o zs - t) (by rw [List.length_drop]; omega) (by
      have e : (zs.drop t).take (longN o zs - t) = (zs.take (longN o zs)).drop t := by rw [List.drop_take]
      rw [e, difN_drop]
      exact zero_drop _ _ (long_self o zs))
    omega
theorem long_take (o : Nat) (zs : List Int) (c : Nat) (hc : c ≤ zs.length) : longN o (zs.take c) = min (longN o zs) c := by
  have hl : (zs.take c).length = c := by rw [List.length_take]; omega
  have h1 := longN_le o (zs.take c)
  have h0 := longN_le o zs
  apply Nat.le_antisymm
  · refine Nat.le_min.2 ⟨long_of o zs _ (by omega) ?_, by omega⟩
    have := long_self o (zs.take c)
    rwa [List.take_take, Nat.min_eq_left (by omega)] at this
  · refine long_of o (zs.take c) _ (by omega) ?_
    rw [List.take_take, Nat.min_eq_left (Nat.min_le_right _ _)]
    rw [long_run o zs _ (by omega)]
    exact decide_eq_true (Nat.min_le_left _ _)
theorem difW_zero (row : List Int) (h : zeroOk row = true) : zeroOk (difW row) = true := by
  refine (zero_iff _).2 fun x hx => ?_
  obtain ⟨j, hj⟩ := List.getElem?_of_mem hx
  have hjl := (List.getElem?_eq_some_iff.1 hj).1
  rw [difW_length] at hjl
  obtain ⟨a, ha⟩ := get_lt row j (by omega)
  obtain ⟨b, hb⟩ := get_lt row (j + 1) (by omega)
  rw [difW_get row j a b ha hb] at hj
  injection hj with hj
  have h1 := (zero_iff _).1 h a (List.mem_of_getElem? ha)
  have h2 := (zero_iff _).1 h b (List.mem_of_getElem? hb)
  rw [← hj, h1, h2]; unfold wrap64; omega
/-- Of a higher order runs are no shorter. -/
theorem long_more (o : Nat) (zs : List Int) : longN o zs ≤ longN (o + 1) zs := by
  refine long_of (o + 1) zs _ (longN_le o zs) ?_
  rw [difN_snoc]
  exact difW_zero _ (long_self o zs)
/-- Where the next segment begins. -/
def nxZ (o : Nat) (zs : List Int) (i : Nat) : Nat := i + longN o (zs.drop i)
theorem nxZ_fwd (o : Nat) (zs : List Int) (ho : 1 ≤ o) : Fwd zs.length (nxZ o zs) := by
  refine ⟨fun i hi => ?_, fun i hi => ?_, fun i j hij hj => ?_⟩
  · have := longN_pos o (zs.drop i) ho (by rw [List.length_drop]; omega)
    unfold nxZ; omega
  · have := longN_le o (zs.drop i)
    rw [List.length_drop] at this
    unfold nxZ; omega
  · have := long_drop o (zs.drop i) (j - i) (by rw [List.length_drop]; omega)
    rw [List.drop_drop, show i + (j - i) = j by omega] at this
    unfold nxZ; omega
def fewN (o : Nat) (zs : List Int) : Nat := gN (nxZ o zs) zs.length 0
/-- What FewestSegments answers. -/
def fewA (zs : List Int) (d : Int) : Int := if smallOk zs && degOk d then (fewN (d.toNat + 1) zs : Nat) else -1
theorem gN_shift {n k : Nat} {nx nk : Nat → Nat} (hk : Fwd (n - k) nk) (h : Fwd n nx) (e : ∀ i, i < n - k → nk i + k = nx (i + k)) (f i : Nat) (hf : n - k - i ≤ f) : gN nk (n - k) i = gN nx n (i + k) := by
  induction f generalizing i with
  | zero => rw [gN_end i (by omega), gN_end (i + k) (by omega)]
  | succ f ih =>
    by_cases c : i < n - k
    · rw [gN_step hk i c, gN_step h (i + k) (by omega), ← e i c]
      have := hk.lt i c
      rw [ih (nk i) (by omega)]
    · rw [gN_end i (by omega), gN_end (i + k) (by omega)]
theorem few_drop (o : Nat) (zs : List Int) (k : Nat) (ho : 1 ≤ o) : fewN o (zs.drop k) = gN (nxZ o zs) zs.length k := by
  unfold fewN
  have h1 := nxZ_fwd o (zs.drop k) ho
  have h2 := nxZ_fwd o zs ho
  rw [List.length_drop] at h1 ⊢
  rw [gN_shift h1 h2 (fun i _ => ?_) _ 0 (Nat.le_refl _), Nat.zero_add]
  unfold nxZ
  rw [List.drop_drop, Nat.add_comm k i]; omega
theorem few_take (o : Nat) (zs : List Int) (k : Nat) (ho : 1 ≤ o) (hk : k < zs.length) : fewN o zs ≤ fewN o (zs.take k) + fewN o (zs.drop k) ∧ fewN o (zs.take k) + fewN o (zs.drop k) ≤ fewN o zs + 1 := by
  rw [few_drop o zs k ho]
  have h1 := nxZ_fwd o (zs.take k) ho
  have h2 := nxZ_fwd o zs ho
  have hl : (zs.take k).length = k := by rw [List.length_take]; omega
  unfold fewN
  rw [hl] at h1 ⊢
  refine gN_cut h2 h1 hk (fun i hi => ?_) _ 0 (Nat.le_refl _) (Nat.zero_le _)
  unfold nxZ
  have e : (zs.take k).drop i = (zs.drop i).take (k - i) := by rw [List.drop_take]
  rw [e, long_take o _ _ (by rw [List.length_drop]; omega)]
  omega
theorem few_more (o : Nat) (zs : List Int) (ho : 1 ≤ o) : fewN (o + 1) zs ≤ fewN o zs :=
  gN_cmp (nxZ_fwd o zs ho) (nxZ_fwd (o + 1) zs (by omega)) (fun i _ => by unfold nxZ; have := long_more o (zs.drop i); omega) _ 0 0 (Nat.le_refl _) (Nat.le_refl _)
theorem few_le (o : Nat) (zs : List Int) (ho : 1 ≤ o) : fewN o zs ≤ zs.length := gN_le (nxZ_fwd o zs ho) _ 0 (Nat.le_refl _)
theorem few_pos (o : Nat) (zs : List Int) (ho : 1 ≤ o) (h : 1 ≤ zs.length) : 1 ≤ fewN o zs := by
  unfold fewN
  rw [gN_step (nxZ_fwd o zs ho) 0 (by omega)]; omega
theorem few_first (o : Nat) (zs : List Int) (ho : 1 ≤ o) (h : 1 ≤ zs.length) : fewN o (zs.drop 1) ≤ fewN o zs ∧ fewN o zs ≤ fewN o (zs.drop 1) + 1 := by
  rw [few_drop o zs 1 ho]
  have h2 := nxZ_fwd o zs ho
  refine ⟨gN_mono h2 0 1 (by omega), ?_⟩
  unfold fewN
  rw [gN_step h2 0 (by omega)]
  have := gN_mono h2 1 (nxZ o zs 0) (h2.lt 0 (by omega))
  omega
theorem few_last (o : Nat) (zs : List Int) (ho : 1 ≤ o) (h : 1 ≤ zs.length) : fewN o (zs.drop (zs.length - 1)) = 1 := by
  rw [few_drop o zs _ ho, gN_step (nxZ_fwd o zs ho) _ (by omega), gN_end _ ((nxZ_fwd o zs ho).lt (zs.length - 1) (by omega) |> fun x => by omega)]
end Go.Proofs.Ytgnoclnenhmakaa
namespace Go.Proofs.Ytgnoclnenhmakaa
set_option maxRecDepth 4000
open Go.RowKit
theorem seg_run (zs : List Int) (d k : Nat) (hs : smallOk zs = true) (hd : degOk (d : Int) = true) (hk : k < zs.length) : segC zs (k : Int) (longN (d + 1) (zs.drop k) : Nat) (d : Int) = (longN (d + 1) (zs.drop k) : Nat) := by
  have hp := longN_pos (d + 1) (zs.drop k) (by omega) (by rw [List.length_drop]; omega)
  have hl := longN_le (d + 1) (zs.drop k)
  rw [List.length_drop] at hl
  have hr := run_long (zs.drop k) (d : Int) (small_drop zs hs k hk) hd (longN (d + 1) (zs.drop k)) hp (by rw [List.length_drop]; exact hl)
  rw [Int.toNat_natCast] at hr
  have h1 : segAt zs (k : Int) = true := decide_eq_true (by omega)
  have h2 : segCnt zs (k : Int) (longN (d + 1) (zs.drop k) : Nat) = true := decide_eq_true (by omega)
  have h3 : runB (segZ zs (k : Int) (longN (d + 1) (zs.drop k) : Nat)) (d : Int) = true := by
    unfold segZ
    rw [Int.toNat_natCast, Int.toNat_natCast, hr]
    exact decide_eq_true (Nat.le_refl _)
  unfold segC segB
  rw [hs, h1, h2, hd, h3]; rfl
set_option maxHeartbeats 800000 in
theorem runAt_any (b1 b2 : Nat) (av : Option Addr) (cap : Nat) (zs : List Int) (d k : Nat) (w : World) (lo hi : Nat) (hv : Lies w lo hi (.slice av zs.length cap) zs) (h1 : w.cell? ⟨b1, 0, none⟩ = some (.slice av zs.length cap)) (h2 : w.cell? ⟨b2, 0, none⟩ = some (.int .i64 (d : Int))) (hd : d ≤ 6) (hn : zs.length ≤ 60) (hk : k < zs.length) :
    Calls Try.prog 47 #[.int .i64 (k : Int), .pointer (some ⟨b1, 0, none⟩), .pointer (some ⟨b2, 0, none⟩)] w (Gives (.int .i64 (longN (d + 1) (zs.drop k) : Nat)) w) := by
  obtain ⟨b, off, cap', e, hlc, hcm, _, _, _, _⟩ := hv.addr (by omega)
  injection e with e1 _ e3
  subst e1 e3
  unfold maxLen at hcm
  have HR := hidH (fun q => runLen_any _ (zs.drop k) d (w.drewN q) lo hi (((hv.dropped k (zs.length - k) (cap - k) (by omega) rfl rfl)).below (below_drewN (Below.refl _ _) q)) hd (by rw [List.length_drop]; omega))
  have hck : ¬ cap = k := by omega
  have hln : (zs.length : Int) - k = ((zs.length - k : Nat) : Int) := by omega
  have hcn : (cap : Int) - k = ((cap - k : Nat) : Int) := by omega
  clear hv
  go_enter Try.func47, Try.ntmps47
  go_wp2_with fail
  go_region_with (go_at_call 41; refine (HR.out 1).mono ?_; rintro e w1 ⟨rfl, hb⟩; have HB := hidH ((below_drewN (Below.refl w.heap.size w) 1).trans hb); clear hb)
  all_goals
    go_wp2_with fail
    go_ret
    exact ⟨rfl, HB.out⟩
theorem owns_form2 {w : World} {base e size n : Nat} {v : Value} {xs : List Value} (H : w.ownsRow base e size v n xs) : ∃ (ad : Option Addr) (cap : Nat), v = .slice ad n cap ∧ cap ≤ maxLen := by
  obtain ⟨hl, hv⟩ := H
  rcases hv with ⟨h1, h2⟩ | ⟨g1, cap, cur, h1, _, _, _, hc, _, _⟩
  · exact ⟨none, 0, by rw [h2]; exact h1, Nat.zero_le _⟩
  · exact ⟨_, cap, h1, hc⟩
/-- A plan of n segments, of which only the number is told. -/
def PlanLen (n : Nat) (w : World) (e : Ending) (w' : World) : Prop := ∃ (ad : Option Addr) (cap : Nat), e = .returned (.slice ad n cap) ∧ cap ≤ maxLen ∧ Below w.heap.size w w'
set_option maxHeartbeats 3200000 in
theorem planBy_any (b1 b2 : Nat) (av : Option Addr) (cap : Nat) (zs : List Int) (d : Nat) (w : World) (lo hi : Nat) (hv : Lies w lo hi (.slice av zs.length cap) zs) (h1 : w.cell? ⟨b1, 0, none⟩ = some (.slice av zs.length cap)) (h2 : w.cell? ⟨b2, 0, none⟩ = some (.int .i64 (d : Int))) (hs : smallOk zs = true) (hd : degOk (d : Int) = true) :
    Calls Try.prog 42 #[.slice av zs.length cap, .int .i64 (d : Int), .func (.func 47) #[] #[.pointer (some ⟨b1, 0, none⟩), .pointer (some ⟨b2, 0, none⟩)]] w (PlanLen (fewN (d + 1) zs) w) := by
  have ⟨hl1, hl60, _⟩ := (small_iff zs).1 hs
  have hd6 : d ≤ 6 := by unfold degOk at hd; have := of_decide_eq_true hd; omega
  obtain ⟨i0, hi0, hz0, hz1, hz2⟩ := info_parts info_sg
  have HV := hidH hv
  have H1 := hidH h1
  have H2 := hidH h2
  have l1 := cell_blk _ _ _ h1
  have l2 := cell_blk _ _ _ h2
  have HF := hidH (nxZ_fwd (d + 1) zs (by omega))
  have HSC := hidH (fun k hk => seg_run zs d k hs hd hk)
  obtain ⟨_, _, e, hlc, hcm, _, _⟩ := hv
  injection e with e1 _ e3
  subst e1 e3
  unfold maxLen at hcm
  clear h1 h2
  go_enter Try.func42, Try.ntmps42
  go_wp2_with fail
  go_loopw [7, 8] (fun o i wr => ∃ (j k : Nat) (ov : Value) (xs : List Value), j ≤ zs.length ∧ i = .int .i64 j ∧ ov = o ∧ k ≤ j ∧ Aside (gN (nxZ (d + 1) zs) zs.length j + k = fewN (d + 1) zs) ∧ wr.ownsRow w.heap.size 39 2 ov k xs ∧ Below w.heap.size w wr) (fun _ i _ => zs.length - (intOf i).toNat)
  case atStart => exact ⟨0, 0, _, [], Nat.zero_le _, rfl, rfl, Nat.le_refl _, rfl, ⟨rfl, Or.inl ⟨rfl, rfl⟩⟩, Below.refl _ _⟩
  case round =>
    obtain ⟨j, k, ov, xs, hj, rfl, rfl, hkj, hg, hown, hb⟩ := hrel
    have HG := hidH hg
    have HW := hidH hown
    have HBq := hidH hb
    clear hg hown hb
    by_cases hlt : j < zs.length
    · have c1 : wr.cell? ⟨b1, 0, none⟩ = some (.slice av zs.length cap) := by rw [HBq.out.cell (p := ⟨b1, 0, none⟩) l1]; exact H1.out
      have c2 : wr.cell? ⟨b2, 0, none⟩ = some (.int .i64 (d : Int)) := by rw [HBq.out.cell (p := ⟨b2, 0, none⟩) l2]; exact H2.out
      have HVr := hidH (HV.out.below HBq.out)
      have HRA := hidH (runAt_any b1 b2 av cap zs d j wr _ _ HVr.out c1 c2 hd6 hl60 hlt)
      have HSCj := hidH (HSC.out j hlt)
      have hp1 := HF.out.lt j hlt
      have hp2 := HF.out.le j hlt
      have HST := hidH (gN_step HF.out j hlt)
      have HNX := hidH (show nxZ (d + 1) zs j = j + longN (d + 1) (zs.drop j) from rfl)
      rw [HNX.out] at hp1 hp2
      generalize longN (d + 1) (zs.drop j) = cn at *
      clear c1 c2
      go_wp2_with fail
      refine HRA.out.mono ?_; rintro e w2 ⟨rfl, hb⟩
      have HV2 := hidH (HVr.out.below hb)
      have HW2 := hidH (owns_below HW.out hb)
      have HB2 := hidH (bThen HBq.out hb)
      clear hb HRA HW HVr
      go_wp2_with fail
      refine (segOf_any _ zs (j : Int) (cn : Int) (d : Int) w2 _ _ HV2.out).mono ?_; rintro e w3 ⟨pv, rfl, hr, hb⟩
      rw [HSCj.out]
      obtain ⟨pa, pcap, rfl⟩ := hr.some
      have HW3 := hidH (owns_below HW2.out hb)
      have HB3 := hidH (bThen HB2.out hb)
      clear hb hr HW2 HV2 HSCj
      generalize (segP zs (j : Int) (cn : Int) (d : Int)).length = pl at *
      have HZ := hidH (SegAt.fresh w3 0 (.slice none 0 0))
      have HZ4 := hidH ((SegAt.fresh w3 0 (.slice none 0 0)).setRow (cn : Int) (.slice pa pl pcap))
      have hsz3 := HB3.out.size
      have HW4 := hidH (owns_below HW3.out (show Below w3.heap.size w3 ((w3.alloc (.cells #[.int .i64 0, .slice none 0 0] 39)).setRow w3.heap.size #[.int .i64 (cn : Int), .slice pa pl pcap]) from bRow ((Below.refl _ _).alloc (Nat.le_refl _) _) (Nat.le_refl _) _))
      have HB4 := hidH (bRow (bMore HB3.out (.cells #[.int .i64 0, .slice none 0 0] 39)) hsz3 #[.int .i64 (cn : Int), .slice pa pl pcap])
      have SZ := hidH (seg_size (cn : Int) (.slice pa pl pcap))
      have SO := hidH (seg_one (cn : Int) pa pl pcap)
      go_upto_region 5 with (refine wpList_store_row rfl 39 _ _ rfl w3.heap.size #[.int .i64 (cn : Int), .slice pa pl pcap] rfl rfl 39 _ HZ.out SZ.out rfl SO.out ?_)
      generalize ((w3.alloc (.cells #[.int .i64 0, .slice none 0 0] 39)).setRow w3.heap.size #[.int .i64 (cn : Int), .slice pa pl pcap]) = w4 at *
      have hsz4 := HB4.out.size
      have hk60 : k ≤ 60 := by omega
      have HW5 := hidH (owns_below HW4.out ((Below.refl _ w4).alloc (Nat.le_refl _) (.cells #[.int .i64 (cn : Int), .slice pa pl pcap] 39)))
      have HNW := hidH (World.news_of_block (cs := #[.int .i64 (cn : Int), .slice pa pl pcap]) (t := 39) (fr := (0, 0)) (heap_alloc_new w4 (.cells #[.int .i64 (cn : Int), .slice pa pl pcap] 39)))
      have HZ5 := hidH (HZ4.out.below ((Below.refl _ w4).alloc (Nat.le_refl _) (.cells #[.int .i64 (cn : Int), .slice pa pl pcap] 39)))
      go_wp2_with (first
        | (refine wpList_load_row rfl 39 _ rfl w3.heap.size rfl 39 _ (0, 0) _ HZ4.out Try.underlying39 rfl SZ.out ?_)
        | (at_builtin; refine wpList_append_own _ rfl _ _ 23 rfl w.heap.size 39 i0 _ 2 32 Try.underlying23 hi0 hz0 hz1 hz2 rfl (by decide) _ _ _ rfl HW5.out ⟨w4.heap.size, 0, none⟩ 1 1 [.int .i64 (cn : Int), .slice pa pl pcap] rfl rfl HNW.out (by simp [Value.oneCell']) (by unfold maxLen; omega) (by omega) (by simp; omega) ?_))
      intro v' w9 hown1 hgrow _
      have HR9 := hidH hown1
      have hnb : ov.ownBlock ≠ some w3.heap.size := fun h => by have := (HW3.out.lt _ h).2; omega
      have HZ9 : Hid (w9.cell? ⟨w3.heap.size, 0, none⟩ = some (.int .i64 (cn : Int))) := by
        have hlt5 := HZ5.out.lt
        have hb9 := hgrow.block w3.heap.size (by simpa using hlt5) hnb.symm
        show w9.cell? ⟨w3.heap.size, 0, none⟩ = _
        rw [World.cell?_of_block hb9]
        exact HZ5.out.cell0
      have HB9 := hidH ((HB4.out.alloc hsz4 (.cells #[.int .i64 (cn : Int), .slice pa pl pcap] 39)).grown hgrow (by simp; omega) fun g hg => (HW3.out.lt g hg).1)
      have c9 := HZ9.out
      clear hown1 hgrow
      go_wp2_with fail
      go_roundw
      case rel =>
        refine ⟨j + cn, k + 1, v', _, by omega, by go_num, rfl, by omega, ?_, HR9.out, HB9.out⟩
        have h := HG.out.out
        rw [HST.out, HNX.out] at h
        show _ = _
        omega
      case measure => simp [intOf]; omega
    · obtain rfl : j = zs.length := by omega
      have hgn := HG.out
      rw [gN_end _ (Nat.le_refl _), Nat.zero_add] at hgn
      obtain ⟨ad, cp, hov, hcp⟩ := owns_form2 HW.out
      have HGN := hidH hgn
      clear hgn HG
      subst hov
      go_wp2_with fail
      go_ret
      rw [← HGN.out]
      exact ⟨ad, cp, rfl, hcp, HBq.out⟩
set_option maxHeartbeats 1600000 in
theorem greedyP_any (v0 : Value) (zs : List Int) (n : Int) (w : World) (lo0 hi0 : Nat) (hv0 : Lies w lo0 hi0 v0 zs) :
    Calls Try.prog 16 #[v0, .int .i64 n] w fun e w' => ∃ (ad : Option Addr) (m cap : Nat), e = .returned (.tuple #[.slice ad m cap, .bool (smallOk zs && degOk n)]) ∧ cap ≤ maxLen ∧ ((smallOk zs && degOk n) = true → m = fewN (n.toNat + 1) zs) ∧ Below w.heap.size w w' := by
  have HV := hidH hv0
  obtain ⟨a0, cap0, rfl, hlc0, hcm0, _, _⟩ := hv0
  unfold maxLen at hcm0
  have BB := hidH (bMore (bMore (Below.refl w.heap.size w) (.cells #[.slice a0 zs.length cap0] 28)) (.cells #[.int .i64 n] 3))
  have HV1 := hidH (HV.out.below BB.out)
  have hmf : ∀ (fn : Fn) (first cap : Array Value) (w : World), (Instr.makeFunc fn first cap).run Try.prog w = .ok (.func fn first cap) w := fun _ _ _ _ => rfl
  have k1 : ((w.alloc (.cells #[.slice a0 zs.length cap0] 28)).alloc (.cells #[.int .i64 n] 3)).cell? ⟨w.heap.size, 0, none⟩ = some (.slice a0 zs.length cap0) := by
    rw [World.cell?_alloc_past _ _ _ (by simp), World.cell?_alloc_at _ _ _ _ rfl]; rfl
  have k2 : ((w.alloc (.cells #[.slice a0 zs.length cap0] 28)).alloc (.cells #[.int .i64 n] 3)).cell? ⟨w.heap.size + 1, 0, none⟩ = some (.int .i64 n) := by
    rw [show w.heap.size + 1 = (w.alloc (.cells #[.slice a0 zs.length cap0] 28)).heap.size by simp, World.cell?_alloc_at _ _ _ _ rfl]; rfl
  have l1 : w.heap.size < ((w.alloc (.cells #[.slice a0 zs.length cap0] 28)).alloc (.cells #[.int .i64 n] 3)).heap.size := by simp; omega
  have l2 : w.heap.size + 1 < ((w.alloc (.cells #[.slice a0 zs.length cap0] 28)).alloc (.cells #[.int .i64 n] 3)).heap.size := by simp
  have K1 := hidH k1
  have K2 := hidH k2
  have L1 := hidH l1
  have L2 := hidH l2
  clear k1 k2 l1 l2
  cases hs : smallOk zs
  · have HS := hidH hs
    rw [Bool.false_and]
    clear hs
    have c1 := K1.out
    go_enter Try.func16, Try.ntmps16
    go_wp2_with fail
    refine (small_any _ zs _ _ _ HV1.out).mono ?_; rintro e w2 ⟨rfl, hb⟩
    rw [HS.out]
    have HB := hidH (bThen BB.out hb)
    clear hb
    go_wp2_with fail
    go_ret2
    exact ⟨none, 0, 0, rfl, Nat.zero_le _, (fun h => by cases h), HB.out⟩
  · have HS := hidH hs
    rw [Bool.true_and]
    have c1 := K1.out
    go_enter Try.func16, Try.ntmps16
    go_wp2_with fail
    refine (small_any _ zs _ _ _ HV1.out).mono ?_; rintro e w2 ⟨rfl, hb⟩
    rw [HS.out]
    have HB := hidH (bThen BB.out hb)
    have HV2 := hidH (HV1.out.below hb)
    have e1 : w2.cell? ⟨w.heap.size, 0, none⟩ = some (.slice a0 zs.length cap0) := by rw [hb.cell (p := ⟨w.heap.size, 0, none⟩) L1.out]; exact K1.out
    have e2 : w2.cell? ⟨w.heap.size + 1, 0, none⟩ = some (.int .i64 n) := by rw [hb.cell (p := ⟨w.heap.size + 1, 0, none⟩) L2.out]; exact K2.out
    clear hb c1 hs
    cases hd : degOk n
    · have HD := hidH hd
      clear hd
      go_wp2_with fail
      refine (degValid_any n _).mono ?_; rintro e w3 ⟨rfl, rfl⟩
      rw [HD.out]
      go_wp2_with fail
      go_ret2
      exact ⟨none, 0, 0, by rw [HD.out]; rfl, Nat.zero_le _, (fun h => by rw [HD.out] at h; cases h), HB.out⟩
    · have HD := hidH hd
      obtain ⟨d, rfl⟩ : ∃ d : Nat, n = (d : Int) := ⟨n.toNat, by unfold degOk at hd; have := of_decide_eq_true hd; omega⟩
      clear hd
      have HPB := hidH (planBy_any w.heap.size (w.heap.size + 1) a0 cap0 zs d w2 _ _ HV2.out e1 e2 HS.out HD.out)
      go_wp2_with fail
      refine (degValid_any (d : Int) _).mono ?_; rintro e w3 ⟨rfl, rfl⟩
      rw [HD.out]
      go_wp2_with fail
      refine HPB.out.mono ?_; rintro e w4 ⟨ad, cp, rfl, hcp, hb⟩
      have HB4 := hidH (bThen HB.out hb)
      clear hb
      go_wp2_with fail
      go_ret2
      exact ⟨ad, _, cp, by rw [HD.out]; rfl, hcp, (fun _ => by rw [Int.toNat_natCast]), HB4.out⟩
end Go.Proofs.Ytgnoclnenhmakaa
