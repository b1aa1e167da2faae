/-
  SplitSegment: the program, at every argument. No conditions but that slices fit in memory.
  SplitSegment: the model, at every argument. Condition: not more numbers than the laws let through.
-/
import Derived.Test.YtgnoclnenhmakaaSplA
import Derived.Test.YtgnoclnenhmakaaPlnD
namespace Go.Proofs.Ytgnoclnenhmakaa
set_option maxRecDepth 4000
open Go.RowKit
theorem planOf3_any (B : Nat) (a0 a1 a2 : Addr) (n0 n1 n2 p0 p1 p2 : Nat) (u0 u1 u2 : List Value) (cs : List (Int × List Int)) (w : World) (hc0 : w.cell? ⟨B, 0, none⟩ = some (.slice (some a0) n0 p0)) (hc1 : w.cell? ⟨B, 1, none⟩ = some (.slice (some a1) n1 p1)) (hc2 : w.cell? ⟨B, 2, none⟩ = some (.slice (some a2) n2 p2)) (hp0 : PartF w a0 n0 p0 u0) (hp1 : PartF w a1 n1 p1 u1) (hp2 : PartF w a2 n2 p2 u2) (hcs : CellsSg w w.heap.size (u0 ++ u1 ++ u2) cs) (hn : n0 + n1 + n2 = cs.length) (h1 : 1 ≤ cs.length) (h2 : cs.length ≤ 2097152) (hz : ∀ c zs, (c, zs) ∈ cs → 1 ≤ zs.length ∧ zs.length ≤ 1048576) :
    Calls Try.prog 52 #[.slice (some ⟨B, 0, none⟩) 3 3] w (NewAp cs w) := by
  refine planOf_any B 3 (fun k => if k = 0 then a0 else if k = 1 then a1 else a2) (fun k => if k = 0 then n0 else if k = 1 then n1 else n2) (fun k => if k = 0 then p0 else if k = 1 then p1 else p2) (fun k => if k = 0 then u0 else if k = 1 then u1 else u2) cs w (by omega) (fun k hk => ?_) (fun k hk => ?_) ?_ ?_ h1 h2 hz
  · have : k = 0 ∨ k = 1 ∨ k = 2 := by omega
    rcases this with rfl | rfl | rfl
    · exact hc0
    · exact hc1
    · exact hc2
  · have : k = 0 ∨ k = 1 ∨ k = 2 := by omega
    rcases this with rfl | rfl | rfl
    · exact hp0
    · exact hp1
    · exact hp2
  · exact hcs
  · show 0 + n0 + n1 + n2 = _
    omega
/-- The place of a plan at which a segment is split: its number of entries and its polynomial. -/
def splitOk (cs : List (Int × List Int)) (i a : Int) : Bool := planOk cs && (decide (0 ≤ i ∧ i < (cs.length : Int)) && decide ((1 : Int) ≤ a ∧ a < (cs.getD i.toNat (0, [])).1))
def splitB (cs : List (Int × List Int)) (i a : Int) : Bool := splitOk cs i a && shiftB (cs.getD i.toNat (0, [])).2 a
/-- What SplitSegment answers. -/
def splitA (cs : List (Int × List Int)) (i a : Int) : List (Int × List Int) := if splitB cs i a then cs.take i.toNat ++ [(a, (cs.getD i.toNat (0, [])).2), ((cs.getD i.toNat (0, [])).1 - a, shiftA (cs.getD i.toNat (0, [])).2 a)] ++ cs.drop (i.toNat + 1) else []
theorem splitB_no1 {cs : List (Int × List Int)} (i a : Int) (h : planOk cs = false) : splitB cs i a = false ∧ splitA cs i a = [] := by
  have e : splitB cs i a = false := by unfold splitB splitOk; rw [h]; rfl
  exact ⟨e, by unfold splitA; rw [e]; rfl⟩
theorem splitB_no2 (cs : List (Int × List Int)) {i : Int} (a : Int) (h : ¬ (0 ≤ i ∧ i < (cs.length : Int))) : splitB cs i a = false ∧ splitA cs i a = [] := by
  have e : splitB cs i a = false := by unfold splitB splitOk; rw [decide_eq_false h]; simp
  exact ⟨e, by unfold splitA; rw [e]; rfl⟩
theorem splitB_no3 {cs : List (Int × List Int)} {k : Nat} {c a : Int} {zs : List Int} (hx : cs[k]? = some (c, zs)) (h : ¬ (1 ≤ a ∧ a < c)) : splitB cs (k : Int) a = false ∧ splitA cs (k : Int) a = [] := by
  have e : splitB cs (k : Int) a = false := by
    unfold splitB splitOk
    rw [Int.toNat_natCast, List.getD_eq_getElem?_getD, hx]
    show ((planOk cs && (_ && decide ((1 : Int) ≤ a ∧ a < c))) && _) = false
    rw [decide_eq_false h]; simp
  exact ⟨e, by unfold splitA; rw [e]; rfl⟩
theorem splitB_at {cs : List (Int × List Int)} {k : Nat} {c a : Int} {zs : List Int} (hp : planOk cs = true) (hx : cs[k]? = some (c, zs)) (h : 1 ≤ a ∧ a < c) : splitB cs (k : Int) a = shiftB zs a ∧ (shiftB zs a = false → splitA cs (k : Int) a = []) ∧ (shiftB zs a = true → splitA cs (k : Int) a = cs.take k ++ [(a, zs), (c - a, shiftA zs a)] ++ cs.drop (k + 1)) := by
  have hkl := (List.getElem?_eq_some_iff.1 hx).1
  have e : splitB cs (k : Int) a = shiftB zs a := by
    unfold splitB splitOk
    rw [Int.toNat_natCast, List.getD_eq_getElem?_getD, hx, hp, decide_eq_true (show 0 ≤ (k : Int) ∧ (k : Int) < (cs.length : Int) by omega)]
    show ((true && (true && decide ((1 : Int) ≤ a ∧ a < c))) && shiftB zs a) = _
    rw [decide_eq_true h]; rfl
  refine ⟨e, fun hb => by unfold splitA; rw [e, hb]; rfl, fun hb => ?_⟩
  unfold splitA
  rw [e, hb, if_pos rfl, Int.toNat_natCast, List.getD_eq_getElem?_getD, hx]; rfl
theorem planOk_seg {cs : List (Int × List Int)} (h : planOk cs = true) : 1 ≤ cs.length ∧ cs.length ≤ 60 ∧ ∀ c zs, (c, zs) ∈ cs → 1 ≤ c ∧ c ≤ 60 ∧ 1 ≤ zs.length ∧ zs.length ≤ 7 := by
  obtain ⟨h1, h60, hall, _, _⟩ := planOk_parts h
  refine ⟨h1, h60, fun c zs hm => ?_⟩
  obtain ⟨p1, p2, p3, _⟩ := segOk_parts (List.all_eq_true.1 hall (c, zs) hm)
  obtain ⟨q1, q2, _⟩ := (listOk_iff 7 100000 zs).1 p1
  exact ⟨p2, p3, q1, q2⟩
theorem shiftA_len2 {zs : List Int} {a : Int} (h : shiftB zs a = true) : (shiftA zs a).length = zs.length := by
  unfold shiftB at h
  rw [Bool.and_eq_true] at h
  unfold shiftA
  rw [h.1, if_pos rfl]
  unfold resL
  rw [h.2, if_pos rfl]
  rw [shiftL_length]
theorem split_polys {cs : List (Int × List Int)} {k : Nat} {c a : Int} {zs : List Int} (hp : planOk cs = true) (hx : cs[k]? = some (c, zs)) (h : shiftB zs a = true) : ∀ d ys, (d, ys) ∈ cs.take k ++ [(a, zs), (c - a, shiftA zs a)] ++ cs.drop (k + 1) → 1 ≤ ys.length ∧ ys.length ≤ 7 := by
  obtain ⟨_, _, hall⟩ := planOk_seg hp
  obtain ⟨_, _, z1, z7⟩ := hall c zs (List.mem_of_getElem? hx)
  intro d ys hm
  rw [List.mem_append, List.mem_append] at hm
  rcases hm with (hm | hm) | hm
  · have := hall d ys (List.mem_of_mem_take hm); omega
  · simp at hm
    rcases hm with ⟨_, rfl⟩ | ⟨_, rfl⟩
    · exact ⟨z1, z7⟩
    · rw [shiftA_len2 h]; exact ⟨z1, z7⟩
  · have := hall d ys (List.mem_of_mem_drop hm); omega
set_option maxHeartbeats 3200000 in
theorem split_any (v : Value) (cs : List (Int × List Int)) (i a : Int) (w : World) (h1 : Nat) (hv : LiesSg w h1 v cs) (hn : cs.length ≤ 1048576) : Calls Try.prog 22 #[v, .int .i64 i, .int .i64 a] w (NewApB (splitA cs i a) (splitB cs i a) w) := by
  have HV := hidH hv
  have HPV := hidH (planValid_any v cs w h1 hv hn)
  obtain ⟨av, cap, rfl, hlc, hcm⟩ := hv.len
  unfold maxLen at hcm
  clear hv
  cases hp : planOk cs
  · obtain ⟨e1, e2⟩ := splitB_no1 i a hp
    rw [e1, e2]
    rw [hp] at HPV
    clear e1 e2 hp
    go_enter Try.func22, Try.ntmps22
    go_wp2_with fail
    refine HPV.out.mono ?_; rintro e w2 ⟨rfl, hb⟩
    have HB := hidH hb
    clear hb
    go_wp2_with fail
    go_ret2
    exact ⟨_, rfl, ApSg.nil _ _ _ none 0 (Nat.zero_le _) (fun _ => rfl), HB.out⟩
  · rw [hp] at HPV
    have HP := hidH hp
    clear hp
    obtain ⟨hl1, hl60, _⟩ := planOk_seg HP.out
    by_cases hi : 0 ≤ i ∧ i < (cs.length : Int)
    rotate_left
    · obtain ⟨e1, e2⟩ := splitB_no2 cs a hi
      rw [e1, e2]
      clear e1 e2
      by_cases hi0 : i < 0
      · clear hi
        go_enter Try.func22, Try.ntmps22
        go_wp2_with fail
        refine HPV.out.mono ?_; rintro e w2 ⟨rfl, hb⟩
        have HB := hidH hb
        clear hb
        go_wp2_with fail
        go_ret2
        exact ⟨_, rfl, ApSg.nil _ _ _ none 0 (Nat.zero_le _) (fun _ => rfl), HB.out⟩
      · have hi1 : (cs.length : Int) ≤ i := by omega
        clear hi
        go_enter Try.func22, Try.ntmps22
        go_wp2_with fail
        refine HPV.out.mono ?_; rintro e w2 ⟨rfl, hb⟩
        have HB := hidH hb
        clear hb
        go_wp2_with fail
        go_ret2
        exact ⟨_, rfl, ApSg.nil _ _ _ none 0 (Nat.zero_le _) (fun _ => rfl), HB.out⟩
    · obtain ⟨k, rfl⟩ : ∃ k : Nat, i = (k : Int) := ⟨i.toNat, by omega⟩
      have hk : k < cs.length := by omega
      clear hi
      obtain ⟨b, off, cap', us, e, _, _, hpf, hcf⟩ := HV.out.part (by omega)
      injection e with ea _ ec
      subst ea ec
      obtain ⟨x, hx⟩ : ∃ x, cs[k]? = some x := ⟨cs[k], List.getElem?_eq_getElem hk⟩
      obtain ⟨c, zs⟩ := x
      obtain ⟨b2, off2, cap2, e, _, _, _, hcl⟩ := HV.out.addr (by omega)
      injection e with e1 e2 e3
      subst e3
      clear e2
      injection e1 with e1
      injection e1 with eb eo
      subst eb eo
      obtain ⟨u, c0, c1, hl⟩ := hcl k c zs hx
      obtain ⟨ua, uc, rfl⟩ := hl.some
      have HX := hidH hx
      obtain ⟨hc1, hc60, hz1, hz7⟩ := (planOk_seg HP.out).2.2 c zs (List.mem_of_getElem? hx)
      have HL := hidH hl
      have HPF := hidH hpf
      have HCF := hidH hcf
      clear hcl hx hl hpf hcf
      by_cases ha : 1 ≤ a ∧ a < c
      rotate_left
      · obtain ⟨e1, e2⟩ := splitB_no3 HX.out ha
        rw [e1, e2]
        clear e1 e2
        by_cases ha0 : a < 1
        · clear ha
          go_enter Try.func22, Try.ntmps22
          go_wp2_with fail
          refine HPV.out.mono ?_; rintro e w2 ⟨rfl, hb⟩
          have HB := hidH hb
          have d0 := (hb.cell (p := ⟨b, off + k * 2, none⟩) (cell_blk _ _ _ c0)).trans c0
          clear hb c0
          go_wp2_with fail
          go_ret2
          exact ⟨_, rfl, ApSg.nil _ _ _ none 0 (Nat.zero_le _) (fun _ => rfl), HB.out⟩
        · have ha1 : c ≤ a := by omega
          clear ha
          go_enter Try.func22, Try.ntmps22
          go_wp2_with fail
          refine HPV.out.mono ?_; rintro e w2 ⟨rfl, hb⟩
          have HB := hidH hb
          have d0 := (hb.cell (p := ⟨b, off + k * 2, none⟩) (cell_blk _ _ _ c0)).trans c0
          clear hb c0
          go_wp2_with fail
          go_ret2
          exact ⟨_, rfl, ApSg.nil _ _ _ none 0 (Nat.zero_le _) (fun _ => rfl), HB.out⟩
      · obtain ⟨e1, e2, e3⟩ := splitB_at HP.out HX.out ha
        rw [e1]
        obtain ⟨ha1, ha2⟩ := ha
        have HSP := hidH (fun h => split_polys HP.out HX.out (a := a) h)
        have HTL := hidH (show (cs.take k).length = k ∧ (cs.drop (k + 1)).length = cs.length - (k + 1) from ⟨by rw [List.length_take]; omega, by rw [List.length_drop]⟩)
        cases hs : shiftB zs a
        · rw [e2 hs]
          have HS := hidH hs
          clear e1 e2 e3 hs
          go_enter Try.func22, Try.ntmps22
          go_wp2_with fail
          refine HPV.out.mono ?_; rintro e w2 ⟨rfl, hb⟩
          have HB := hidH hb
          have d0 := (hb.cell (p := ⟨b, off + k * 2, none⟩) (cell_blk _ _ _ c0)).trans c0
          have d1 := (hb.cell (p := ⟨b, off + k * 2 + 1, none⟩) (cell_blk _ _ _ c1)).trans c1
          have HL2 := hidH (HL.out.below hb)
          clear hb c0 c1
          go_wp2_with fail
          refine (shift_any _ zs a _ _ _ HL2.out).mono ?_; rintro e w3 ⟨r, rfl, hr, hb⟩
          rw [HS.out]
          have HB3 := hidH (bThen HB.out hb)
          clear hb hr
          go_wp2_with fail
          go_ret2
          exact ⟨_, rfl, ApSg.nil _ _ _ none 0 (Nat.zero_le _) (fun _ => rfl), HB3.out⟩
        · rw [e3 hs]
          have HS := hidH hs
          have HPZ := hidH (HSP.out hs)
          clear e1 e2 e3 hs HSP
          go_enter Try.func22, Try.ntmps22
          go_wp2_with fail
          refine HPV.out.mono ?_; rintro e w2 ⟨rfl, hb⟩
          have HB := hidH hb
          have d0 := (hb.cell (p := ⟨b, off + k * 2, none⟩) (cell_blk _ _ _ c0)).trans c0
          have d1 := (hb.cell (p := ⟨b, off + k * 2 + 1, none⟩) (cell_blk _ _ _ c1)).trans c1
          have HL2 := hidH (HL.out.below hb)
          have HPF2 := hidH (HPF.out.below hb)
          have HCF2 := hidH ((HCF.out.below hb))
          clear hb c0 c1 HPF HCF HL
          go_wp2_with fail
          refine (shift_any _ zs a _ _ _ HL2.out).mono ?_; rintro e w3 ⟨r, rfl, hr, hb⟩
          rw [HS.out]
          have HB3 := hidH (bThen HB.out hb)
          have f0 := (hb.cell (p := ⟨b, off + k * 2, none⟩) (cell_blk _ _ _ d0)).trans d0
          have f1 := (hb.cell (p := ⟨b, off + k * 2 + 1, none⟩) (cell_blk _ _ _ d1)).trans d1
          have HL3 := hidH (HL2.out.below hb)
          have HPF3 := hidH (HPF2.out.below hb)
          have HCF3 := hidH ((HCF2.out.below hb))
          have HR3 := hidH hr
          obtain ⟨ra, rc, rfl⟩ := hr.some
          generalize hq : shiftA zs a = ys at *
          have HQ := hidH hq
          clear hb hr d0 d1 HL2 HPF2 HCF2 hq
          have hw := IntWalk.i64_in (c - a) (by omega)
          have g0 : w3.drew.cell? ⟨b, off + k * 2, none⟩ = _ := f0
          have g1 : w3.drew.cell? ⟨b, off + k * 2 + 1, none⟩ = _ := f1
          go_upto_region 6 with fail
          go_still_tail 16, (by kernel_rfl)
          change wpList _ _ _ _ _ w3.drew
          have hB35 : Below w3.heap.size w3 ((w3.alloc (.cells #[.int .i64 a, .slice ua zs.length uc, .int .i64 (c - a), .slice ra ys.length rc] 39)).drew) := ((Below.refl _ w3).alloc (Nat.le_refl _) _).drew
          have HB5 := hidH (HB3.out.trans (hB35.mono HB3.out.size))
          have HPF5 := hidH (HPF3.out.below hB35)
          have HCF5 := hidH (HCF3.out.below hB35)
          have hs5 : ((w3.alloc (.cells #[.int .i64 a, .slice ua zs.length uc, .int .i64 (c - a), .slice ra ys.length rc] 39)).drew).heap.size = w3.heap.size + 1 := by simp
          have HPN : Hid (PartF ((w3.alloc (.cells #[.int .i64 a, .slice ua zs.length uc, .int .i64 (c - a), .slice ra ys.length rc] 39)).drew) ⟨w3.heap.size, 0, none⟩ 2 2 [.int .i64 a, .slice ua zs.length uc, .int .i64 (c - a), .slice ra ys.length rc]) := hidH ⟨rfl, Nat.le_refl _, by decide, (World.news_of_block (cs := #[.int .i64 a, .slice ua zs.length uc, .int .i64 (c - a), .slice ra ys.length rc]) (t := 39) (fr := (0, 0)) (heap_alloc_new w3 (.cells #[.int .i64 a, .slice ua zs.length uc, .int .i64 (c - a), .slice ra ys.length rc] 39))), by simp [Value.oneCell']⟩
          have HCN : Hid (CellsSg ((w3.alloc (.cells #[.int .i64 a, .slice ua zs.length uc, .int .i64 (c - a), .slice ra ys.length rc] 39)).drew) ((w3.alloc (.cells #[.int .i64 a, .slice ua zs.length uc, .int .i64 (c - a), .slice ra ys.length rc] 39)).drew).heap.size [.int .i64 a, .slice ua zs.length uc, .int .i64 (c - a), .slice ra ys.length rc] [(a, zs), (c - a, ys)]) := hidH ⟨rfl, fun j c' ys' hj => by
            have hj2 : j < 2 := (List.getElem?_eq_some_iff.1 hj).1
            have : j = 0 ∨ j = 1 := by omega
            rcases this with rfl | rfl
            · injection hj with hj
              injection hj with e1 e2
              subst e1 e2
              exact ⟨rfl, _, rfl, (HL3.out.below hB35).top⟩
            · injection hj with hj
              injection hj with e1 e2
              subst e1 e2
              exact ⟨rfl, _, rfl, (HR3.out.lies.below hB35).top⟩⟩
          have HS5 := hidH hB35.size
          have HH1 : Hid (b < w3.heap.size) := hidH (cell_blk _ _ _ f0)
          clear hB35
          go_upto_region 7 with fail
          generalize (w3.alloc (.cells #[.int .i64 a, .slice ua zs.length uc, .int .i64 (c - a), .slice ra ys.length rc] 39)).drew = w5 at *
          have HH5 : Hid (w3.heap.size < w5.heap.size) := hidH (by rw [hs5]; exact Nat.lt_succ_self _)
          clear hs5 hw g0 g1 f0 f1 HB HB3 HL3 HR3
          obtain ⟨q, hq⟩ : ∃ q, q = k + 1 := ⟨_, rfl⟩
          have hqi : IntKind.i64.wrap ((k : Int) + 1) = (q : Int) := by rw [hq]; exact IntWalk.i64_in _ (by omega)
          have HCAT : Hid (CellsSg w5 w5.heap.size (us.take (k * 2) ++ [.int .i64 a, .slice ua zs.length uc, .int .i64 (c - a), .slice ra ys.length rc] ++ us.drop (q * 2)) (cs.take k ++ [(a, zs), (c - a, ys)] ++ cs.drop q)) := hidH ((((HCF5.out.top).take k (by omega)).append HCN.out).append (HCF5.out.top.drop q))
          have HLEN : Hid (k + 2 + (cs.length - q) = (cs.take k ++ [(a, zs), (c - a, ys)] ++ cs.drop q).length ∧ (cs.take k ++ [(a, zs), (c - a, ys)] ++ cs.drop q).length ≤ 61) := hidH (by simp; omega)
          have hqk : k + 1 = q := hq.symm
          have HGQ := hidH (show cs.take k ++ [(a, zs), (c - a, ys)] ++ cs.drop (k + 1) = cs.take k ++ [(a, zs), (c - a, ys)] ++ cs.drop q by rw [hqk])
          rw [hqk] at HPZ
          generalize cs.take k ++ [(a, zs), (c - a, ys)] ++ cs.drop q = gs at *
          have HP0 := hidH (HPF5.out.take k (by omega))
          have hkc : k ≤ cap := by omega
          have hqn : q ≤ cs.length := by omega
          have hqc : q ≤ cap := by omega
          by_cases hce : cap = q
          · have hnq : cs.length = q := by omega
            have HP2 := hidH (show PartF w5 ⟨b, off, none⟩ 0 0 (us.drop (q * 2)) from by
              rw [List.drop_eq_nil_of_le (by rw [HPF5.out.1]; omega)]
              exact PartF.nil _ _ _ (Nat.zero_le _))
            have HPO := hidH (fun W (hb : Below w5.heap.size w5 W) h0 h1 h2 => planOf3_any w5.heap.size ⟨b, off, none⟩ ⟨w3.heap.size, 0, none⟩ ⟨b, off, none⟩ k 2 0 cap 2 0 _ _ _ gs W h0 h1 h2 (HP0.out.below hb) (HPN.out.below hb) (HP2.out.below hb) ((HCAT.out.below hb).mono hb.size) (by have := HLEN.out.1; omega) (by have := HLEN.out.1; omega) (by have := HLEN.out.2; omega) (fun d ys h => by have := HPZ.out d ys h; omega))
            have hcn1 : (cs.length : Int) - q = 0 := by omega
            subst hce
            clear hq hqk HPZ HLEN hnq
            go_region_with (go_at_call 52; refine (HPO.out _ (by first | exact ((Below.refl _ w5).alloc (Nat.le_refl _) _).drew | exact ((Below.refl _ w5).drew.alloc (Nat.le_refl _) _)) (by simp) (by simp) (by simp)).mono ?_; rintro e w8 ⟨v8, rfl, hr, hb⟩; (have HR8 := hidH (hr.mono (Nat.le_trans HB5.out.size (by simp)) (Nat.le_refl _))); (have HB8 := hidH (bThen (show Below w.heap.size w _ from by first | exact (bMore HB5.out _).drew | exact (bMore HB5.out.drew _)) hb)); clear hr hb)
            all_goals
              obtain ⟨v8a, v8c, rfl, hv1, hv2⟩ := HR8.out.form
              clear hv1 hv2
              go_wp2_with fail
              go_ret2
              rw [HGQ.out]
              exact ⟨.slice v8a gs.length v8c, rfl, HR8.out, HB8.out⟩
          · have HP2 := hidH (HPF5.out.drop q hqn)
            have hcn1 : (cs.length : Int) - q = ((cs.length - q : Nat) : Int) := by omega
            have hcn2 : (cap : Int) - q = ((cap - q : Nat) : Int) := by omega
            have HPO := hidH (fun W (hb : Below w5.heap.size w5 W) h0 h1 h2 => planOf3_any w5.heap.size ⟨b, off, none⟩ ⟨w3.heap.size, 0, none⟩ ⟨b, off + q * 2, none⟩ k 2 (cs.length - q) cap 2 (cap - q) _ _ _ gs W h0 h1 h2 (HP0.out.below hb) (HPN.out.below hb) (HP2.out.below hb) ((HCAT.out.below hb).mono hb.size) HLEN.out.1 (by have := HLEN.out.1; omega) (by have := HLEN.out.2; omega) (fun d ys h => by have := HPZ.out d ys h; omega))
            clear hq hqk HPZ HLEN
            go_region_with (go_at_call 52; refine (HPO.out _ (by first | exact ((Below.refl _ w5).alloc (Nat.le_refl _) _).drew | exact ((Below.refl _ w5).drew.alloc (Nat.le_refl _) _)) (by simp) (by simp) (by simp)).mono ?_; rintro e w8 ⟨v8, rfl, hr, hb⟩; (have HR8 := hidH (hr.mono (Nat.le_trans HB5.out.size (by simp)) (Nat.le_refl _))); (have HB8 := hidH (bThen (show Below w.heap.size w _ from by first | exact (bMore HB5.out _).drew | exact (bMore HB5.out.drew _)) hb)); clear hr hb)
            all_goals
              obtain ⟨v8a, v8c, rfl, hv1, hv2⟩ := HR8.out.form
              clear hv1 hv2
              go_wp2_with fail
              go_ret2
              rw [HGQ.out]
              exact ⟨.slice v8a gs.length v8c, rfl, HR8.out, HB8.out⟩
end Go.Proofs.Ytgnoclnenhmakaa
namespace Go.Proofs.Ytgnoclnenhmakaa
set_option maxRecDepth 4000
open Go.RowKit
/-- A call that answers segments that can be read. -/
def NewLs (cs : List (Int × List Int)) (w : World) (e : Ending) (w' : World) : Prop := ∃ v, e = .returned v ∧ LiesSg w' w'.heap.size v cs ∧ Below w.heap.size w w'
theorem cells_on {ad : Addr} {xs : List Value} {w1 w2 : World} (h : ∀ (j : Nat) u, xs[j]? = some u → w1.cell? (ad.add j) = some u) (hb : Below w1.heap.size w1 w2) : ∀ (j : Nat) u, xs[j]? = some u → w2.cell? (ad.add j) = some u := fun j u hj => by
  have hc := h j u hj
  rw [hb.cell (p := ad.add j) (cell_blk _ _ _ hc)]; exact hc
set_option maxHeartbeats 1600000 in
theorem sEdit_any (b off cap : Nat) (us : List Value) (cs : List (Int × List Int)) (ap : Addr) (np pc : Nat) (up : List Value) (ds : List (Int × List Int)) (k m : Nat) (w : World) (hpf : PartF w ⟨b, off, none⟩ cs.length cap us) (hcf : CellsSg w w.heap.size us cs) (hpp : PartF w ap np pc up) (hcp : CellsSg w w.heap.size up ds) (hnp : np = ds.length) (hk : k + m ≤ cs.length) (hl : cs.length ≤ 1048576) (hd : ds.length ≤ 1048576) :
    Calls Try.prog 86 #[.slice (some ⟨b, off, none⟩) cs.length cap, .int .i64 (k : Int), .int .i64 (m : Int), .slice (some ap) np pc] w (NewLs (cs.take k ++ ds ++ cs.drop (k + m)) w) := by
  obtain ⟨i0, hif0, hz0, hz1, hz2⟩ := info_parts info_sg
  have hlc := hpf.2.1
  have hcm := hpf.2.2.1
  unfold maxLen at hcm
  have BB := hidH ((Below.refl w.heap.size w).alloc (Nat.le_refl _) (.cells #[] 39))
  have HO := hidH (World.ownsRow_made (base := w.heap.size) (e := 39) (size := 2) w #[] 0 (Nat.le_refl _) (Nat.zero_le _) rfl)
  obtain ⟨q, hq⟩ : ∃ q, q = k + m := ⟨_, rfl⟩
  have hqi2 : (k : Int) + (m : Int) = (q : Int) := by omega
  rw [← hq] at hk ⊢
  have HCAT := hidH (((hcf.take k (by omega)).append hcp).append (hcf.drop q))
  obtain ⟨t1, _, _, t4, t5⟩ := hpf.take k (by omega)
  obtain ⟨p1, p2, p3, p4, p5⟩ := hpp
  have HT1 := hidH t1
  have HT4 := hidH t4
  have HT5 := hidH t5
  have HP1 := hidH p1
  have HP4 := hidH p4
  have HP5 := hidH p5
  have HPF := hidH hpf
  have hkc : k ≤ cap := by omega
  have hqc : q ≤ cap := by omega
  have hkl : k ≤ cs.length := by omega
  have hnl : np ≤ 1048576 := by omega
  unfold maxLen at p3
  clear t1 t4 t5 p1 p4 p5 hpf hcf hcp hq hnp
  go_enter Try.func86, Try.ntmps86
  go_wp2_with (at_builtin; refine wpList_append_own _ rfl _ _ 23 rfl w.heap.size 39 i0 _ 2 32 Try.underlying23 hif0 hz0 hz1 hz2 rfl (by decide) _ _ _ rfl HO.out ⟨b, off, none⟩ k cap (us.take (k * 2)) rfl HT1.out (cells_on HT4.out BB.out) HT5.out (by unfold maxLen; omega) (by omega) (by simp) ?_)
  intro v1 w1 hown1 hgrow1 _
  have B1 := hidH (BB.out.grown hgrow1 (by simp) fun g hg => (HO.out.lt g hg).1)
  have W1 := hidH hown1
  have hs1 := B1.out.size
  clear hown1 hgrow1
  go_wp2_with (at_builtin; refine wpList_append_own _ rfl _ _ 23 rfl w.heap.size 39 i0 _ 2 32 Try.underlying23 hif0 hz0 hz1 hz2 rfl (by decide) _ _ _ rfl W1.out ap np pc up rfl HP1.out (cells_on HP4.out B1.out) HP5.out (by unfold maxLen; omega) (by omega) hs1 ?_)
  intro v2 w2 hown2 hgrow2 _
  have B2 := hidH (B1.out.grown hgrow2 hs1 fun g hg => (W1.out.lt g hg).1)
  have W2 := hidH hown2
  have hs2 := B2.out.size
  clear hown2 hgrow2
  by_cases hce : cap = q
  · have HN := hidH (show us.drop (q * 2) = [] from List.drop_eq_nil_of_le (by rw [HPF.out.1]; omega))
    have hcn1 : (cs.length : Int) - q = 0 := by omega
    subst hce
    go_wp2_with (at_builtin; refine wpList_append_own _ rfl _ _ 23 rfl w.heap.size 39 i0 _ 2 32 Try.underlying23 hif0 hz0 hz1 hz2 rfl (by decide) _ _ _ rfl W2.out ⟨b, off, none⟩ 0 0 [] rfl rfl (fun _ _ h => by simp at h) (fun _ h => by cases h) (by unfold maxLen; omega) (by omega) hs2 ?_)
    intro v3 w3 hown3 hgrow3 _
    have B3 := hidH (B2.out.grown hgrow3 hs2 fun g hg => (W2.out.lt g hg).1)
    have hca := HCAT.out
    rw [HN.out, List.append_nil] at hca
    have hls := (hca.below B3.out).lies B3.out.size hown3
    have HLS := hidH hls
    clear hown3 hgrow3 hca hls
    go_wp2_with fail
    go_ret
    exact ⟨v3, rfl, HLS.out, B3.out⟩
  · obtain ⟨d1, d2, d3, d4, d5⟩ := HPF.out.drop q hk
    have HD1 := hidH d1
    have HD4 := hidH d4
    have HD5 := hidH d5
    have hcn1 : (cs.length : Int) - q = ((cs.length - q : Nat) : Int) := by omega
    have hcn2 : (cap : Int) - q = ((cap - q : Nat) : Int) := by omega
    clear d1 d4 d5
    go_wp2_with (at_builtin; refine wpList_append_own _ rfl _ _ 23 rfl w.heap.size 39 i0 _ 2 32 Try.underlying23 hif0 hz0 hz1 hz2 rfl (by decide) _ _ _ rfl W2.out ⟨b, off + q * 2, none⟩ (cs.length - q) (cap - q) (us.drop (q * 2)) rfl HD1.out (cells_on HD4.out B2.out) HD5.out (by unfold maxLen; omega) (by omega) hs2 ?_)
    intro v3 w3 hown3 hgrow3 _
    have B3 := hidH (B2.out.grown hgrow3 hs2 fun g hg => (W2.out.lt g hg).1)
    have hca := HCAT.out
    rw [List.append_assoc] at hca
    have HLS := hidH ((hca.below B3.out).lies B3.out.size hown3)
    clear hca
    clear hown3 hgrow3
    go_wp2_with fail
    go_ret
    exact ⟨v3, rfl, HLS.out, B3.out⟩
set_option maxHeartbeats 3200000 in
theorem sRawSplit_any (v : Value) (cs : List (Int × List Int)) (i a : Int) (w : World) (h1 : Nat) (hv : LiesSg w h1 v cs) (hn : cs.length ≤ 1048576) (hz : ∀ c zs, (c, zs) ∈ cs → zs.length ≤ 1048576) : Calls Try.prog 53 #[v, .int .i64 i, .int .i64 a] w fun e w' => ∃ u, e = .returned (.tuple #[u, .bool (splitB cs i a)]) ∧ LiesSg w' w'.heap.size u (splitA cs i a) ∧ Below w.heap.size w w' := by
  have HOW := hidH (ownSgs_any v cs w h1 hv hn hz)
  obtain ⟨av, cap, rfl, hlc, hcm⟩ := hv.len
  unfold maxLen at hcm
  clear hv hz
  cases hp : planOk cs
  · obtain ⟨e1, e2⟩ := splitB_no1 i a hp
    rw [e1, e2]
    have HP := hidH hp
    clear e1 e2 hp
    go_enter Try.func53, Try.ntmps53
    go_wp2_with fail
    refine HOW.out.mono ?_; rintro e w1 ⟨v1, rfl, hr, hb⟩
    have HR1 := hidH hr.lies
    have HB1 := hidH hb
    obtain ⟨a1, cap1, rfl, hc1, hc2⟩ := hr.form
    unfold maxLen at hc2
    clear hr hb
    go_wp2_with fail
    refine (sPlanValid_any _ cs w1 _ HR1.out hn).mono ?_; rintro e w2 ⟨rfl, hb⟩
    rw [HP.out]
    have HB2 := hidH (bThen HB1.out hb)
    have HR2 := hidH (HR1.out.below hb)
    clear hb HB1 HR1
    go_wp2_with fail
    go_ret2
    exact ⟨_, rfl, ⟨_, 0, rfl, Nat.zero_le _, Nat.zero_le _, fun _ => rfl, fun _ _ _ h => by simp at h⟩, bMore HB2.out _⟩
  · have HP := hidH hp
    clear hp
    obtain ⟨hl1, hl60, _⟩ := planOk_seg HP.out
    by_cases hi : 0 ≤ i ∧ i < (cs.length : Int)
    rotate_left
    · obtain ⟨e1, e2⟩ := splitB_no2 cs a hi
      rw [e1, e2]
      have HIN := hidH (fun W => sIn_any i 0 ((cs.length : Int) - 1) false (decide_eq_false (by omega)) W)
      clear e1 e2 hi
      go_enter Try.func53, Try.ntmps53
      go_wp2_with fail
      refine HOW.out.mono ?_; rintro e w1 ⟨v1, rfl, hr, hb⟩
      have HR1 := hidH hr.lies
      have HB1 := hidH hb
      obtain ⟨a1, cap1, rfl, hc1, hc2⟩ := hr.form
      unfold maxLen at hc2
      clear hr hb
      go_wp2_with fail
      refine (sPlanValid_any _ cs w1 _ HR1.out hn).mono ?_; rintro e w2 ⟨rfl, hb⟩
      rw [HP.out]
      have HB2 := hidH (bThen HB1.out hb)
      have HR2 := hidH (HR1.out.below hb)
      clear hb HB1 HR1
      go_wp2_with fail
      refine (HIN.out _).mono ?_; rintro e w3 ⟨rfl, rfl⟩
      go_wp2_with fail
      go_ret2
      exact ⟨_, rfl, ⟨_, 0, rfl, Nat.zero_le _, Nat.zero_le _, fun _ => rfl, fun _ _ _ h => by simp at h⟩, bMore HB2.out _⟩
    · obtain ⟨k, rfl⟩ : ∃ k : Nat, i = (k : Int) := ⟨i.toNat, by omega⟩
      have hk : k < cs.length := by omega
      have HIN := hidH (fun W => sIn_any (k : Int) 0 ((cs.length : Int) - 1) true (decide_eq_true (by omega)) W)
      clear hi
      obtain ⟨x0, hx0⟩ : ∃ x, cs[k]? = some x := ⟨cs[k], List.getElem?_eq_getElem hk⟩
      obtain ⟨c, zs⟩ := x0
      obtain ⟨hk1, hk60, hz1, hz7⟩ := (planOk_seg HP.out).2.2 c zs (List.mem_of_getElem? hx0)
      have HX := hidH hx0
      clear hx0
      by_cases ha : 1 ≤ a ∧ a < c
      rotate_left
      · obtain ⟨e1, e2⟩ := splitB_no3 HX.out ha
        rw [e1, e2]
        have HIA := hidH (fun W => sIn_any a 1 (c - 1) false (decide_eq_false (by omega)) W)
        clear e1 e2 ha
        go_enter Try.func53, Try.ntmps53
        go_wp2_with fail
        refine HOW.out.mono ?_; rintro e w1 ⟨v1, rfl, hr, hb⟩
        have HR1 := hidH hr.lies
        have HB1 := hidH hb
        obtain ⟨a1, cap1, rfl, hc1, hc2⟩ := hr.form
        unfold maxLen at hc2
        clear hr hb
        go_wp2_with fail
        refine (sPlanValid_any _ cs w1 _ HR1.out hn).mono ?_; rintro e w2 ⟨rfl, hb⟩
        rw [HP.out]
        have HB2 := hidH (bThen HB1.out hb)
        have HR2 := hidH (HR1.out.below hb)
        clear hb HB1 HR1
        obtain ⟨b, off, cap2, e, _, _, _, hcl⟩ := HR2.out.addr (by omega)
        injection e with e1 e2 e3
        subst e1 e3
        clear e2
        obtain ⟨u, c0, c1, hl⟩ := hcl k c zs HX.out
        clear hcl c1 hl
        go_wp2_with fail
        refine (HIN.out _).mono ?_; rintro e w3 ⟨rfl, rfl⟩
        go_wp2_with fail
        refine (HIA.out _).mono ?_; rintro e w4 ⟨rfl, rfl⟩
        clear c0
        go_wp2_with fail
        go_ret2
        exact ⟨_, rfl, ⟨_, 0, rfl, Nat.zero_le _, Nat.zero_le _, fun _ => rfl, fun _ _ _ h => by simp at h⟩, bMore HB2.out _⟩
      · obtain ⟨e1, e2, e3⟩ := splitB_at HP.out HX.out ha
        rw [e1]
        obtain ⟨ha1, ha2⟩ := ha
        have HIA := hidH (fun W => sIn_any a 1 (c - 1) true (decide_eq_true (by omega)) W)
        cases hs : shiftB zs a
        · rw [e2 hs]
          have HS := hidH hs
          clear e1 e2 e3 hs
          go_enter Try.func53, Try.ntmps53
          go_wp2_with fail
          refine HOW.out.mono ?_; rintro e w1 ⟨v1, rfl, hr, hb⟩
          have HR1 := hidH hr.lies
          have HB1 := hidH hb
          obtain ⟨a1, cap1, rfl, hc1, hc2⟩ := hr.form
          unfold maxLen at hc2
          clear hr hb
          go_wp2_with fail
          refine (sPlanValid_any _ cs w1 _ HR1.out hn).mono ?_; rintro e w2 ⟨rfl, hb⟩
          rw [HP.out]
          have HB2 := hidH (bThen HB1.out hb)
          have HR2 := hidH (HR1.out.below hb)
          clear hb HB1 HR1
          obtain ⟨b, off, cap2, e, _, _, _, hcl⟩ := HR2.out.addr (by omega)
          injection e with e1 e2 e3
          subst e1 e3
          clear e2
          obtain ⟨u, c0, c1, hl⟩ := hcl k c zs HX.out
          obtain ⟨ua, uc, rfl⟩ := hl.some
          have HL := hidH hl
          clear hcl hl
          go_wp2_with fail
          refine (HIN.out _).mono ?_; rintro e w3 ⟨rfl, rfl⟩
          go_wp2_with fail
          refine (HIA.out _).mono ?_; rintro e w4 ⟨rfl, rfl⟩
          go_wp2_with fail
          refine (sShift_any _ zs a _ _ _ HL.out).mono ?_; rintro e w5 ⟨r, rfl, hr, hb⟩
          rw [HS.out]
          have HB5 := hidH (bThen HB2.out hb)
          clear hb hr c0 c1
          go_wp2_with fail
          go_ret2
          exact ⟨_, rfl, ⟨_, 0, rfl, Nat.zero_le _, Nat.zero_le _, fun _ => rfl, fun _ _ _ h => by simp at h⟩, bMore HB5.out _⟩
        · rw [e3 hs]
          have HS := hidH hs
          clear e1 e2 e3 hs
          go_enter Try.func53, Try.ntmps53
          go_wp2_with fail
          refine HOW.out.mono ?_; rintro e w1 ⟨v1, rfl, hr, hb⟩
          have HR1 := hidH hr.lies
          have HB1 := hidH hb
          obtain ⟨a1, cap1, rfl, hc1, hc2⟩ := hr.form
          unfold maxLen at hc2
          clear hr hb
          go_wp2_with fail
          refine (sPlanValid_any _ cs w1 _ HR1.out hn).mono ?_; rintro e w2 ⟨rfl, hb⟩
          rw [HP.out]
          have HB2 := hidH (bThen HB1.out hb)
          have HR2 := hidH (HR1.out.below hb)
          clear hb HB1 HR1
          obtain ⟨b, off, cap2, e, _, _, _, hcl⟩ := HR2.out.addr (by omega)
          injection e with e1 e2 e3
          subst e1 e3
          clear e2
          obtain ⟨u, c0, c1, hl⟩ := hcl k c zs HX.out
          obtain ⟨ua, uc, rfl⟩ := hl.some
          obtain ⟨b2, off2, cap3, us, e, _, _, hpf, hcf⟩ := HR2.out.part (by omega)
          injection e with e1 e2 e3
          subst e3
          clear e2
          injection e1 with e1
          injection e1 with eb eo
          subst eb eo
          have HL := hidH hl
          have HPF := hidH hpf
          have HCF := hidH hcf
          clear hcl hl hpf hcf
          go_wp2_with fail
          refine (HIN.out _).mono ?_; rintro e w3 ⟨rfl, rfl⟩
          go_wp2_with fail
          refine (HIA.out _).mono ?_; rintro e w4 ⟨rfl, rfl⟩
          go_wp2_with fail
          refine (sShift_any _ zs a _ _ _ HL.out).mono ?_; rintro e w5 ⟨r, rfl, hr, hb⟩
          rw [HS.out]
          have HB5 := hidH (bThen HB2.out hb)
          have f0 := (hb.cell (p := ⟨b, off + k * 2, none⟩) (cell_blk _ _ _ c0)).trans c0
          have f1 := (hb.cell (p := ⟨b, off + k * 2 + 1, none⟩) (cell_blk _ _ _ c1)).trans c1
          have HL5 := hidH (HL.out.below hb)
          have HPF5 := hidH (HPF.out.below hb)
          have HCF5 := hidH (HCF.out.below hb)
          have HRR := hidH hr
          obtain ⟨ra, rc, rfl⟩ := hr.some
          generalize hq : shiftA zs a = ys at *
          have HQ := hidH hq
          clear hq
          clear hb hr c0 c1 HL HPF HCF
          have hB56 : Below w5.heap.size w5 (w5.alloc (.cells #[.int .i64 a, .slice ua zs.length uc] 39)) := (Below.refl _ w5).alloc (Nat.le_refl _) _
          have HB6 := hidH (HB5.out.trans (hB56.mono HB5.out.size))
          have HPF6 := hidH (HPF5.out.below hB56)
          have HCF6 := hidH (HCF5.out.below hB56)
          have HL6 := hidH ((HL5.out.below hB56).top)
          have HRR6 := hidH ((HRR.out.lies.below hB56).top)
          have HSG := hidH (SegAt.fresh w5 a (.slice ua zs.length uc))
          have g0 := (hB56.cell (p := ⟨b, off + k * 2, none⟩) (cell_blk _ _ _ f0)).trans f0
          clear hB56 HPF5 HCF5 HL5 HRR HB5
          go_upto_region 8 with fail
          clear f0 f1
          generalize hw6 : w5.alloc (.cells #[.int .i64 a, .slice ua zs.length uc] 39) = w6 at *
          have HW6 := hidH hw6
          clear hw6
          have k0 : w6.drew.cell? ⟨w5.heap.size, 0, none⟩ = _ := HSG.out.cell0
          have k1 : w6.drew.cell? ⟨w5.heap.size, 1, none⟩ = _ := HSG.out.cell1
          have g1 : w6.drew.cell? ⟨b, off + k * 2, none⟩ = _ := g0
          have hw := IntWalk.i64_in (c - a) (by omega)
          have hB67 : Below w6.heap.size w6 (w6.alloc (.cells #[.int .i64 a, .slice ua zs.length uc, .int .i64 (c - a), .slice ra ys.length rc] 39)) := (Below.refl _ w6).alloc (Nat.le_refl _) _
          have HPF7 := hidH (HPF6.out.below hB67)
          have HCF7 := hidH ((HCF6.out.below hB67).top)
          have HPN : Hid (PartF (w6.alloc (.cells #[.int .i64 a, .slice ua zs.length uc, .int .i64 (c - a), .slice ra ys.length rc] 39)) ⟨w6.heap.size, 0, none⟩ 2 2 [.int .i64 a, .slice ua zs.length uc, .int .i64 (c - a), .slice ra ys.length rc]) := hidH ⟨rfl, Nat.le_refl _, by decide, (World.news_of_block (cs := #[.int .i64 a, .slice ua zs.length uc, .int .i64 (c - a), .slice ra ys.length rc]) (t := 39) (fr := (0, 0)) (heap_alloc_new w6 (.cells #[.int .i64 a, .slice ua zs.length uc, .int .i64 (c - a), .slice ra ys.length rc] 39))), by simp [Value.oneCell']⟩
          have HCN : Hid (CellsSg (w6.alloc (.cells #[.int .i64 a, .slice ua zs.length uc, .int .i64 (c - a), .slice ra ys.length rc] 39)) (w6.alloc (.cells #[.int .i64 a, .slice ua zs.length uc, .int .i64 (c - a), .slice ra ys.length rc] 39)).heap.size [.int .i64 a, .slice ua zs.length uc, .int .i64 (c - a), .slice ra ys.length rc] [(a, zs), (c - a, ys)]) := hidH ⟨rfl, fun j c' ys' hj => by
            have hj2 : j < 2 := (List.getElem?_eq_some_iff.1 hj).1
            have : j = 0 ∨ j = 1 := by omega
            rcases this with rfl | rfl
            · injection hj with hj
              injection hj with e1 e2
              subst e1 e2
              exact ⟨rfl, _, rfl, (HL6.out.below hB67).top⟩
            · injection hj with hj
              injection hj with e1 e2
              subst e1 e2
              exact ⟨rfl, _, rfl, (HRR6.out.below hB67).top⟩⟩
          have HB7 := hidH (HB6.out.trans (hB67.mono HB6.out.size))
          have HED := hidH (fun (W : World) (hb : Below (w6.alloc (.cells #[.int .i64 a, .slice ua zs.length uc, .int .i64 (c - a), .slice ra ys.length rc] 39)).heap.size (w6.alloc (.cells #[.int .i64 a, .slice ua zs.length uc, .int .i64 (c - a), .slice ra ys.length rc] 39)) W) => show Calls Try.prog 86 #[.slice (some ⟨b, off, none⟩) cs.length cap1, .int .i64 (k : Int), .int .i64 1, .slice (some ⟨w6.heap.size, 0, none⟩) 2 2] W (NewLs (cs.take k ++ [(a, zs), (c - a, ys)] ++ cs.drop (k + 1)) W) from sEdit_any b off cap1 us cs ⟨w6.heap.size, 0, none⟩ 2 2 _ [(a, zs), (c - a, ys)] k 1 W (HPF7.out.below hb) ((HCF7.out.below hb).mono hb.size) (HPN.out.below hb) ((HCN.out.below hb).mono hb.size) rfl (by omega) hn (by simp))
          have HGQ := hidH (show cs.take k ++ [(a, zs), (c - a, shiftA zs a)] ++ cs.drop (k + 1) = cs.take k ++ [(a, zs), (c - a, ys)] ++ cs.drop (k + 1) by rw [HQ.out])
          generalize cs.take k ++ [(a, zs), (c - a, ys)] ++ cs.drop (k + 1) = gs at *
          clear hB67 g0
          go_region_with (go_at_call 86; refine (HED.out _ (by first | exact (Below.refl _ _).drew | exact Below.refl _ _)).mono ?_; rintro e w8 ⟨v8, rfl, hr, hb⟩; (have HR8 := hidH hr); (have HB8 := hidH (bThen (show Below w.heap.size w _ from by first | exact HB7.out.drew | exact HB7.out) hb)); clear hr hb)
          all_goals
            obtain ⟨v8a, v8c, rfl, hv1, hv2⟩ := HR8.out.len
            clear hv1 hv2
            go_wp2_with fail
            go_ret2
            rw [HGQ.out]
            exact ⟨.slice v8a gs.length v8c, rfl, HR8.out, HB8.out⟩
theorem splitA_len (cs : List (Int × List Int)) (i a : Int) : (splitA cs i a).length ≤ 61 ∧ ∀ c zs, (c, zs) ∈ splitA cs i a → zs.length ≤ 7 := by
  cases hb : splitB cs i a
  · have e : splitA cs i a = [] := by unfold splitA; rw [hb]; rfl
    rw [e]
    exact ⟨by simp, fun c zs h => by cases h⟩
  · have hb' := hb
    unfold splitB splitOk at hb'
    rw [Bool.and_eq_true, Bool.and_eq_true, Bool.and_eq_true, decide_eq_true_eq, decide_eq_true_eq] at hb'
    obtain ⟨⟨hp, hi, ha⟩, hs⟩ := hb'
    obtain ⟨k, rfl⟩ : ∃ k : Nat, i = (k : Int) := ⟨i.toNat, by omega⟩
    have hk : k < cs.length := by omega
    rw [Int.toNat_natCast, List.getD_eq_getElem?_getD, List.getElem?_eq_getElem hk, Option.getD_some] at ha hs
    have hx : cs[k]? = some (cs[k].1, cs[k].2) := List.getElem?_eq_getElem hk
    obtain ⟨_, _, e3⟩ := splitB_at hp hx ha
    rw [e3 hs]
    obtain ⟨_, h60, _⟩ := planOk_seg hp
    exact ⟨by simp; omega, fun c zs h => (split_polys hp hx hs c zs h).2⟩
theorem sSplit_any (v : Value) (cs : List (Int × List Int)) (i a : Int) (w : World) (h1 : Nat) (hv : LiesSg w h1 v cs) (hn : cs.length ≤ 1048576) (hz : ∀ c zs, (c, zs) ∈ cs → zs.length ≤ 1048576) : Calls Try.prog 23 #[v, .int .i64 i, .int .i64 a] w (NewApB (splitA cs i a) (splitB cs i a) w) := by
  have HR := hidH (sRawSplit_any v cs i a w h1 hv hn hz)
  have HL := hidH (splitA_len cs i a)
  clear hv hz
  generalize splitA cs i a = gs at *
  generalize splitB cs i a = tb at *
  go_enter Try.func23, Try.ntmps23
  go_wp2_with fail
  refine HR.out.mono ?_; rintro e w2 ⟨u, rfl, hr, hb⟩
  have HB := hidH hb
  have HRR := hidH hr
  clear hb hr
  go_wp2_with fail
  refine (ownSgs_any u gs w2 _ HRR.out (by have := HL.out.1; omega) (fun c zs h => by have := HL.out.2 c zs h; omega)).mono ?_; rintro e w3 ⟨u3, rfl, hr, hb⟩
  have HB3 := hidH (bThen HB.out hb)
  have HR3 := hidH (hr.mono HB.out.size (Nat.le_refl _))
  clear hb hr
  go_wp2_with fail
  go_ret2
  exact ⟨_, rfl, HR3.out, HB3.out⟩
end Go.Proofs.Ytgnoclnenhmakaa
