/-
  GreedyPlan: the program, the whole plan. No conditions but that slices fit in memory.
-/
import Derived.Test.YtpkieconbfgbdaaPlfA
import Derived.Test.YtpkieconbfgbdaaPlfR
import Derived.Test.YtpkieconbfgbdaaLlS
namespace Go.Proofs.Ytpkieconbfgbdaa
set_option maxRecDepth 4000
open Go.RowKit
/-- What stands in a row of segments that grows: numbers, and rows of the call's own that lie apart from each other, up to m, and from the row itself. -/
def InSg (w : World) (base m : Nat) (ov : Value) (us : List Value) (cs : List (Int × List Int)) : Prop := us.length = cs.length * 2 ∧ m ≤ w.heap.size ∧ ∃ L H : Nat → Nat, (∀ i j, i < j → j < cs.length → H i ≤ L j) ∧ (∀ j, j < cs.length → base ≤ L j ∧ H j ≤ m ∧ ∀ g, ov.ownBlock = some g → g < L j ∨ H j ≤ g) ∧
  ∀ (j : Nat) c zs, cs[j]? = some (c, zs) → ∃ u, us[j * 2]? = some (.int .i64 c) ∧ us[j * 2 + 1]? = some u ∧ Row w (L j) (H j) u zs
theorem InSg.nil (w : World) (base m : Nat) (ov : Value) (hm : m ≤ w.heap.size) : InSg w base m ov [] [] := ⟨rfl, hm, fun _ => 0, fun _ => 0, fun _ _ _ _ => Nat.le_refl _, fun _ h => absurd h (Nat.not_lt_zero _), fun _ _ _ h => by simp at h⟩
theorem InSg.below {w w' : World} {base m : Nat} {ov : Value} {us : List Value} {cs : List (Int × List Int)} (X : InSg w base m ov us cs) (hb : Below w.heap.size w w') : InSg w' base m ov us cs := by
  obtain ⟨h1, h2, L, H, h3, h4, h5⟩ := X
  refine ⟨h1, Nat.le_trans h2 hb.size, L, H, h3, h4, fun j c zs hj => ?_⟩
  obtain ⟨u, e1, e2, e3⟩ := h5 j c zs hj
  exact ⟨u, e1, e2, e3.below hb⟩
/-- One more segment is appended. -/
theorem InSg.snoc {w w' : World} {base m l h g : Nat} {ov ov' u : Value} {us : List Value} {cs : List (Int × List Int)} {c : Int} {zs : List Int} (X : InSg w base m ov us cs) (hg : w.grownBy w' ov.ownBlock) (hs : w.heap.size ≤ w'.heap.size) (ho : ov'.ownBlock = some g) (hat : ov.ownBlock = some g ∨ w.heap.size ≤ g)
    (hu : Row w l h u zs) (hml : m ≤ l) (hlh : l ≤ h) (hh : h ≤ w.heap.size) (hb : base ≤ l) (hl : ∀ g, ov.ownBlock = some g → g < l) : InSg w' base h ov' (us ++ [.int .i64 c, u]) (cs ++ [(c, zs)]) := by
  obtain ⟨h1, h2, L, H, h3, h4, h5⟩ := X
  refine ⟨by simp [h1]; omega, Nat.le_trans hh hs, fun j => if j < cs.length then L j else l, fun j => if j < cs.length then H j else h, fun i j hij hj => ?_, fun j hj => ?_, fun j c' ys hj => ?_⟩
  · simp at hj
    by_cases c1 : j < cs.length
    · simp [c1, show i < cs.length by omega]; exact h3 i j hij c1
    · simp [c1, show i < cs.length by omega]; have := (h4 i (by omega)).2.1; omega
  · simp at hj
    by_cases c1 : j < cs.length
    · simp only [c1, if_true]
      obtain ⟨q1, q2, q3⟩ := h4 j c1
      refine ⟨q1, by omega, fun k hk => ?_⟩
      rw [ho] at hk
      injection hk with hk
      subst hk
      rcases hat with e | e
      · exact q3 _ e
      · exact .inr (by omega)
    · simp only [c1, if_false]
      refine ⟨hb, Nat.le_refl _, fun k hk => ?_⟩
      rw [ho] at hk
      injection hk with hk
      subst hk
      rcases hat with e | e
      · exact .inl (hl _ e)
      · exact .inr (by omega)
  · by_cases c1 : j < cs.length
    · rw [List.getElem?_append_left c1] at hj
      obtain ⟨v, e1, e2, e3⟩ := h5 j c' ys hj
      obtain ⟨q1, q2, q3⟩ := h4 j c1
      simp only [c1, if_true]
      exact ⟨v, by rw [List.getElem?_append_left (by omega)]; exact e1, by rw [List.getElem?_append_left (by omega)]; exact e2, e3.grown hg q3⟩
    · have hje : j = cs.length := by
        have := (List.getElem?_eq_some_iff.1 hj).1
        simp at this
        omega
      subst hje
      rw [List.getElem?_append_right (Nat.le_refl _), Nat.sub_self] at hj
      injection hj with hj
      injection hj with hj1 hj2
      subst hj1 hj2
      simp only [Nat.lt_irrefl, if_false]
      refine ⟨u, by rw [List.getElem?_append_right (by omega), show cs.length * 2 - us.length = 0 by omega]; rfl, by rw [List.getElem?_append_right (by omega), show cs.length * 2 + 1 - us.length = 1 by omega]; rfl, hu.grown hg (fun k hk => .inl (hl k hk))⟩
/-- .. and what the row holds is a row of segments of the call's own. -/
theorem InSg.ap {w : World} {base m e n : Nat} {ov : Value} {us : List Value} {cs : List (Int × List Int)} (X : InSg w base m ov us cs) (hown : w.ownsRow base e 2 ov n us) : ApSg w base w.heap.size ov cs := by
  obtain ⟨h1, h2, L, H, h3, h4, h5⟩ := X
  obtain ⟨hl, hv⟩ := hown
  have hn : n = cs.length := by omega
  subst hn
  rcases hv with ⟨rfl, h0⟩ | ⟨g, cap, cur, rfl, hg, hh, hn, hc, hsz, ht⟩
  · obtain rfl : cs = [] := List.eq_nil_of_length_eq_zero h0
    exact ApSg.nil w base _ none 0 (Nat.zero_le _) (fun _ => rfl)
  · have hlt : g < w.heap.size := (Array.getElem?_eq_some_iff.1 hh).1
    refine ⟨some ⟨g, 0, none⟩, cap, L, H, rfl, hn, hc, (fun e => by cases e), h3, fun j c zs hj => ?_⟩
    have hjl := (List.getElem?_eq_some_iff.1 hj).1
    obtain ⟨u, e1, e2, e3⟩ := h5 j c zs hj
    obtain ⟨q1, q2, q3⟩ := h4 j hjl
    rw [← ht, List.getElem?_take, if_pos (by omega), Array.getElem?_toList] at e1 e2
    exact ⟨g, u, rfl, hg, hlt, q3 g rfl, q1, Nat.le_trans q2 h2, by simp [World.cell?, hh, e1], by simp [World.frozen?, hh], by simp [World.cell?, hh, e2], by simp [World.frozen?, hh], e3⟩
/-! ### The plan by longest runs -/
def plF (zs : List Int) (d : Nat) : Nat → Nat → List (Int × List Int)
  | 0, _ => []
  | f + 1, j => if j < zs.length then ((longN (d + 1) (zs.drop j) : Nat), segP zs (j : Int) (longN (d + 1) (zs.drop j) : Nat) (d : Int)) :: plF zs d f (nxZ (d + 1) zs j) else []
theorem plF_fuel (zs : List Int) (d f g i : Nat) (hf : zs.length - i ≤ f) (hg : zs.length - i ≤ g) : plF zs d f i = plF zs d g i := by
  have h := nxZ_fwd (d + 1) zs (by omega)
  induction f generalizing g i with
  | zero =>
    have : ¬ i < zs.length := by omega
    cases g with
    | zero => rfl
    | succ g => rw [plF, plF, if_neg this]
  | succ f ih =>
    cases g with
    | zero =>
      have : ¬ i < zs.length := by omega
      rw [plF, plF, if_neg this]
    | succ g =>
      rw [plF, plF]
      by_cases c : i < zs.length
      · rw [if_pos c, if_pos c]
        have := h.lt i c
        rw [ih g (nxZ (d + 1) zs i) (by omega) (by omega)]
      · rw [if_neg c, if_neg c]
/-- .. from a place on. -/
def plG (zs : List Int) (d i : Nat) : List (Int × List Int) := plF zs d zs.length i
theorem plG_end (zs : List Int) (d i : Nat) (hi : zs.length ≤ i) : plG zs d i = [] := by
  unfold plG
  cases h : zs.length with
  | zero => rfl
  | succ n => rw [plF, if_neg (by omega)]
theorem plG_step (zs : List Int) (d i : Nat) (hi : i < zs.length) : plG zs d i = (((longN (d + 1) (zs.drop i) : Nat) : Int), segP zs (i : Int) (longN (d + 1) (zs.drop i) : Nat) (d : Int)) :: plG zs d (nxZ (d + 1) zs i) := by
  have h := (nxZ_fwd (d + 1) zs (by omega)).lt i hi
  unfold plG
  have e : plF zs d zs.length i = plF zs d (zs.length + 1) i := plF_fuel zs d _ _ i (by omega) (by omega)
  rw [e, plF, if_pos hi]
theorem plF_len (zs : List Int) (d f i : Nat) : (plF zs d f i).length = gC (nxZ (d + 1) zs) zs.length f i := by
  induction f generalizing i with
  | zero => rfl
  | succ f ih =>
    rw [plF, gC]
    by_cases c : i < zs.length
    · rw [if_pos c, if_pos c, List.length_cons, ih]; omega
    · rw [if_neg c, if_neg c]; rfl
theorem plG_len (zs : List Int) (d i : Nat) : (plG zs d i).length = gN (nxZ (d + 1) zs) zs.length i := plF_len zs d _ i
/-- What GreedyPlan answers. -/
def greedyG (zs : List Int) (d : Int) : List (Int × List Int) := if smallOk zs && degOk d then plG zs d.toNat 0 else []
theorem greedyG_no1 (zs : List Int) (d : Int) (h : smallOk zs = false) : greedyG zs d = [] := by unfold greedyG; rw [h]; rfl
theorem greedyG_no2 (zs : List Int) (d : Int) (h : degOk d = false) : greedyG zs d = [] := by unfold greedyG; rw [h, Bool.and_false]; rfl
theorem greedyG_yes (zs : List Int) (d : Int) (h : smallOk zs = true) (k : degOk d = true) : greedyG zs d = plG zs d.toNat 0 := by unfold greedyG; rw [h, k]; rfl
theorem greedyG_len (zs : List Int) (d : Int) (h : (smallOk zs && degOk d) = true) : (greedyG zs d).length = fewN (d.toNat + 1) zs := by
  unfold greedyG
  rw [h, if_pos rfl, plG_len]; rfl
/-- A call that answers a new row of segments. -/
def NewAp (cs : List (Int × List Int)) (w : World) (e : Ending) (w' : World) : Prop := ∃ v, e = .returned v ∧ ApSg w' w.heap.size w'.heap.size v cs ∧ Below w.heap.size w w'
set_option maxHeartbeats 3200000 in
theorem planByW_any (b1 b2 : Nat) (av : Option Addr) (cap : Nat) (zs : List Int) (d : Nat) (w : World) (lo hi : Nat) (hv : Lies w lo hi (.slice av zs.length cap) zs) (h1 : w.cell? ⟨b1, 0, none⟩ = some (.slice av zs.length cap)) (h2 : w.cell? ⟨b2, 0, none⟩ = some (.int .i64 (d : Int))) (hs : smallOk zs = true) (hd : degOk (d : Int) = true) :
    Calls Try.prog 30 #[.slice av zs.length cap, .int .i64 (d : Int), .func (.func 31) #[] #[.pointer (some ⟨b1, 0, none⟩), .pointer (some ⟨b2, 0, none⟩)]] w (NewAp (plG zs d 0) w) := by
  have ⟨hl1, hl60, _⟩ := (small_iff zs).1 hs
  have hd6 : d ≤ 6 := by unfold degOk at hd; have := of_decide_eq_true hd; omega
  obtain ⟨i0, hi0, hz0, hz1, hz2⟩ := info_parts info_sg
  have HV := hidH hv
  have H1 := hidH h1
  have H2 := hidH h2
  have l1 := cell_blk _ _ _ h1
  have l2 := cell_blk _ _ _ h2
  have HF := hidH (nxZ_fwd (d + 1) zs (by omega))
  have HSC := hidH (fun k hk => seg_run zs d k hs hd hk)
  obtain ⟨_, _, e, hlc, hcm, _, _⟩ := hv
  injection e with e1 _ e3
  subst e1 e3
  unfold maxLen at hcm
  clear h1 h2
  go_enter Try.func30, Try.ntmps30
  go_wp2_with fail
  go_loopw [7, 8] (fun o i wr => ∃ (j k m : Nat) (ov : Value) (xs : List Value) (cs : List (Int × List Int)), j ≤ zs.length ∧ i = .int .i64 j ∧ ov = o ∧ k ≤ j ∧ Aside (cs.length = k ∧ cs ++ plG zs d j = plG zs d 0) ∧ wr.ownsRow w.heap.size 46 2 ov k xs ∧ InSg wr w.heap.size m ov xs cs ∧ Below w.heap.size w wr) (fun _ i _ => zs.length - (intOf i).toNat)
  case atStart => exact ⟨0, 0, w.heap.size, _, [], [], Nat.zero_le _, rfl, rfl, Nat.le_refl _, ⟨rfl, rfl⟩, ⟨rfl, Or.inl ⟨rfl, rfl⟩⟩, InSg.nil _ _ _ _ (Nat.le_refl _), Below.refl _ _⟩
  case round =>
    obtain ⟨j, k, m, ov, xs, cs, hj, rfl, rfl, hkj, hg, hown, hin, hb⟩ := hrel
    have HG := hidH hg
    have HW := hidH hown
    have HI := hidH hin
    have HBq := hidH hb
    clear hg hown hin hb
    by_cases hlt : j < zs.length
    · have c1 : wr.cell? ⟨b1, 0, none⟩ = some (.slice av zs.length cap) := by rw [HBq.out.cell (p := ⟨b1, 0, none⟩) l1]; exact H1.out
      have c2 : wr.cell? ⟨b2, 0, none⟩ = some (.int .i64 (d : Int)) := by rw [HBq.out.cell (p := ⟨b2, 0, none⟩) l2]; exact H2.out
      have HVr := hidH (HV.out.below HBq.out)
      have HRA := hidH (runAt_any b1 b2 av cap zs d j wr _ _ HVr.out c1 c2 hd6 hl60 hlt)
      have HSCj := hidH (HSC.out j hlt)
      have hp1 := HF.out.lt j hlt
      have hp2 := HF.out.le j hlt
      have HST := hidH (plG_step zs d j hlt)
      have HNX := hidH (show nxZ (d + 1) zs j = j + longN (d + 1) (zs.drop j) from rfl)
      rw [HNX.out] at hp1 hp2
      generalize longN (d + 1) (zs.drop j) = cn at *
      clear c1 c2
      go_wp2_with fail
      refine HRA.out.mono ?_; rintro e w2 ⟨rfl, hb⟩
      have HV2 := hidH (HVr.out.below hb)
      have HW2 := hidH (owns_below HW.out hb)
      have HI2 := hidH (HI.out.below hb)
      have hs2 := hb.size
      have HB2 := hidH (bThen HBq.out hb)
      clear hb HRA HW HVr HI
      go_wp2_with fail
      refine (segOf_any _ zs (j : Int) (cn : Int) (d : Int) w2 _ _ HV2.out).mono ?_; rintro e w3 ⟨pv, rfl, hr, hb⟩
      rw [HSCj.out]
      obtain ⟨pa, pcap, rfl⟩ := hr.some
      have HW3 := hidH (owns_below HW2.out hb)
      have HI3 := hidH (HI2.out.below hb)
      have HRP := hidH hr
      have HOL := hidH (fun g hg => (HW2.out.lt g hg).2)
      have HBS := hidH HB2.out.size
      have HMI := hidH HI2.out.2.1
      have HS3 := hidH hb.size
      have HB3 := hidH (bThen HB2.out hb)
      clear hb hr HW2 HV2 HSCj HI2
      generalize hpl : (segP zs (j : Int) (cn : Int) (d : Int)).length = pl at *
      have HPL := hidH hpl
      clear hpl
      have HZ := hidH (SegAt.fresh w3 0 (.slice none 0 0))
      have HZ4 := hidH ((SegAt.fresh w3 0 (.slice none 0 0)).setRow (cn : Int) (.slice pa pl pcap))
      have hsz3 := HB3.out.size
      have HW4 := hidH (owns_below HW3.out (show Below w3.heap.size w3 ((w3.alloc (.cells #[.int .i64 0, .slice none 0 0] 46)).setRow w3.heap.size #[.int .i64 (cn : Int), .slice pa pl pcap]) from bRow ((Below.refl _ _).alloc (Nat.le_refl _) _) (Nat.le_refl _) _))
      have hB34 : Below w3.heap.size w3 ((w3.alloc (.cells #[.int .i64 0, .slice none 0 0] 46)).setRow w3.heap.size #[.int .i64 (cn : Int), .slice pa pl pcap]) := bRow ((Below.refl _ _).alloc (Nat.le_refl _) _) (Nat.le_refl _) _
      have HI4 := hidH (HI3.out.below hB34)
      have HRP4 := hidH (HRP.out.below hB34)
      have HS4 := hidH hB34.size
      clear hB34 HI3 HRP
      have HB4 := hidH (bRow (bMore HB3.out (.cells #[.int .i64 0, .slice none 0 0] 46)) hsz3 #[.int .i64 (cn : Int), .slice pa pl pcap])
      have SZ := hidH (seg_size (cn : Int) (.slice pa pl pcap))
      have SO := hidH (seg_one (cn : Int) pa pl pcap)
      go_upto_region 5 with (refine wpList_store_row rfl 46 _ _ rfl w3.heap.size #[.int .i64 (cn : Int), .slice pa pl pcap] rfl rfl 46 _ HZ.out SZ.out rfl SO.out ?_)
      generalize ((w3.alloc (.cells #[.int .i64 0, .slice none 0 0] 46)).setRow w3.heap.size #[.int .i64 (cn : Int), .slice pa pl pcap]) = w4 at *
      have hsz4 := HB4.out.size
      have hk60 : k ≤ 60 := by omega
      have hB45 : Below w4.heap.size w4 (w4.alloc (.cells #[.int .i64 (cn : Int), .slice pa pl pcap] 46)) := (Below.refl _ w4).alloc (Nat.le_refl _) _
      have HI5 := hidH (HI4.out.below hB45)
      have HRP5 := hidH (HRP4.out.below hB45)
      have HS5 := hidH hB45.size
      clear hB45 HI4 HRP4
      have HW5 := hidH (owns_below HW4.out ((Below.refl _ w4).alloc (Nat.le_refl _) (.cells #[.int .i64 (cn : Int), .slice pa pl pcap] 46)))
      have HNW := hidH (World.news_of_block (cs := #[.int .i64 (cn : Int), .slice pa pl pcap]) (t := 46) (fr := (0, 0)) (heap_alloc_new w4 (.cells #[.int .i64 (cn : Int), .slice pa pl pcap] 46)))
      have HZ5 := hidH (HZ4.out.below ((Below.refl _ w4).alloc (Nat.le_refl _) (.cells #[.int .i64 (cn : Int), .slice pa pl pcap] 46)))
      go_wp2_with (first
        | (refine wpList_load_row rfl 46 _ rfl w3.heap.size rfl 46 _ (0, 0) _ HZ4.out Try.underlying46 rfl SZ.out ?_)
        | (at_builtin; refine wpList_append_lies _ rfl _ _ 23 rfl w.heap.size 46 i0 _ 2 32 Try.underlying23 hi0 hz0 hz1 hz2 rfl (by decide) _ _ _ rfl HW5.out ⟨w4.heap.size, 0, none⟩ 1 1 [.int .i64 (cn : Int), .slice pa pl pcap] rfl rfl HNW.out (by simp [Value.oneCell']) (by decide) (by unfold maxLen; omega) (by omega) (by simp; omega) _ rfl ?_))
      intro g9 cap9 w9 hown1 hgrow hat hlt9
      have HI9 := hidH (HI5.out.snoc (ov' := .slice (some ⟨g9, 0, none⟩) (k + 1) cap9) (c := (cn : Int)) hgrow hgrow.size rfl (hat.imp id (fun h => by rw [h]; simp)) HRP5.out HMI.out HS3.out (Nat.le_trans HS4.out HS5.out) HBS.out (fun g hg => HOL.out g hg))
      have HR9 := hidH hown1
      have hnb : ov.ownBlock ≠ some w3.heap.size := fun h => by have := (HW3.out.lt _ h).2; omega
      have HZ9 : Hid (w9.cell? ⟨w3.heap.size, 0, none⟩ = some (.int .i64 (cn : Int))) := by
        have hlt5 := HZ5.out.lt
        have hb9 := hgrow.block w3.heap.size (by simpa using hlt5) hnb.symm
        show w9.cell? ⟨w3.heap.size, 0, none⟩ = _
        rw [World.cell?_of_block hb9]
        exact HZ5.out.cell0
      have HB9 := hidH ((HB4.out.alloc hsz4 (.cells #[.int .i64 (cn : Int), .slice pa pl pcap] 46)).grown hgrow (by simp; omega) fun g hg => (HW3.out.lt g hg).1)
      have c9 := HZ9.out
      clear hown1 hgrow hat hlt9
      go_wp2_with fail
      go_roundw
      case rel =>
        refine ⟨j + cn, k + 1, _, _, _, _, by omega, by go_num, rfl, by omega, ?_, HR9.out, HI9.out, HB9.out⟩
        obtain ⟨h1, h2⟩ := HG.out.out
        rw [HST.out, HNX.out] at h2
        exact ⟨by simp [h1], by rw [← h2]; simp⟩
      case measure => simp [intOf]; omega
    · obtain rfl : j = zs.length := by omega
      obtain ⟨hg1, hg2⟩ := HG.out
      rw [plG_end _ _ _ (Nat.le_refl _), List.append_nil] at hg2
      have HGN := hidH hg2
      have HAP := hidH (HI.out.ap HW.out)
      clear hg1 hg2 HG
      go_wp2_with fail
      go_ret
      rw [← HGN.out]
      exact ⟨_, rfl, HAP.out, HBq.out⟩
set_option maxHeartbeats 1600000 in
theorem greedyW_any (v0 : Value) (zs : List Int) (n : Int) (w : World) (lo0 hi0 : Nat) (hv0 : Lies w lo0 hi0 v0 zs) :
    Calls Try.prog 10 #[v0, .int .i64 n] w (NewApB (greedyG zs n) (smallOk zs && degOk n) w) := by
  have HV := hidH hv0
  obtain ⟨a0, cap0, rfl, hlc0, hcm0, _, _⟩ := hv0
  unfold maxLen at hcm0
  have BB := hidH (bMore (bMore (Below.refl w.heap.size w) (.cells #[.slice a0 zs.length cap0] 22)) (.cells #[.int .i64 n] 3))
  have HV1 := hidH (HV.out.below BB.out)
  have hmf : ∀ (fn : Fn) (first cap : Array Value) (w : World), (Instr.makeFunc fn first cap).run Try.prog w = .ok (.func fn first cap) w := fun _ _ _ _ => rfl
  have k1 : ((w.alloc (.cells #[.slice a0 zs.length cap0] 22)).alloc (.cells #[.int .i64 n] 3)).cell? ⟨w.heap.size, 0, none⟩ = some (.slice a0 zs.length cap0) := by
    rw [World.cell?_alloc_past _ _ _ (by simp), World.cell?_alloc_at _ _ _ _ rfl]; rfl
  have k2 : ((w.alloc (.cells #[.slice a0 zs.length cap0] 22)).alloc (.cells #[.int .i64 n] 3)).cell? ⟨w.heap.size + 1, 0, none⟩ = some (.int .i64 n) := by
    rw [show w.heap.size + 1 = (w.alloc (.cells #[.slice a0 zs.length cap0] 22)).heap.size by simp, World.cell?_alloc_at _ _ _ _ rfl]; rfl
  have l1 : w.heap.size < ((w.alloc (.cells #[.slice a0 zs.length cap0] 22)).alloc (.cells #[.int .i64 n] 3)).heap.size := by simp; omega
  have l2 : w.heap.size + 1 < ((w.alloc (.cells #[.slice a0 zs.length cap0] 22)).alloc (.cells #[.int .i64 n] 3)).heap.size := by simp
  have K1 := hidH k1
  have K2 := hidH k2
  have L1 := hidH l1
  have L2 := hidH l2
  clear k1 k2 l1 l2
  have HG1 := hidH (greedyG_no1 zs n)
  have HG2 := hidH (greedyG_no2 zs n)
  have HG3 := hidH (greedyG_yes zs n)
  cases hs : smallOk zs
  · have HS := hidH hs
    rw [Bool.false_and]
    clear hs
    have c1 := K1.out
    go_enter Try.func10, Try.ntmps10
    go_wp2_with fail
    refine (small_any _ zs _ _ _ HV1.out).mono ?_; rintro e w2 ⟨rfl, hb⟩
    rw [HS.out]
    have HB := hidH (bThen BB.out hb)
    clear hb
    go_wp2_with fail
    go_ret2
    rw [HG1.out HS.out]
    exact ⟨_, rfl, ApSg.nil _ _ _ none 0 (Nat.zero_le _) (fun _ => rfl), HB.out⟩
  · have HS := hidH hs
    rw [Bool.true_and]
    have c1 := K1.out
    go_enter Try.func10, Try.ntmps10
    go_wp2_with fail
    refine (small_any _ zs _ _ _ HV1.out).mono ?_; rintro e w2 ⟨rfl, hb⟩
    rw [HS.out]
    have HB := hidH (bThen BB.out hb)
    have HV2 := hidH (HV1.out.below hb)
    have e1 : w2.cell? ⟨w.heap.size, 0, none⟩ = some (.slice a0 zs.length cap0) := by rw [hb.cell (p := ⟨w.heap.size, 0, none⟩) L1.out]; exact K1.out
    have e2 : w2.cell? ⟨w.heap.size + 1, 0, none⟩ = some (.int .i64 n) := by rw [hb.cell (p := ⟨w.heap.size + 1, 0, none⟩) L2.out]; exact K2.out
    clear hb c1 hs
    cases hd : degOk n
    · have HD := hidH hd
      clear hd
      go_wp2_with fail
      refine (degValid_any n _).mono ?_; rintro e w3 ⟨rfl, rfl⟩
      rw [HD.out]
      go_wp2_with fail
      go_ret2
      rw [HD.out, HG2.out HD.out]
      exact ⟨_, rfl, ApSg.nil _ _ _ none 0 (Nat.zero_le _) (fun _ => rfl), HB.out⟩
    · have HD := hidH hd
      obtain ⟨d, rfl⟩ : ∃ d : Nat, n = (d : Int) := ⟨n.toNat, by unfold degOk at hd; have := of_decide_eq_true hd; omega⟩
      clear hd
      have HPB := hidH (planByW_any w.heap.size (w.heap.size + 1) a0 cap0 zs d w2 _ _ HV2.out e1 e2 HS.out HD.out)
      go_wp2_with fail
      refine (degValid_any (d : Int) _).mono ?_; rintro e w3 ⟨rfl, rfl⟩
      rw [HD.out]
      go_wp2_with fail
      refine HPB.out.mono ?_; rintro e w4 ⟨v4, rfl, hr, hb⟩
      have HR4 := hidH (hr.mono (by have := HB.out.size; exact this) (Nat.le_refl _))
      have HB4 := hidH (bThen HB.out hb)
      clear hb hr
      go_wp2_with fail
      go_ret2
      rw [HG3.out HS.out HD.out, HD.out, Int.toNat_natCast]
      exact ⟨v4, rfl, HR4.out, HB4.out⟩
end Go.Proofs.Ytpkieconbfgbdaa
