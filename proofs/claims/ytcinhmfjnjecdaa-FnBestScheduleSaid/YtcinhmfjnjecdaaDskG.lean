/-
  The search of all schedules: all schedules with a given beginning. No conditions.
-/
import Derived.Test.YtcinhmfjnjecdaaDskF
import Derived.Defers
import Derived.StillTailTactics
namespace Go.Proofs.Ytcinhmfjnjecdaa
set_option maxRecDepth 4000
open Go.RowKit
set_option maxHeartbeats 800000 in
theorem book_d (b o : Nat) (L : List Int) (k : Nat) (x t : Int) (u : FrameMode) (w : World) (h : At3 w b o L) (hk : L[k]? = some x) (hx : -100000 ≤ x ∧ x ≤ 100000) (ht : -100000 ≤ t ∧ t ≤ 100000) :
    CallsD Try.prog 33 #[.pointer (some ⟨b, o, none⟩), .int .i64 (k : Int), .int .i64 t] u w fun e u' w' => u' = u ∧ (e = .returned (.tuple #[]) ∧ ∃ q, w' = (w.drewN q).setCell ⟨b, o + k, none⟩ (.int .i64 (x + t))) := by
  have hk3 : k < 3 := by have := (List.getElem?_eq_some_iff.1 hk).1; have := h.len; omega
  have c := h.cell k x hk
  have f := h.free k hk3
  have hs : IntKind.i64.wrap (x + t) = x + t := IntWalk.i64_in _ (by omega)
  have hk3' : (k : Int) < 3 := by omega
  clear hk h hx ht
  go_enter_d Try.func33, Try.ntmps33
  go_wp2_with fail
  go_region
  go_wp2_with fail
  go_end0
  first | exact ⟨rfl, 1, rfl⟩ | exact ⟨rfl, _, rfl⟩
theorem take_prefix (A P : List Int) (x : Int) (h : A.take (P ++ [x]).length = P ++ [x]) : A.take P.length = P := by
  have h2 := congrArg (List.take P.length) h
  rw [List.take_take, List.length_append, Nat.min_eq_left (by simp), List.take_append_of_le_length (Nat.le_refl _), List.take_length] at h2
  exact h2
theorem lies_g {w w' : World} {l g : Nat} {v : Value} {zs : List Int} (H : Lies w l g v zs) (hb : Below g w w') : Lies w' l g v zs := by
  obtain ⟨a, cap, h1, h2, h3, h4, h5⟩ := H
  refine ⟨a, cap, h1, h2, h3, h4, fun j z hj => ?_⟩
  obtain ⟨b, off, e, x, y, hc⟩ := h5 j z hj
  exact ⟨b, off, e, x, y, by rw [World.cell?_of_block (w := w) (hb.block b y)]; exact hc⟩
/-- What a search over the schedules with a given beginning leaves. -/
def Searched (b g : Nat) (v0 : Value) (T : List Int) (m : Nat) (L P : List Int) (s : Int × List Int) (w : World) (e : Ending) (w' : World) : Prop :=
  e = .returned (.tuple #[]) ∧ ∃ G, Srch w' b g v0 T m L G s.1 s.2 ∧ G.take P.length = P ∧ Below g w w'
def GiveFrom (b g : Nat) (v0 : Value) (T : List Int) (m r : Nat) : Prop :=
  ∀ (k : Nat) (L G : List Int) (sp : Int) (bl : List Int) (w : World), Srch w b g v0 T m L G sp bl → Lies w 0 g v0 T → k + r = T.length → L = loadsL (T.take k) (G.take k) 3 →
    Calls Try.prog 39 #[.pointer (some ⟨b, 0, none⟩), .int .i64 (k : Int)] w (Searched b g v0 T m L (G.take k) (searchF T m r (G.take k) (sp, bl)) w)
set_option maxHeartbeats 3200000 in
theorem give_any (b g : Nat) (v0 : Value) (T : List Int) (m r : Nat) (IH : GiveFrom b g v0 T m r) (hm : m ≤ 3) (hT : timesOk T = true) (k e : Nat) (he : e < m) (L G : List Int) (sp : Int) (bl : List Int) (w : World) (h : Srch w b g v0 T m L G sp bl) (hv : Lies w 0 g v0 T) (hk : k + (r + 1) = T.length) (hL : L = loadsL (T.take k) (G.take k) 3) :
    Calls Try.prog 55 #[.pointer (some ⟨b, 0, none⟩), .int .i64 (k : Int), .int .i64 (e : Int)] w (Searched b g v0 T m L (G.take k) (searchF T m r (G.take k ++ [(e : Int)]) (sp, bl)) w) := by
  have H := hidH h
  have HV := hidH hv
  have h8 := (timesOk_parts hT).1
  obtain ⟨t, ht⟩ := get_lt T k (by omega)
  have htb := (timesOk_parts hT).2 k t ht
  have hGl : G.length = T.length := h.len
  obtain ⟨b0, o0, cap0, rfl, hlc, hcm, _, hbg, _, hcell⟩ := hv.addr (by omega)
  unfold maxLen at hcm
  have HC := hidH hcell
  have hLx : L[e]? = some (loadE (T.take k) (G.take k) (e : Int)) := by rw [hL]; exact loadsL_get _ _ 3 e (by omega)
  have ⟨x1, x2⟩ := load_bd (G := G.take k) (e : Int) k hT
  have hTk : (T.take k).length = k := by rw [List.length_take]; omega
  have hGk : (G.take k).length = k := by rw [List.length_take]; omega
  have HPre : Hid ((G.set k (e : Int)).take (k + 1) = G.take k ++ [(e : Int)]) := by
    show (G.set k (e : Int)).take (k + 1) = _
    rw [take_next _ k (e : Int) (by rw [List.getElem?_set, if_pos rfl, if_pos (by omega)]), List.take_set_of_le (Nat.le_refl _)]
  have HL1 : Hid (L.set e (loadE (T.take k) (G.take k) (e : Int) + t) = loadsL (T.take (k + 1)) ((G.set k (e : Int)).take (k + 1)) 3) := by
    show L.set e _ = _
    rw [loadsL_next T (G.set k (e : Int)) k 3 e t ht (by rw [List.getElem?_set, if_pos rfl, if_pos (by omega)]), List.take_set_of_le (Nat.le_refl _), hL]
  have HLb : Hid ((L.set e (loadE (T.take k) (G.take k) (e : Int) + t)).set e (loadE (T.take k) (G.take k) (e : Int) + t + -t) = L) := by
    show (L.set e _).set e _ = L
    rw [List.set_set, show loadE (T.take k) (G.take k) (e : Int) + t + -t = loadE (T.take k) (G.take k) (e : Int) by omega]
    obtain ⟨hh, hx⟩ := List.getElem?_eq_some_iff.1 hLx
    rw [← hx]; exact List.set_getElem_self hh
  have HBK := hidH (fun (W : World) (hA : At3 W b 2 L) => book_any b 2 L e _ t W hA hLx (by omega) (by omega))
  have hLl : L.length = 3 := h.books.len
  have hLx1 : (L.set e (loadE (T.take k) (G.take k) (e : Int) + t))[e]? = some (loadE (T.take k) (G.take k) (e : Int) + t) := by rw [List.getElem?_set, if_pos rfl, if_pos (by omega)]
  have HBD := hidH (fun (u : FrameMode) (W : World) (hA : At3 W b 2 (L.set e (loadE (T.take k) (G.take k) (e : Int) + t))) => book_d b 2 _ e _ (-t) u W hA hLx1 (by omega) (by omega))
  have HIH := hidH IH
  have HKl := hidH (show k + 1 + r = T.length by omega)
  have hkT : k < T.length := by omega
  have hng : IntKind.i64.wrap (-t) = -t := IntWalk.i64_in _ (by omega)
  have hk1 : IntKind.i64.wrap ((k : Int) + 1) = (k : Int) + 1 := IntWalk.i64_in _ (by omega)
  obtain ⟨y, hy⟩ := get_lt G k (by omega)
  have HY := hidH hy
  have hlt := h.lt
  have HGk := hidH hGk
  have HHk := hidH (show 2 + e < 5 by omega)
  have he3 : e < 3 := by omega
  generalize loadE (T.take k) (G.take k) (e : Int) = x at *
  have c0 := H.out.c0
  have ct := HC.out k t ht
  clear h hv hcell IH hLx hLx1 ht hy hL hGk hTk
  go_enter_defers Try.func55, Try.ntmps55
  go_wp2_with fail
  go_still_tail 11, (by kernel_rfl)
  change wpList _ _ _ _ _ w.drew
  have HB1 := hidH (HBK.out _ (H.out.books.drewN 1))
  go_wp2_with fail
  refine (HB1.out).mono ?_; rintro e' wd ⟨rfl, q, rfl⟩
  have H1 := hidH (((H.out.drewN 1).drewN q).book e (x + t) he3)
  have B1 := hidH ((below_drewN (below_drewN (Below.refl g w) 1) q).setCell (p := ⟨b, 2 + e, none⟩) (Nat.le_of_lt hlt) (.int .i64 (x + t)))
  generalize (((w.drewN 1).drewN q).setCell ⟨b, 2 + e, none⟩ (.int .i64 (x + t))) = w1 at *
  have c0' := H1.out.c0
  have ct' : w1.cell? ⟨b0, o0 + k, none⟩ = some (.int .i64 t) := by rw [World.cell?_of_block (w := w) (B1.out.block b0 hbg)]; exact ct
  clear c0 ct HB1
  go_wp2_with fail
  go_still_tail 12, (by kernel_rfl)
  change wpList _ _ _ _ _ w1.drew
  have H2 := hidH (H1.out.drewN 1)
  have B2 := hidH (below_drewN B1.out 1)
  have H3 := hidH (H2.out.give k (e : Int))
  have B3 := hidH (B2.out.setCell (p := ⟨g, k, none⟩) (Nat.le_refl _) (.int .i64 (e : Int)))
  obtain ⟨cg, fg⟩ := H2.out.given.2 k y HY.out
  have c5 := H2.out.c5
  have HIH4 := hidH (HIH.out (k + 1) _ _ sp bl _ H3.out (lies_g HV.out B3.out) HKl.out HL1.out)
  clear c0' ct'
  change wpList _ _ _ _ _ (w1.drewN 1)
  generalize w1.drewN 1 = w2 at *
  go_wp2_with fail
  rw [show ((k : Int) + 1) = ((k + 1 : Nat) : Int) by omega]
  refine HIH4.out.mono ?_; rintro e' w4 ⟨rfl, G4, hS, hp, hb⟩
  rw [HPre.out] at hS hp
  have H4 := hidH hS
  have HP4 := hidH hp
  have B4 := hidH (B3.out.trans hb)
  clear hS hp hb
  go_wp2_with fail
  refine leaves_cons (f := 33) (args := #[.pointer (some ⟨b, 2, none⟩), .int .i64 (e : Int), .int .i64 (-t)]) (by simp) (by simp [go_sem]) ?_
  refine (HBD.out _ _ H4.out.books).mono ?_
  rintro e' u' w'' ⟨rfl, rfl, q4, rfl⟩
  refine ⟨_, results_none rfl _ _ _, rfl, G4, ?_, ?_, ?_⟩
  · have h := (H4.out.drewN q4).book e (x + t + -t) he3
    rw [HLb.out] at h
    exact h
  · exact take_prefix G4 _ _ HP4.out
  · exact (below_drewN B4.out q4).setCell (Nat.le_of_lt hlt) _
theorem take_len (L : List Int) (k : Nat) (h : k ≤ L.length) : (L.take k).length = k := by rw [List.length_take]; omega
set_option maxHeartbeats 1600000 in
theorem giveFrom_any (b g : Nat) (v0 : Value) (T : List Int) (m : Nat) (hm : m ≤ 3) (hT : timesOk T = true) (r : Nat) : GiveFrom b g v0 T m r := by
  induction r with
  | zero =>
    intro k L G sp bl w h hv hk hL
    have H := hidH h
    have h8 := (timesOk_parts hT).1
    have hkT : k = T.length := by omega
    subst hkT
    have HE : Hid (G.take T.length = G) := List.take_of_length_le (by rw [h.len]; exact Nat.le_refl _)
    have hL' : L = loadsL T G 3 := by rw [hL, List.take_length, HE.out]
    have HK := hidH (keep_any b g v0 T m L G sp bl w h hL' hT)
    have c0 := h.c0
    obtain ⟨a0, cap0, rfl, hlc, hcm, _, _⟩ := hv
    unfold maxLen at hcm
    clear h hL hL'
    go_enter Try.func39, Try.ntmps39
    go_wp2_with fail
    refine HK.out.mono ?_; rintro e w1 ⟨rfl, hS, hb⟩
    go_wp2_with fail
    refine bodyPost_ret (results_none rfl _ _ _) rfl ⟨rfl, G, ?_, ?_, hb⟩
    · rw [HE.out]; exact hS
    · rw [HE.out, List.take_of_length_le (Nat.le_refl _)]
  | succ r IH =>
    intro k L G sp bl w h hv hk hL
    have H := hidH h
    have HV := hidH hv
    have HL := hidH hL
    have HIH := hidH IH
    have h8 := (timesOk_parts hT).1
    have c0 := h.c0
    have c1 := h.c1
    have hkT : ((k : Int) == (T.length : Int)) = false := by rw [beq_eq_false_iff_ne]; omega
    have HG := hidH (take_len G k (by rw [h.len]; omega))
    have HK := hidH hk
    obtain ⟨a0, cap0, rfl, hlc, hcm, _, _⟩ := hv
    unfold maxLen at hcm
    clear h hL IH hk
    have HGV := hidH (fun (e : Nat) (he : e < m) (sp1 : Int) (bl1 G1 : List Int) (W : World) (h1 : Srch W b g _ T m L G1 sp1 bl1) (hp : G1.take k = G.take k) (hb : Below g w W) => by
      have := give_any b g _ T m r HIH.out hm hT k e he L G1 sp1 bl1 W h1 (lies_g HV.out hb) HK.out (by rw [hp]; exact HL.out)
      rw [hp] at this
      exact this)
    have HS := hidH (fun e => range_step (fun s (e : Nat) => searchF T m r (G.take k ++ [(e : Int)]) s) (sp, bl) e)
    have HF : Hid ((List.range m).foldl (fun s (e : Nat) => searchF T m r (G.take k ++ [(e : Int)]) s) (sp, bl) = searchF T m (r + 1) (G.take k) (sp, bl)) := rfl
    go_enter Try.func39, Try.ntmps39
    go_wp2_with fail
    go_loopw [18] (fun i wr => ∃ (e : Nat) (G1 : List Int), e ≤ m ∧ i = .int .i64 e ∧ Srch wr b g (.slice a0 T.length cap0) T m L G1 ((List.range e).foldl (fun s (e : Nat) => searchF T m r (G.take k ++ [(e : Int)]) s) (sp, bl)).1 ((List.range e).foldl (fun s (e : Nat) => searchF T m r (G.take k ++ [(e : Int)]) s) (sp, bl)).2 ∧ G1.take k = G.take k ∧ Below g w wr) (fun i _ => m - (intOf i).toNat)
    case atStart => exact ⟨0, G, Nat.zero_le _, rfl, H.out, rfl, Below.refl _ _⟩
    case round =>
      obtain ⟨e, G1, he, rfl, hS, hp, hb⟩ := hrel
      have HSr := hidH hS
      have HP := hidH hp
      have HBq := hidH hb
      clear hS hp hb
      by_cases hlt : e < m
      · have HSe := hidH (HS.out e)
        generalize hs : (List.range e).foldl (fun s (e : Nat) => searchF T m r (G.take k ++ [(e : Int)]) s) (sp, bl) = s at *
        have HC := hidH (HGV.out e hlt s.1 s.2 G1 _ HSr.out HP.out HBq.out)
        go_wp2_with fail
        refine HC.out.mono ?_; rintro e' w4 ⟨rfl, G4, hS, hp, hb⟩
        have H4 := hidH hS
        have HP4 := hidH hp
        have B4 := hidH (HBq.out.trans hb)
        clear hS hp hb
        go_wp2_with fail
        go_roundw
        case rel => exact ⟨e + 1, G4, by omega, by go_num, by rw [HSe.out]; exact H4.out, by have h := HP4.out; rwa [HG.out] at h, B4.out⟩
        case measure => simp [intOf]; omega
      · obtain rfl : e = m := by omega
        go_wp2_with fail
        go_end0
        exact ⟨rfl, G1, by rw [← HF.out]; exact HSr.out, by rw [HG.out]; exact HP.out, HBq.out⟩
end Go.Proofs.Ytcinhmfjnjecdaa
