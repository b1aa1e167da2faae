/-
  The walk of a law: the printed table is the right one and the effect of the slip that is found. No conditions but that the bytes that came in can be read.
-/
import Derived.Test.YtojpnlipfbahdaaErrKc
import Derived.Test.YtojpnlipfbahdaaErrE3
import Derived.Test.YtojpnlipfbahdaaErrLf
namespace Go.Proofs.Ytojpnlipfbahdaa
set_option maxRecDepth 4000
open Go.RowKit
/-- What a slip that is found tells. -/
theorem diag_facts {zs ys : List Int} {k : Nat} (h : diagO zs ys = some k) : tableOk zs = true ∧ tableOk ys = true ∧ zs.length = ys.length ∧ ∃ (t : Nat) (a : Int), (fnz (wrongL zs ys) : Int) - k = t ∧ (wrongL zs ys).getD (fnz (wrongL zs ys)) 0 = a ∧ k ≤ 6 ∧ t ≤ 59 ∧ zs.length ≤ 60 ∧ -100000 ≤ a ∧ a ≤ 100000 ∧ a ≠ 0 ∧
    (∀ n z y, zs[n]? = some z → ys[n]? = some y → y = z + effN k t a n) := by
  unfold diagO at h
  split at h
  · rename_i hc
    simp only [Bool.and_eq_true] at hc
    obtain ⟨ht, hf, ha⟩ := hc
    have ht' := ht
    simp only [tabsOk, Bool.and_eq_true, decide_eq_true_eq] at ht'
    obtain ⟨h0, h1, hl⟩ := ht'
    have hf := of_decide_eq_true hf
    have ⟨a1, a2⟩ := of_decide_eq_true ha
    have ⟨_, hn⟩ := tableOk_len _ h0
    have ⟨k0, k1, hs⟩ := seekC_some _ _ _ _ _ h
    have hnz := (show ∀ (l : List Int), fnz l < l.length → l.getD (fnz l) 0 ≠ 0 from fun l => by
      induction l with
      | nil => intro h; simp at h
      | cons x l ih =>
        intro h
        rw [fnz] at h ⊢
        split
        · rename_i hx; rw [if_pos hx] at h; simpa using ih (by simpa using h)
        · rename_i hx; simpa using hx) (wrongL zs ys) (by rw [wrongL_length]; exact hf)
    unfold sameC at hs
    rw [decide_eq_true_eq, wrongL_length] at hs
    refine ⟨h0, h1, hl, fnz (wrongL zs ys) - k, _, by omega, rfl, by omega, by omega, hn, a1, a2, hnz, fun n z y hz hy => ?_⟩
    have hi := (List.getElem?_eq_some_iff.1 hz).1
    have := hs n hi
    rw [wrongL_getD zs ys n z y hz hy] at this
    omega
  · cases h
set_option maxHeartbeats 2000000 in
theorem lawDiagnoseTrue (a : Option Addr) (len cap : Nat) (w : World) (hc : Came w a len cap) : Calls Try.prog 4 #[.slice a len cap] w (Gives (.bool true) w) := by
  have hcap := hc.lenLe
  have hcap2 := hc.capLe
  unfold maxLen at hcap2
  by_cases hbig : 1048576 < len
  · clear hc
    go_enter Try.func4, Try.ntmps4
    go_wp2
    go_ret
    exact ⟨rfl, Below.refl _ _⟩
  · have HD := hidH (drawDiagnoseSlip a len cap w hc (by omega))
    clear hc
    go_enter Try.func4, Try.ntmps4
    go_wp2_with fail
    refine HD.out.mono ?_
    rintro e w1 ⟨v, u, zs, ys, rfl, hv, hu, h61, h61', hB⟩
    have V1 := hidH hv
    have U1 := hidH hu
    have B1 := hidH hB
    obtain ⟨av, cv, rfl, hlv, hcv, _, hcellv⟩ := hv
    obtain ⟨au, cu, rfl, hlu, hcu, _, hcellu⟩ := hu
    have HCV := hidH hcellv
    have HCU := hidH hcellu
    unfold maxLen at hcv hcu
    clear hB HD hcellv hcellu
    go_wp2_with fail
    refine (diag_any _ zs _ ys _ _ _ _ _ V1.out U1.out).mono ?_; rintro e w2 ⟨rfl, hb⟩
    have B2 := hidH (B1.out.trans (hb.mono B1.out.size))
    have V2 := hidH (V1.out.below hb)
    have U2 := hidH (U1.out.below hb)
    have C2 := hidH hb
    clear hb V1 U1
    go_wp2_with fail
    refine (sDiag_any _ zs _ ys _ _ _ _ _ V2.out U2.out).mono ?_; rintro e w3 ⟨rfl, hb⟩
    have B3 := hidH (B2.out.trans (hb.mono B2.out.size))
    have C3 := hidH (C2.out.trans (hb.mono C2.out.size))
    clear hb V2 U2 C2
    cases hd : diagO zs ys with
    | none =>
      obtain ⟨e1, e2, e3, e4⟩ := diag_none hd
      rw [e1, e2, e3, e4]
      clear hd e1 e2 e3 e4
      go_wp2_with fail
      go_ret
      exact ⟨rfl, B3.out⟩
    | some k =>
      obtain ⟨e1, e2, e3, e4⟩ := diag_some hd
      obtain ⟨t0, t1, hl, t, m, ht, hm, k6, t59, hn, m1, m2, m0, hall⟩ := diag_facts hd
      rw [ht] at e2
      rw [hm] at e3
      rw [e1, e2, e3, e4]
      have hok : effOk (k : Int) (t : Int) m (zs.length : Int) = true := effOk_of (by omega) (by omega) (by omega) (by omega) ⟨m1, m2⟩ (by omega) (by omega)
      have hE : effA (k : Int) (t : Int) m (zs.length : Int) = effL k t m zs.length := by rw [effA, hok, if_pos rfl, Int.toNat_natCast, Int.toNat_natCast, Int.toNat_natCast]
      have HI := hidH (slipE_any (k : Int) (t : Int) m (zs.length : Int) w3)
      rw [hE, hok] at HI
      have HALL := hidH hall
      have HL := hidH hl
      have HEL := hidH (effL_length k t m zs.length)
      have hmb : (m != 0) = true := bne_iff_ne.2 m0
      have hmb2 : (m == 0) = false := beq_eq_false_iff_ne.2 m0
      clear hd e1 e2 e3 e4 hok hE hall hl ht hm m0
      have HT0 := hidH t0
      have HT1 := hidH t1
      clear t0 t1
      go_wp2_with fail
      refine HI.out.mono ?_; rintro e w4 ⟨s, rfl, hr, hb⟩
      have B4 := hidH (B3.out.trans (hb.mono B3.out.size))
      have C4 := hidH (C3.out.trans (hb.mono C3.out.size))
      obtain ⟨asx, cs, rfl, hls, hcs, _, hcells⟩ := hr.lies
      have HCS := hidH hcells
      unfold maxLen at hcs
      clear hb hr HI hcells
      rw [HEL.out] at hls ⊢
      go_wp2_with fail
      go_loopw [15] (fun i wr => ∃ j q : Nat, j ≤ zs.length ∧ i = .int .i64 j ∧ wr = w4.drewN q) (fun i _ => zs.length - (intOf i).toNat)
      case atStart => exact ⟨0, 0, Nat.zero_le _, rfl, rfl⟩
      case round =>
        obtain ⟨j, q, hj, rfl, rfl⟩ := hrel
        by_cases hlt : j < zs.length
        · have hly : j < ys.length := by rw [← HL.out]; exact hlt
          obtain ⟨z, hz⟩ := get_lt zs j hlt
          obtain ⟨y, hy⟩ := get_lt ys j hly
          obtain ⟨bz, oz, rfl, _, hbz, hcz⟩ := HCV.out j z hz
          obtain ⟨by', oy, rfl, _, hby, hcy⟩ := HCU.out j y hy
          obtain ⟨bs, osx, rfl, _, hbs, hcs'⟩ := HCS.out j _ (effL_get k t m zs.length j hlt)
          have h1 : w4.cell? ⟨bz, oz + j, none⟩ = some (.int .i64 z) := by rw [C4.out.cell (p := ⟨bz, oz + j, none⟩) hbz]; exact hcz
          have h2 : w4.cell? ⟨by', oy + j, none⟩ = some (.int .i64 y) := by rw [C4.out.cell (p := ⟨by', oy + j, none⟩) hby]; exact hcy
          have hyz := HALL.out j z y hz hy
          have ⟨y1, y2⟩ := tab_bd HT1.out hy
          have HX : wrap64 (z + effN k t m j) = y ∧ IntKind.i64.wrap (z + effN k t m j) = y := by
            rw [← hyz]
            exact ⟨wrap64_id _ (by omega) (by omega), IntWalk.i64_in _ (by omega)⟩
          obtain ⟨hx1, hx2⟩ := HX
          generalize effN k t m j = x at *
          clear hz hy hcz hcy hyz
          go_wp2_with fail
          go_quiet (fail)
          go_wp2_with fail
          go_roundw
          case rel => exact ⟨j + 1, _, by omega, by go_num, by first | rfl | exact drewN_add _ _ _⟩
          case measure => simp [intOf]; omega
        · obtain rfl : j = zs.length := by omega
          go_wp2_with fail
          go_ret
          exact ⟨rfl, below_drewN B4.out q⟩
end Go.Proofs.Ytojpnlipfbahdaa
