/-
  FormatSigned and ParseSigned of the program and of the model: the decimal text of what a column stands for, and the column of a decimal text. Conditions: the library's table of powers of ten and its two errors are as its own text lays them; texts of at most 1048576 bytes.
-/
import Derived.Test.YtmjahklcliocjaaDoorStrNum
import Derived.Test.YtmjahklcliocjaaDoorStrA
import Derived.Test.YtmjahklcliocjaaDoorStrBw
import Derived.Test.YtmjahklcliocjaaDoorSigned
import Derived.Deep.RegionWith
namespace Go.Proofs.YtmjahklcliocjaaDoor
set_option maxRecDepth 4000
open Go.RowKit
theorem sgn_bd (s : ByteArray) (h : ok s = true) : -1000000000000 ≤ sgnS s ∧ sgnS s ≤ 1000000000000 := by
  have ⟨v0, v1, l1, l2, t⟩ := valS_bd s h
  unfold sgnS
  split <;> omega
/-- The text of what a column stands for. -/
def fsB (s : ByteArray) : ByteArray := if ok s then decB (sgnS s) else ⟨#[]⟩
theorem formatSigned_any (s : ByteArray) (hs : s.size ≤ 9223372036854775807) (w : World) (hT : PowT w) : Calls Tryd.prog 13 #[.string s] w (Gives (.string (fsB s)) w) := by
  have HT := hidH hT
  clear hT
  unfold fsB
  by_cases h : ok s = true
  · rw [if_pos h]
    have ⟨b0, b1⟩ := sgn_bd s h
    have HV := hidH (signed_yes s hs w h)
    clear h
    generalize sgnS s = n at *
    go_enter Tryd.func13, Tryd.ntmps13
    go_wp2_with fail
    refine HV.out.mono ?_; rintro e w1 ⟨rfl, hb⟩
    have HB := hidH hb
    have T1 := hidH (HT.out.below hb)
    clear hb
    go_wp2_with fail
    refine (itoa_any n (by omega) (by omega) _ T1.out).mono ?_; rintro e w2 ⟨rfl, hb⟩
    have HB2 := hidH (HB.out.trans (hb.mono HB.out.size))
    clear hb
    go_wp2
    go_ret
    exact ⟨rfl, HB2.out⟩
  · rw [if_neg h]
    have HV := hidH (signed_no s hs w (by simpa using h))
    clear h
    go_enter Tryd.func13, Tryd.ntmps13
    go_wp2_with fail
    refine HV.out.mono ?_; rintro e w1 ⟨rfl, hb⟩
    have HB := hidH hb
    clear hb
    go_wp2
    go_ret
    exact ⟨rfl, HB.out⟩
theorem sFormatSigned_any (s : ByteArray) (hs : s.size ≤ 9223372036854775807) (w : World) : Calls Tryd.prog 14 #[.string s] w (Gives (.string (fsB s)) w) := by
  unfold fsB
  by_cases h : ok s = true
  · rw [if_pos h]
    have ⟨b0, b1⟩ := sgn_bd s h
    have HV := hidH (sValid_yes s hs w h)
    have HU := hidH (l1Signed_any s w h)
    have HD := hidH (l9Dec_any (sgnS s) (by omega) (by omega) w)
    clear h
    generalize sgnS s = n at *
    go_enter Tryd.func14, Tryd.ntmps14
    go_wp2_with fail
    refine HV.out.mono ?_; rintro e w1 ⟨rfl, rfl⟩
    go_wp2_with fail
    refine HU.out.mono ?_; rintro e w2 ⟨rfl, rfl⟩
    go_wp2_with fail
    refine HD.out.mono ?_; rintro e w3 ⟨rfl, hb⟩
    have HB := hidH hb
    clear hb
    go_wp2
    go_ret
    exact ⟨rfl, HB.out⟩
  · rw [if_neg h]
    have HV := hidH (sValid_no s hs w (by simpa using h))
    clear h
    go_enter Tryd.func14, Tryd.ntmps14
    go_wp2_with fail
    refine HV.out.mono ?_; rintro e w1 ⟨rfl, rfl⟩
    go_wp2
    go_ret
    exact ⟨rfl, Below.refl _ _⟩
theorem text_ne (a b : ByteArray) (h : ¬ a = b) : (a.toList == b.toList) = false := by
  rw [Lib.toList_data, Lib.toList_data, beq_eq_false_iff_ne]
  intro e
  exact h (ByteArray.ext (Array.ext' e))
theorem colA_form (n wi : Int) : ∃ (c : ByteArray) (b : Bool), colA n wi = .tuple #[.string c, .bool b] := by
  unfold colA
  split
  · exact ⟨_, _, rfl⟩
  · exact ⟨_, _, rfl⟩
theorem colA_big (n wi : Int) (h : n ≤ -100000000000000000 ∨ 100000000000000000 ≤ n) : colA n wi = .tuple #[.string ⟨#[]⟩, .bool false] := by
  unfold colA
  rw [if_neg]
  intro hx
  rw [Bool.and_eq_true, decide_eq_true_eq] at hx
  have ht := tenP_12 wi.toNat (by omega)
  have hf := hx.2
  unfold fits at hf
  simp only [Bool.and_eq_true, decide_eq_true_eq] at hf
  omega
/-- The column of a text. -/
def psA (s : ByteArray) (wi : Int) : Value := match numL s.data.toList with
  | some n => colA n wi
  | none => .tuple #[.string ⟨#[]⟩, .bool false]
theorem sParseSigned_any (s : ByteArray) (hs : s.size ≤ 9223372036854775807) (wi : Int) (w : World) : Calls Tryd.prog 15 #[.string s, .int .i64 wi] w (Gives (psA s wi) w) := by
  have HN := hidH (l9Num_any s hs w)
  unfold numA at HN
  unfold psA
  cases hn : numL s.data.toList with
  | none =>
    rw [hn] at HN
    clear hn
    go_enter Tryd.func15, Tryd.ntmps15
    go_wp2_with fail
    refine HN.out.mono ?_; rintro e w1 ⟨rfl, rfl⟩
    go_wp2
    go_ret2
    exact ⟨rfl, Below.refl _ _⟩
  | some n =>
    rw [hn] at HN
    have HC := hidH (sCol_any n wi w)
    clear hn
    obtain ⟨c, b, hc⟩ := colA_form n wi
    rw [hc] at HC
    show Calls _ _ _ _ (Gives (colA n wi) w)
    rw [hc]
    clear hc
    go_enter Tryd.func15, Tryd.ntmps15
    go_wp2_with fail
    refine HN.out.mono ?_; rintro e w1 ⟨rfl, rfl⟩
    go_wp2_with fail
    refine HC.out.mono ?_; rintro e w1 ⟨rfl, hb⟩
    have HB := hidH hb
    clear hb
    go_wp2
    go_ret2
    exact ⟨rfl, HB.out⟩
theorem parseSigned_any (s : ByteArray) (hs : s.size ≤ 1048576) (wi : Int) (w : World) (hT : PowT w) (hE : ErrT w) : Calls Tryd.prog 12 #[.string s, .int .i64 wi] w (Gives (psA s wi) w) := by
  have HT := hidH hT
  have HE := hidH hE
  clear hT hE
  by_cases hv : ∃ v, Lib.atoiAll s.data.toList = .ok v
  · obtain ⟨v, hv⟩ := hv
    have ⟨b0, b1⟩ := Lib.atoiAll_bounds hv
    have HA := hidH (atoi_yes s (by omega) v hv w)
    by_cases hd : decB v = s
    · have hl : Lib.itoa v = s.data.toList := by rw [← hd]; simp [decB]
      have e : psA s wi = colA v wi := by
        unfold psA
        by_cases hb : -100000000000000000 < v ∧ v < 100000000000000000
        · rw [← hl, numL_itoa v hb.1 hb.2]
        · rw [colA_big v wi (by omega)]
          cases hn : numL s.data.toList with
          | none => rfl
          | some n =>
            have ⟨h1, h2, h3⟩ := numL_some _ _ hn
            have h4 := atoi_itoa n (by omega) (by omega)
            rw [h1, hv] at h4
            injection h4 with h4
            omega
      have HC := hidH fun w => col_any v wi w
      obtain ⟨c, b, hc⟩ := colA_form v wi
      rw [e, hc]
      have HC2 := hidH (fun w => hc ▸ HC.out w)
      clear e hc HC hl hv
      go_enter Tryd.func12, Tryd.ntmps12
      go_wp2_with fail
      refine HA.out.mono ?_; rintro e w1 ⟨rfl, hb⟩
      have HB := hidH hb
      have T1 := hidH (HT.out.below hb)
      have HI := hidH (fun W hb => itoa_any v (by omega) (by omega) W (HT.out.below hb))
      rw [hd] at HI
      clear hb hd HT T1
      go_wp2_with fail
      refine (HI.out _ HB.out).mono ?_; rintro e w2 ⟨rfl, hb⟩
      have HB2 := hidH (HB.out.trans (hb.mono HB.out.size))
      clear hb
      go_wp2_with fail
      refine (HC2.out _).mono ?_; rintro e w3 ⟨rfl, hb⟩
      have HB3 := hidH (HB2.out.trans (hb.mono HB2.out.size))
      clear hb
      go_wp2
      go_ret2
      exact ⟨rfl, HB3.out⟩
    · have e : psA s wi = .tuple #[.string ⟨#[]⟩, .bool false] := by
        unfold psA
        cases hn : numL s.data.toList with
        | none => rfl
        | some n =>
          have ⟨h1, h2, h3⟩ := numL_some _ _ hn
          have h4 := atoi_itoa n (by omega) (by omega)
          rw [h1, hv] at h4
          injection h4 with h4
          subst h4
          exact absurd (by unfold decB; rw [h1]) hd
      rw [e]
      have HI := hidH (fun W hb => itoa_any v (by omega) (by omega) W (HT.out.below hb))
      have b2 := text_ne _ _ hd
      clear e hv HT hd
      generalize decB v = t at *
      go_enter Tryd.func12, Tryd.ntmps12
      go_wp2_with fail
      refine HA.out.mono ?_; rintro e w1 ⟨rfl, hb⟩
      have HB := hidH hb
      clear hb
      go_wp2_with fail
      refine (HI.out _ HB.out).mono ?_; rintro e w2 ⟨rfl, hb⟩
      have HB2 := hidH (HB.out.trans (hb.mono HB.out.size))
      clear hb
      go_wp2_with fail
      go_ret2
      exact ⟨rfl, HB2.out⟩
  · have HA := hidH (atoi_no s (by omega) (fun v h => hv ⟨v, h⟩) w HE.out)
    have e : psA s wi = .tuple #[.string ⟨#[]⟩, .bool false] := by
      unfold psA
      cases hn : numL s.data.toList with
      | none => rfl
      | some n =>
        have ⟨h1, h2, h3⟩ := numL_some _ _ hn
        exact absurd ⟨n, by rw [← h1]; exact atoi_itoa n (by omega) (by omega)⟩ hv
    rw [e]
    clear e hv
    go_enter Tryd.func12, Tryd.ntmps12
    go_wp2_with fail
    refine HA.out.mono ?_; rintro e w1 ⟨x, T, p, rfl, hb⟩
    have HB := hidH hb
    clear hb
    go_wp2
    go_ret2
    exact ⟨rfl, HB.out⟩
end Go.Proofs.YtmjahklcliocjaaDoor
