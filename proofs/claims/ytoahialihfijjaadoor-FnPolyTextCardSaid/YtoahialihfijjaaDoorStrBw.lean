/-
  The walk of the model's reading of a decimal text. Condition: a text of at most 2 to the power of 63, minus 1, bytes.
-/
import Derived.Test.YtoahialihfijjaaDoorStrB
namespace Go.Proofs.YtoahialihfijjaaDoor
set_option maxRecDepth 4000
open Go.RowKit
set_option linter.unusedSimpArgs false
set_option maxRecDepth 4000 in
set_option maxHeartbeats 2000000 in
theorem l9Num_any (s : ByteArray) (hs : s.size ≤ 9223372036854775807) (w : World) : Calls Tryd.prog 31 #[.string s] w fun e w' => e = .returned (numA s) ∧ w = w' := by
  by_cases hz : s.size = 0
  · rw [numA_empty s hz]
    go_enter Tryd.func31, Tryd.ntmps31
    go_wp2
    go_ret2
    exact ⟨rfl, rfl⟩
  have hpos : 0 < s.size := by omega
  by_cases hm : (s[0].toNat : Int) = 45
  · have hv := numA_neg s hpos hm
    have hrs : (s.extract 1 s.size).size = s.size - 1 := by rw [ByteArray.size_extract]; omega
    have HV := hidH hv
    clear hv
    by_cases g0 : (s.extract 1 s.size).size = 0
    · have e := HV.out
      rw [numV, canL_size0 _ _ (by rw [size_lenB]; exact g0), if_neg (by decide)] at e
      rw [e]
      clear e HV
      go_enter Tryd.func31, Tryd.ntmps31
      go_wp2
      all_goals go_ret2
      all_goals exact ⟨rfl, rfl⟩
    by_cases g17 : 17 < (s.extract 1 s.size).size
    · have e := HV.out
      rw [numV, canL_long _ _ (by rw [size_lenB]; exact g17), if_neg (by decide)] at e
      rw [e]
      clear e HV
      go_enter Tryd.func31, Tryd.ntmps31
      go_wp2
      all_goals go_ret2
      all_goals exact ⟨rfl, rfl⟩
    have hr0 : 0 < (s.extract 1 s.size).size := by omega
    obtain ⟨t, ht, htl⟩ := head_eqB (s.extract 1 s.size) hr0
    have HT := hidH ht
    clear ht
    by_cases gz : ((s.extract 1 s.size)[0].toNat : Int) = 48
    · have e := HV.out
      rw [numV, HT.out, canL_zero _ _ _ (by omega) (Or.inl rfl), if_neg (by decide)] at e
      rw [e]
      clear e HV
      go_enter Tryd.func31, Tryd.ntmps31
      go_wp2
      all_goals go_ret2
      all_goals exact ⟨rfl, rfl⟩
    · go_enter Tryd.func31, Tryd.ntmps31
      go_wp2
      · rename_i hx
        exfalso
        simp only [Bool.or_eq_true, Bool.and_eq_true, decide_eq_true_eq, beq_iff_eq] at hx
        omega
      generalize s.extract 1 s.size = r at *
      go_loop [5, 6] (fun m i => ∃ k : Nat, k ≤ r.size ∧ i = .int .i64 k ∧ m = .int .i64 (spell 0 (r.data.toList.take k) : Nat) ∧ (r.data.toList.take k).all dgt = true) (fun _ i => r.size - (intOf i).toNat)
      case atStart => exact ⟨0, Nat.zero_le _, rfl, by simp [spell_nil], rfl⟩
      case round =>
        obtain ⟨k, hk, rfl, rfl, hall⟩ := hrel
        have hlen : (r.data.toList.take k).length = k := by rw [List.length_take, size_lenB]; omega
        by_cases hlt : k < r.size
        · have h16 := spell_16 _ hall (by omega)
          have HTk := hidH (take_moreB r k hlt)
          have HA := hidH hall
          clear hall hlen
          by_cases c1 : (r[k].toNat : Int) < 48
          · have e := HV.out
            rw [numV, canL_bad, if_neg (by decide)] at e
            · have HE := hidH e
              clear e HV HTk HA
              go_wp2
              go_ret2
              exact ⟨by rw [HE.out]; rfl, rfl⟩
            · refine Bool.eq_false_iff.2 fun hx => ?_
              have := (dgt_iff r[k]).1 (List.all_eq_true.1 hx _ (List.mem_of_getElem? (get_atB r k hlt)))
              omega
          by_cases c2 : 57 < (r[k].toNat : Int)
          · have e := HV.out
            rw [numV, canL_bad, if_neg (by decide)] at e
            · have HE := hidH e
              clear e HV HTk HA
              go_wp2
              go_ret2
              exact ⟨by rw [HE.out]; rfl, rfl⟩
            · refine Bool.eq_false_iff.2 fun hx => ?_
              have := (dgt_iff r[k]).1 (List.all_eq_true.1 hx _ (List.mem_of_getElem? (get_atB r k hlt)))
              omega
          go_wp2
          go_round
          case rel =>
            refine ⟨k + 1, by omega, by go_num, ?_, ?_⟩
            · rw [HTk.out, spell_append, spell_one]
              go_num
            · rw [HTk.out, List.all_append, HA.out, List.all_cons, List.all_nil, Bool.and_true, Bool.true_and, dgt_iff]
              omega
          case measure => simp [intOf]; omega
        · obtain rfl : k = r.size := by omega
          have ht2 : r.data.toList.take r.size = r.data.toList := List.take_of_length_le (by rw [size_lenB]; exact Nat.le_refl _)
          rw [ht2] at hall
          have h17 := spell_17 _ hall 17 (by omega) (by rw [size_lenB]; omega)
          have e := HV.out
          have hz := canL_yes true r[0] t (by rw [← HT.out, size_lenB]; omega) (Or.inl (by omega)) (by rw [← HT.out]; exact hall)
          rw [← HT.out] at hz
          rw [numV, hz, if_pos rfl] at e
          have HE := hidH e
          rw [ht2]
          clear e HV hz ht2 hall HT
          generalize spell 0 r.data.toList = q at *
          go_wp2
          go_ret2
          exact ⟨by rw [HE.out]; rfl, rfl⟩
  · have hv := numA_pos s hpos hm
    have HV := hidH hv
    clear hv
    by_cases g0 : s.size = 0
    · have e := HV.out
      rw [numV, canL_size0 _ _ (by rw [size_lenB]; exact g0), if_neg (by decide)] at e
      rw [e]
      clear e HV
      go_enter Tryd.func31, Tryd.ntmps31
      go_wp2
      all_goals go_ret2
      all_goals exact ⟨rfl, rfl⟩
    by_cases g17 : 17 < s.size
    · have e := HV.out
      rw [numV, canL_long _ _ (by rw [size_lenB]; exact g17), if_neg (by decide)] at e
      rw [e]
      clear e HV
      go_enter Tryd.func31, Tryd.ntmps31
      go_wp2
      all_goals go_ret2
      all_goals exact ⟨rfl, rfl⟩
    have hr0 : 0 < s.size := by omega
    obtain ⟨t, ht, htl⟩ := head_eqB s hr0
    have HT := hidH ht
    clear ht
    by_cases gz : (s[0].toNat : Int) = 48
    · by_cases g1 : 1 < s.size
      · have e := HV.out
        rw [numV, HT.out, canL_zero _ _ _ (by omega) (Or.inr (by omega)), if_neg (by decide)] at e
        rw [e]
        clear e HV
        go_enter Tryd.func31, Tryd.ntmps31
        go_wp2
        all_goals go_ret2
        all_goals exact ⟨rfl, rfl⟩
      · go_enter Tryd.func31, Tryd.ntmps31
        go_wp2
        · rename_i hx
          exfalso
          simp only [Bool.or_eq_true, Bool.and_eq_true, decide_eq_true_eq, beq_iff_eq] at hx
          omega
        skip
        go_loop [5, 6] (fun m i => ∃ k : Nat, k ≤ s.size ∧ i = .int .i64 k ∧ m = .int .i64 (spell 0 (s.data.toList.take k) : Nat) ∧ (s.data.toList.take k).all dgt = true) (fun _ i => s.size - (intOf i).toNat)
        case atStart => exact ⟨0, Nat.zero_le _, rfl, by simp [spell_nil], rfl⟩
        case round =>
          obtain ⟨k, hk, rfl, rfl, hall⟩ := hrel
          have hlen : (s.data.toList.take k).length = k := by rw [List.length_take, size_lenB]; omega
          by_cases hlt : k < s.size
          · have h16 := spell_16 _ hall (by omega)
            have HTk := hidH (take_moreB s k hlt)
            have HA := hidH hall
            clear hall hlen
            by_cases c1 : (s[k].toNat : Int) < 48
            · have e := HV.out
              rw [numV, canL_bad, if_neg (by decide)] at e
              · have HE := hidH e
                clear e HV HTk HA
                go_wp2
                go_ret2
                exact ⟨by rw [HE.out]; rfl, rfl⟩
              · refine Bool.eq_false_iff.2 fun hx => ?_
                have := (dgt_iff s[k]).1 (List.all_eq_true.1 hx _ (List.mem_of_getElem? (get_atB s k hlt)))
                omega
            by_cases c2 : 57 < (s[k].toNat : Int)
            · have e := HV.out
              rw [numV, canL_bad, if_neg (by decide)] at e
              · have HE := hidH e
                clear e HV HTk HA
                go_wp2
                go_ret2
                exact ⟨by rw [HE.out]; rfl, rfl⟩
              · refine Bool.eq_false_iff.2 fun hx => ?_
                have := (dgt_iff s[k]).1 (List.all_eq_true.1 hx _ (List.mem_of_getElem? (get_atB s k hlt)))
                omega
            go_wp2
            go_round
            case rel =>
              refine ⟨k + 1, by omega, by go_num, ?_, ?_⟩
              · rw [HTk.out, spell_append, spell_one]
                go_num
              · rw [HTk.out, List.all_append, HA.out, List.all_cons, List.all_nil, Bool.and_true, Bool.true_and, dgt_iff]
                omega
            case measure => simp [intOf]; omega
          · obtain rfl : k = s.size := by omega
            have ht2 : s.data.toList.take s.size = s.data.toList := List.take_of_length_le (by rw [size_lenB]; exact Nat.le_refl _)
            rw [ht2] at hall
            have h17 := spell_17 _ hall 17 (by omega) (by rw [size_lenB]; omega)
            have e := HV.out
            have hz := canL_yes false s[0] t (by rw [← HT.out, size_lenB]; omega) (Or.inr ⟨rfl, List.eq_nil_of_length_eq_zero (by omega)⟩) (by rw [← HT.out]; exact hall)
            rw [← HT.out] at hz
            rw [numV, hz, if_pos rfl] at e
            have HE := hidH e
            rw [ht2]
            clear e HV hz ht2 hall HT
            generalize spell 0 s.data.toList = q at *
            go_wp2
            go_ret2
            exact ⟨by rw [HE.out]; rfl, rfl⟩
    · go_enter Tryd.func31, Tryd.ntmps31
      go_wp2
      · rename_i hx
        exfalso
        simp only [Bool.or_eq_true, Bool.and_eq_true, decide_eq_true_eq, beq_iff_eq] at hx
        omega
      skip
      go_loop [5, 6] (fun m i => ∃ k : Nat, k ≤ s.size ∧ i = .int .i64 k ∧ m = .int .i64 (spell 0 (s.data.toList.take k) : Nat) ∧ (s.data.toList.take k).all dgt = true) (fun _ i => s.size - (intOf i).toNat)
      case atStart => exact ⟨0, Nat.zero_le _, rfl, by simp [spell_nil], rfl⟩
      case round =>
        obtain ⟨k, hk, rfl, rfl, hall⟩ := hrel
        have hlen : (s.data.toList.take k).length = k := by rw [List.length_take, size_lenB]; omega
        by_cases hlt : k < s.size
        · have h16 := spell_16 _ hall (by omega)
          have HTk := hidH (take_moreB s k hlt)
          have HA := hidH hall
          clear hall hlen
          by_cases c1 : (s[k].toNat : Int) < 48
          · have e := HV.out
            rw [numV, canL_bad, if_neg (by decide)] at e
            · have HE := hidH e
              clear e HV HTk HA
              go_wp2
              go_ret2
              exact ⟨by rw [HE.out]; rfl, rfl⟩
            · refine Bool.eq_false_iff.2 fun hx => ?_
              have := (dgt_iff s[k]).1 (List.all_eq_true.1 hx _ (List.mem_of_getElem? (get_atB s k hlt)))
              omega
          by_cases c2 : 57 < (s[k].toNat : Int)
          · have e := HV.out
            rw [numV, canL_bad, if_neg (by decide)] at e
            · have HE := hidH e
              clear e HV HTk HA
              go_wp2
              go_ret2
              exact ⟨by rw [HE.out]; rfl, rfl⟩
            · refine Bool.eq_false_iff.2 fun hx => ?_
              have := (dgt_iff s[k]).1 (List.all_eq_true.1 hx _ (List.mem_of_getElem? (get_atB s k hlt)))
              omega
          go_wp2
          go_round
          case rel =>
            refine ⟨k + 1, by omega, by go_num, ?_, ?_⟩
            · rw [HTk.out, spell_append, spell_one]
              go_num
            · rw [HTk.out, List.all_append, HA.out, List.all_cons, List.all_nil, Bool.and_true, Bool.true_and, dgt_iff]
              omega
          case measure => simp [intOf]; omega
        · obtain rfl : k = s.size := by omega
          have ht2 : s.data.toList.take s.size = s.data.toList := List.take_of_length_le (by rw [size_lenB]; exact Nat.le_refl _)
          rw [ht2] at hall
          have h17 := spell_17 _ hall 17 (by omega) (by rw [size_lenB]; omega)
          have e := HV.out
          have hz := canL_yes false s[0] t (by rw [← HT.out, size_lenB]; omega) (Or.inl (by omega)) (by rw [← HT.out]; exact hall)
          rw [← HT.out] at hz
          rw [numV, hz, if_pos rfl] at e
          have HE := hidH e
          rw [ht2]
          clear e HV hz ht2 hall HT
          generalize spell 0 s.data.toList = q at *
          go_wp2
          go_ret2
          exact ⟨by rw [HE.out]; rfl, rfl⟩
end Go.Proofs.YtoahialihfijjaaDoor
