/-
  FormatEngine: the program and the model, at every list of texts. Condition: texts that fit in memory.
-/
import Derived.Test.YtffmhcahiabicaaDoorEngTm
import Derived.Test.YtffmhcahiabicaaDoorEngA
import Derived.Test.YtffmhcahiabicaaDoorStrA
namespace Go.Proofs.YtffmhcahiabicaaDoor
set_option maxRecDepth 4000
set_option linter.unusedVariables false
open Go.RowKit
set_option maxHeartbeats 1000000 in
theorem sFormatEngine_any (v : Value) (cs : List ByteArray) (w : World) (lo hi : Nat) (hv : LiesS w lo hi v cs) (hm : ∀ c ∈ cs, c.size ≤ 9223372036854775807) : Calls Tryd.prog 17 #[.agg #[v]] w (Gives (.string (feB cs)) w) := by
  cases hk : engOk cs
  · have HV := hidH (fun W (h : LiesS W lo hi v cs) => sEngValid_is false v cs hk W lo hi h hm)
    have HX := hidH (feB_no cs hk)
    have HL := hidH hv
    have SZ := hidH (eng_size v)
    have BB := hidH (bMore (Below.refl w.heap.size w) (.cells #[v] 26))
    have E1 := hidH (EngAt.fresh w v)
    obtain ⟨a, cap, rfl⟩ := hv.some
    clear hv hm hk
    go_enter Tryd.func17, Tryd.ntmps17
    go_wp2_with (refine wpList_load_row rfl 26 _ rfl w.heap.size rfl 26 _ (0, 0) _ E1.out Tryd.underlying26 rfl SZ.out ?_)
    refine (HV.out _ (HL.out.below BB.out)).mono ?_; rintro e w1 ⟨rfl, hb⟩
    have HB := hidH (bThen BB.out hb)
    clear hb
    go_wp2
    go_ret
    rw [HX.out]
    exact ⟨rfl, HB.out⟩
  · have HV := hidH (fun W (h : LiesS W lo hi v cs) => sEngValid_is true v cs hk W lo hi h hm)
    have HX := hidH (feB_yes cs hk)
    have HL := hidH hv
    have SZ := hidH (eng_size v)
    have BB := hidH (bMore (Below.refl w.heap.size w) (.cells #[v] 26))
    have E1 := hidH (EngAt.fresh w v)
    obtain ⟨h1, h7, n0, _, hn12, hall⟩ := engOk_parts cs hk
    have HSM := hidH (fun k => engT_len (cs.take k) 12 (fun c hc => by have := (hall c (List.mem_of_mem_take hc)).2; omega))
    have HSZ := hidH (fun c (hc : c ∈ cs) => show c.size ≤ 12 by have := (hall c hc).2; omega)
    have HTK := hidH (fun k x (h : cs[k]? = some x) => engT_take cs k x h)
    obtain ⟨b, off, cap, rfl, hlc, hcm, hlo, hhi, hbw, hcell⟩ := hv.addr (by omega)
    have HC := hidH hcell
    unfold maxLen at hcm
    clear hv hm hk hcell hall
    go_enter Tryd.func17, Tryd.ntmps17
    go_wp2_with (refine wpList_load_row rfl 26 _ rfl w.heap.size rfl 26 _ (0, 0) _ E1.out Tryd.underlying26 rfl SZ.out ?_)
    refine (HV.out _ (HL.out.below BB.out)).mono ?_; rintro e w1 ⟨rfl, hb⟩
    have F1 := hidH (E1.out.below hb)
    have HB := hidH (bThen BB.out hb)
    clear hb
    go_wp2
    go_loopw [3, 4] (fun o i wr => ∃ k : Nat, k ≤ cs.length ∧ i = .int .i64 k ∧ o = .string ⟨(engT (cs.take k)).toArray⟩ ∧ Below w1.heap.size w1 wr) (fun _ i _ => cs.length - (intOf i).toNat)
    case atStart => exact ⟨0, Nat.zero_le _, rfl, rfl, Below.refl _ _⟩
    case round =>
      obtain ⟨k, hk, rfl, rfl, hb⟩ := hrel
      have HR := hidH hb
      have HBR := hidH (bThen HB.out hb)
      have cA := (F1.out.below hb).cell
      clear hb
      by_cases hlt : k < cs.length
      · obtain ⟨x, hx⟩ := get_lt cs k hlt
        have hcw : wr.cell? ⟨b, off + k, none⟩ = some (.string x) := by rw [HBR.out.cell (p := ⟨b, off + k, none⟩) hbw]; exact HC.out k x hx
        have HE := hidH (HTK.out k x hx)
        have hl : (engT (cs.take k)).length ≤ 91 := by
          have := HSM.out k
          rw [List.length_take] at this
          omega
        have hl2 := HSZ.out x (List.mem_of_getElem? hx)
        clear hx
        by_cases h0 : 0 < k
        · rw [if_pos h0] at HE
          generalize engT (cs.take k) = t at *
          go_wp2
          go_roundw
          case rel =>
            refine ⟨k + 1, by omega, by go_num, ?_, HR.out⟩
            rw [HE.out, bytes_append, bytes_append]
            simp
          case measure => simp [intOf]; omega
        · rw [if_neg h0] at HE
          generalize engT (cs.take k) = t at *
          go_wp2
          go_roundw
          case rel =>
            refine ⟨k + 1, by omega, by go_num, ?_, HR.out⟩
            rw [HE.out, bytes_append]
            simp
          case measure => simp [intOf]; omega
      · obtain rfl : k = cs.length := by omega
        go_wp2
        go_ret
        rw [HX.out, List.take_length]
        exact ⟨rfl, HBR.out⟩
theorem formatEngine_any (v : Value) (cs : List ByteArray) (w : World) (lo hi : Nat) (hv : LiesS w lo hi v cs) (hm : ∀ c ∈ cs, c.size ≤ 9223372036854775807) : Calls Tryd.prog 18 #[.agg #[v]] w (Gives (.string (feB cs)) w) := by
  cases hk : engOk cs
  · have HV := hidH (fun W (h : LiesS W lo hi v cs) => engValid_is false v cs hk W lo hi h hm)
    have HX := hidH (feB_no cs hk)
    have HL := hidH hv
    have SZ := hidH (eng_size v)
    have BB := hidH (bMore (Below.refl w.heap.size w) (.cells #[v] 26))
    have E1 := hidH (EngAt.fresh w v)
    obtain ⟨a, cap, rfl⟩ := hv.some
    clear hv hm hk
    go_enter Tryd.func18, Tryd.ntmps18
    go_wp2_with (refine wpList_load_row rfl 26 _ rfl w.heap.size rfl 26 _ (0, 0) _ E1.out Tryd.underlying26 rfl SZ.out ?_)
    refine (HV.out _ (HL.out.below BB.out)).mono ?_; rintro e w1 ⟨rfl, hb⟩
    have HB := hidH (bThen BB.out hb)
    clear hb
    go_wp2
    go_ret
    rw [HX.out]
    exact ⟨rfl, HB.out⟩
  · have HV := hidH (fun W (h : LiesS W lo hi v cs) => engValid_is true v cs hk W lo hi h hm)
    have HX := hidH (feB_yes cs hk)
    have HL := hidH hv
    have SZ := hidH (eng_size v)
    have BB := hidH (bMore (Below.refl w.heap.size w) (.cells #[v] 26))
    have E1 := hidH (EngAt.fresh w v)
    have hsm := engT_small cs hk
    have h7 := (engOk_parts cs hk).2.1
    have HJ := hidH (fun W (h : LiesS W lo hi v cs) => join_any cs ⟨#[32]⟩ v W lo hi h (by show (engT cs).length ≤ _; omega) (by omega))
    rw [engT_join] at HJ
    obtain ⟨a, cap, rfl⟩ := hv.some
    clear hv hm hk hsm
    go_enter Tryd.func18, Tryd.ntmps18
    go_wp2_with (refine wpList_load_row rfl 26 _ rfl w.heap.size rfl 26 _ (0, 0) _ E1.out Tryd.underlying26 rfl SZ.out ?_)
    refine (HV.out _ (HL.out.below BB.out)).mono ?_; rintro e w1 ⟨rfl, hb⟩
    have F1 := hidH (E1.out.below hb)
    have HB := hidH (bThen BB.out hb)
    clear hb
    have cA := F1.out.cell
    go_wp2_with fail
    refine (HJ.out _ (HL.out.below HB.out)).mono ?_; rintro e w2 ⟨rfl, hb⟩
    have HB2 := hidH (bThen HB.out hb)
    clear hb
    go_wp2
    go_ret
    rw [HX.out]
    exact ⟨rfl, HB2.out⟩
end Go.Proofs.YtffmhcahiabicaaDoor
