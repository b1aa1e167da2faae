/-
  ResultOf: the program and the model, at every list of texts. Condition: texts that fit in memory.
-/
import Derived.Test.YtliakbgigkajnaaDoorEngV
import Derived.Test.YtliakbgigkajnaaDoorEngBox
import Derived.Test.YtliakbgigkajnaaDoorNegate
namespace Go.Proofs.YtliakbgigkajnaaDoor
set_option maxRecDepth 4000
set_option linter.unusedVariables false
open Go.RowKit
theorem engValid_is (b : Bool) (v : Value) (cs : List ByteArray) (hk : engOk cs = b) (w : World) (lo hi : Nat) (hv : LiesS w lo hi v cs) (hm : ∀ c ∈ cs, c.size ≤ 9223372036854775807) : Calls Tryd.prog 12 #[.agg #[v]] w (Gives (.bool b) w) := hk ▸ engValid_any v cs w lo hi hv hm
theorem sEngValid_is (b : Bool) (v : Value) (cs : List ByteArray) (hk : engOk cs = b) (w : World) (lo hi : Nat) (hv : LiesS w lo hi v cs) (hm : ∀ c ∈ cs, c.size ≤ 9223372036854775807) : Calls Tryd.prog 10 #[.agg #[v]] w (Gives (.bool b) w) := hk ▸ sEngValid_any v cs w lo hi hv hm
/-- What ResultOf answers. -/
def resA (cs : List ByteArray) : Value := if engOk cs then .tuple #[.int .i64 (sgnS (cs.headD ⟨#[]⟩)), .bool true] else .tuple #[.int .i64 0, .bool false]
theorem resA_yes (cs : List ByteArray) (h : engOk cs = true) : resA cs = .tuple #[.int .i64 (sgnS (cs.headD ⟨#[]⟩)), .bool true] := by rw [resA, h]; rfl
theorem resA_no (cs : List ByteArray) (h : engOk cs = false) : resA cs = .tuple #[.int .i64 0, .bool false] := by rw [resA, h]; rfl
theorem head_ok (cs : List ByteArray) (h : engOk cs = true) : ok (cs.headD ⟨#[]⟩) = true := by
  obtain ⟨h1, _, n, _, _, he⟩ := engOk_parts cs h
  exact (he _ (List.mem_of_getElem? (head_at cs (by omega)))).1
theorem ok_size (c : ByteArray) (h : ok c = true) : c.size ≤ 9223372036854775807 := by
  have := ((ok_iff c).1 h).2.2
  omega
theorem resultOf_any (v : Value) (cs : List ByteArray) (w : World) (lo hi : Nat) (hv : LiesS w lo hi v cs) (hm : ∀ c ∈ cs, c.size ≤ 9223372036854775807) : Calls Tryd.prog 15 #[.agg #[v]] w (Gives (resA cs) w) := by
  cases hk : engOk cs
  · have HV := hidH (fun W (h : LiesS W lo hi v cs) => engValid_is false v cs hk W lo hi h hm)
    have HX := hidH (resA_no cs hk)
    have HL := hidH hv
    have SZ := hidH (eng_size v)
    have BB := hidH (bMore (Below.refl w.heap.size w) (.cells #[v] 27))
    have E1 := hidH (EngAt.fresh w v)
    obtain ⟨a, cap, rfl⟩ := hv.some
    clear hv hm hk
    go_enter Tryd.func15, Tryd.ntmps15
    go_wp2_with (refine wpList_load_row rfl 27 _ rfl w.heap.size rfl 27 _ (0, 0) _ E1.out Tryd.underlying27 rfl SZ.out ?_)
    refine (HV.out _ (HL.out.below BB.out)).mono ?_; rintro e w1 ⟨rfl, hb⟩
    have HB := hidH (bThen BB.out hb)
    clear hb
    go_wp2
    go_ret2
    rw [HX.out]
    exact ⟨rfl, HB.out⟩
  · have HV := hidH (fun W (h : LiesS W lo hi v cs) => engValid_is true v cs hk W lo hi h hm)
    have HX := hidH (resA_yes cs hk)
    have HL := hidH hv
    have SZ := hidH (eng_size v)
    have BB := hidH (bMore (Below.refl w.heap.size w) (.cells #[v] 27))
    have E1 := hidH (EngAt.fresh w v)
    have ⟨h1, h7, _⟩ := engOk_parts cs hk
    have HS := hidH (fun W => signed_yes (cs.headD ⟨#[]⟩) (ok_size _ (head_ok cs hk)) W (head_ok cs hk))
    obtain ⟨b, off, cap, rfl, hlc, hcm, hlo, hhi, hbw, hcell⟩ := hv.addr (by omega)
    have hd := hcell 0 _ (head_at cs (by omega))
    rw [Nat.add_zero] at hd
    have HD := hidH hd
    unfold maxLen at hcm
    generalize cs.headD ⟨#[]⟩ = c0 at *
    clear hv hm hk hcell hd
    go_enter Tryd.func15, Tryd.ntmps15
    go_wp2_with (refine wpList_load_row rfl 27 _ rfl w.heap.size rfl 27 _ (0, 0) _ E1.out Tryd.underlying27 rfl SZ.out ?_)
    refine (HV.out _ (HL.out.below BB.out)).mono ?_; rintro e w1 ⟨rfl, hb⟩
    have c1 := (E1.out.below hb).cell
    have HB := hidH (bThen BB.out hb)
    have cd : w1.cell? ⟨b, off, none⟩ = some (.string c0) := by rw [HB.out.cell (p := ⟨b, off, none⟩) hbw]; exact HD.out
    clear hb
    go_wp2_with fail
    refine (HS.out _).mono ?_; rintro e w2 ⟨rfl, hb⟩
    have HB2 := hidH (bThen HB.out hb)
    clear hb
    go_wp2
    go_ret2
    rw [HX.out]
    exact ⟨rfl, HB2.out⟩
theorem sResultOf_any (v : Value) (cs : List ByteArray) (w : World) (lo hi : Nat) (hv : LiesS w lo hi v cs) (hm : ∀ c ∈ cs, c.size ≤ 9223372036854775807) : Calls Tryd.prog 14 #[.agg #[v]] w (Gives (resA cs) w) := by
  cases hk : engOk cs
  · have HV := hidH (fun W (h : LiesS W lo hi v cs) => sEngValid_is false v cs hk W lo hi h hm)
    have HX := hidH (resA_no cs hk)
    have HL := hidH hv
    have SZ := hidH (eng_size v)
    have BB := hidH (bMore (Below.refl w.heap.size w) (.cells #[v] 27))
    have E1 := hidH (EngAt.fresh w v)
    obtain ⟨a, cap, rfl⟩ := hv.some
    clear hv hm hk
    go_enter Tryd.func14, Tryd.ntmps14
    go_wp2_with (refine wpList_load_row rfl 27 _ rfl w.heap.size rfl 27 _ (0, 0) _ E1.out Tryd.underlying27 rfl SZ.out ?_)
    refine (HV.out _ (HL.out.below BB.out)).mono ?_; rintro e w1 ⟨rfl, hb⟩
    have HB := hidH (bThen BB.out hb)
    clear hb
    go_wp2
    go_ret2
    rw [HX.out]
    exact ⟨rfl, HB.out⟩
  · have HV := hidH (fun W (h : LiesS W lo hi v cs) => sEngValid_is true v cs hk W lo hi h hm)
    have HX := hidH (resA_yes cs hk)
    have HL := hidH hv
    have SZ := hidH (eng_size v)
    have BB := hidH (bMore (Below.refl w.heap.size w) (.cells #[v] 27))
    have E1 := hidH (EngAt.fresh w v)
    have ⟨h1, h7, _⟩ := engOk_parts cs hk
    have HS := hidH (fun W => l1Signed_any (cs.headD ⟨#[]⟩) W (head_ok cs hk))
    obtain ⟨b, off, cap, rfl, hlc, hcm, hlo, hhi, hbw, hcell⟩ := hv.addr (by omega)
    have hd := hcell 0 _ (head_at cs (by omega))
    rw [Nat.add_zero] at hd
    have HD := hidH hd
    unfold maxLen at hcm
    generalize cs.headD ⟨#[]⟩ = c0 at *
    clear hv hm hk hcell hd
    go_enter Tryd.func14, Tryd.ntmps14
    go_wp2_with (refine wpList_load_row rfl 27 _ rfl w.heap.size rfl 27 _ (0, 0) _ E1.out Tryd.underlying27 rfl SZ.out ?_)
    refine (HV.out _ (HL.out.below BB.out)).mono ?_; rintro e w1 ⟨rfl, hb⟩
    have c1 := (E1.out.below hb).cell
    have HB := hidH (bThen BB.out hb)
    have cd : w1.cell? ⟨b, off, none⟩ = some (.string c0) := by rw [HB.out.cell (p := ⟨b, off, none⟩) hbw]; exact HD.out
    clear hb
    go_wp2_with fail
    refine (HS.out _).mono ?_; rintro e w2 ⟨rfl, rfl⟩
    go_wp2
    go_ret2
    rw [HX.out]
    exact ⟨rfl, HB.out⟩
end Go.Proofs.YtliakbgigkajnaaDoor
