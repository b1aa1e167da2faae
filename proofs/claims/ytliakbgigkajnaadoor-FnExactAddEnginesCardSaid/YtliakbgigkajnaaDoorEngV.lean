/-
  EngineValid: the program and the model, at every list of texts. Condition: texts that fit in memory.
-/
import Derived.Test.YtliakbgigkajnaaDoorSs
import Derived.Test.YtliakbgigkajnaaDoorValues
import Derived.Test.YtliakbgigkajnaaDoorIn
import Derived.BigRegion
import Derived.BigQuiet
namespace Go.Proofs.YtliakbgigkajnaaDoor
set_option maxRecDepth 4000
set_option linter.unusedVariables false
open Go.RowKit
/-- The columns of an engine: 1 to 7, of one width. -/
def engOk (cs : List ByteArray) : Bool := cs.all (fun c => ok c && decide (c.size = (cs.headD ⟨#[]⟩).size)) && (decide (1 ≤ cs.length) && decide (cs.length ≤ 7))
theorem engOk_no (cs : List ByteArray) (c : ByteArray) (h : c ∈ cs) (hn : (ok c && decide (c.size = (cs.headD ⟨#[]⟩).size)) = false) : engOk cs = false := by
  unfold engOk
  rw [show cs.all (fun c => ok c && decide (c.size = (cs.headD ⟨#[]⟩).size)) = false from List.all_eq_false.2 ⟨c, h, by rw [hn]; decide⟩]
  rfl
theorem engOk_all (cs : List ByteArray) (h : ∀ c ∈ cs, (ok c && decide (c.size = (cs.headD ⟨#[]⟩).size)) = true) : engOk cs = (decide (1 ≤ cs.length) && decide (cs.length ≤ 7)) := by
  unfold engOk
  rw [List.all_eq_true.2 h, Bool.true_and]
theorem engOk_parts (cs : List ByteArray) (h : engOk cs = true) : 1 ≤ cs.length ∧ cs.length ≤ 7 ∧ ∃ n, 1 ≤ n ∧ n ≤ 12 ∧ ∀ c ∈ cs, ok c = true ∧ c.size = n := by
  unfold engOk at h
  rw [Bool.and_eq_true, Bool.and_eq_true] at h
  obtain ⟨h1, h2, h3⟩ := h
  have e2 := of_decide_eq_true h2
  have e3 := of_decide_eq_true h3
  have h1' := List.all_eq_true.1 h1
  have each : ∀ c ∈ cs, ok c = true ∧ c.size = (cs.headD ⟨#[]⟩).size := fun c hc => by
    have := h1' c hc
    rw [Bool.and_eq_true] at this
    exact ⟨this.1, of_decide_eq_true this.2⟩
  refine ⟨e2, e3, (cs.headD ⟨#[]⟩).size, ?_, ?_, each⟩
  · have := each _ (List.getElem_mem (l := cs) (n := 0) (by omega))
    have := (ok_iff _).1 this.1
    have := (each _ (List.getElem_mem (l := cs) (n := 0) (by omega))).2
    omega
  · have := each _ (List.getElem_mem (l := cs) (n := 0) (by omega))
    have := (ok_iff _).1 this.1
    have := (each _ (List.getElem_mem (l := cs) (n := 0) (by omega))).2
    omega
theorem engOk_of (cs : List ByteArray) (n : Nat) (h1 : 1 ≤ cs.length) (h2 : cs.length ≤ 7) (h : ∀ c ∈ cs, ok c = true ∧ c.size = n) : engOk cs = true := by
  have hd : (cs.headD ⟨#[]⟩).size = n := by
    cases cs with
    | nil => simp at h1
    | cons c r => exact (h c (by simp)).2
  rw [engOk_all cs (fun c hc => by rw [hd, (h c hc).1, (h c hc).2]; simp), decide_eq_true h1, decide_eq_true h2]
  rfl
theorem head_at (cs : List ByteArray) (h : 0 < cs.length) : cs[0]? = some (cs.headD ⟨#[]⟩) := by
  cases cs with
  | nil => simp at h
  | cons c r => rfl
/-- All columns before an index are well. -/
def wellTo (cs : List ByteArray) (k : Nat) : Prop := ∀ j c, j < k → cs[j]? = some c → (ok c && decide (c.size = (cs.headD ⟨#[]⟩).size)) = true
theorem wellTo_all {cs : List ByteArray} (h : wellTo cs cs.length) : ∀ c ∈ cs, (ok c && decide (c.size = (cs.headD ⟨#[]⟩).size)) = true := by
  intro c hc
  obtain ⟨j, hj, rfl⟩ := List.getElem_of_mem hc
  exact h j _ hj (List.getElem?_eq_getElem hj)
theorem wellTo_next {cs : List ByteArray} {k : Nat} {c : ByteArray} (h : wellTo cs k) (hc : cs[k]? = some c) (hw : (ok c && decide (c.size = (cs.headD ⟨#[]⟩).size)) = true) : wellTo cs (k + 1) := by
  intro j d hj hd
  by_cases e : j = k
  · subst e
    rw [hc] at hd
    injection hd with hd
    subst hd
    exact hw
  · exact h j d (by omega) hd
theorem sValid_same (s : ByteArray) (hs : s.size ≤ 9223372036854775807) (b : Bool) (h : ok s = b) (w : World) : Calls Tryd.prog 30 #[.string s] w fun e w' => e = .returned (.bool b) ∧ w' = w := by
  subst h
  exact (sValid_any s hs w).mono fun e w' ⟨he, hw⟩ => ⟨he, hw.symm⟩
/-- A slice in a box of its own. -/
def boxed (w : World) (v : Value) : World := w.alloc (.cells #[v] 27)
theorem boxed_below (w : World) (v : Value) : Below w.heap.size w (boxed w v) := (Below.refl _ _).alloc (Nat.le_refl _) _
theorem boxed_cell (w : World) (v : Value) {w' : World} (h : Below (boxed w v).heap.size (boxed w v) w') : w'.cell? ⟨w.heap.size, 0, none⟩ = some v := by
  rw [h.cell (p := ⟨w.heap.size, 0, none⟩) (by simp [boxed])]
  simp [boxed]
theorem boxed_old (w : World) (v : Value) {w' : World} (h : Below (boxed w v).heap.size (boxed w v) w') {p : Addr} {u : Value} (hp : w.cell? p = some u) : w'.cell? p = some u := by
  have hb := (boxed_below w v).trans (h.mono (boxed_below w v).size)
  rw [hb.cell (cell_blk _ _ _ hp)]
  exact hp
theorem sEngValid_any (v : Value) (cs : List ByteArray) (w : World) (lo hi : Nat) (hv : LiesS w lo hi v cs) (hm : ∀ c ∈ cs, c.size ≤ 9223372036854775807) : Calls Tryd.prog 10 #[.agg #[v]] w (Gives (.bool (engOk cs)) w) := by
  by_cases h0 : cs.length = 0
  · obtain rfl : cs = [] := List.eq_nil_of_length_eq_zero h0
    obtain ⟨a, cap, rfl, hlc, hcm, hnil, hcell⟩ := hv
    have HBX := hidH (boxed_below w (.slice a 0 cap))
    have HCX := hidH (boxed_cell w (.slice a 0 cap) (Below.refl _ _))
    clear hcell hnil
    have HI := hidH (sIn_any 0 1 7 false (by decide))
    go_enter Tryd.func10, Tryd.ntmps10
    go_wp2
    go_loopw [3] (fun i wr => i = .int .i64 0 ∧ boxed w (.slice a 0 cap) = wr) (fun _ _ => 0)
    case atStart => exact ⟨rfl, rfl⟩
    case round =>
      obtain ⟨rfl, rfl⟩ := hrel
      have hc := HCX.out
      go_wp2_with (refine (HI.out _).mono ?_; rintro e w1 ⟨rfl, rfl⟩)
      go_ret
      exact ⟨rfl, HBX.out⟩
  · obtain ⟨b, off, cap, rfl, hlc, hcm, hlo, hhi, hbw, hcell⟩ := hv.addr (by omega)
    have HC := hidH hcell
    have HM := hidH hm
    have hd := hcell 0 _ (head_at cs (by omega))
    rw [Nat.add_zero] at hd
    have HD := hidH hd
    clear hcell hm hd
    unfold maxLen at hcm
    have HBX := hidH (boxed_below w (.slice (some ⟨b, off, none⟩) cs.length cap))
    have HWA := hidH (fun k c (h : cs[k]? = some c) hn => engOk_no cs c (List.mem_of_getElem? h) hn)
    have HWN := hidH (fun k c (h : wellTo cs k) (hc : cs[k]? = some c) hw => wellTo_next h hc hw)
    have HAL := hidH (fun (h : wellTo cs cs.length) => engOk_all cs (wellTo_all h))
    generalize cs.headD ⟨#[]⟩ = c0 at *
    go_enter Tryd.func10, Tryd.ntmps10
    go_wp2
    go_loopw [3] (fun i wr => ∃ k : Nat, k ≤ cs.length ∧ i = .int .i64 k ∧ wellTo cs k ∧ Below (boxed w (.slice (some ⟨b, off, none⟩) cs.length cap)).heap.size (boxed w (.slice (some ⟨b, off, none⟩) cs.length cap)) wr) (fun i _ => cs.length - (intOf i).toNat)
    case atStart => exact ⟨0, Nat.zero_le _, rfl, fun j _ hj => absurd hj (Nat.not_lt_zero _), Below.refl _ _⟩
    case round =>
      obtain ⟨k, hk, rfl, hwell, hbl⟩ := hrel
      have HW := hidH hwell
      have HB := hidH hbl
      have hbx := boxed_cell w _ hbl
      clear hwell hbl
      by_cases hlt : k < cs.length
      · obtain ⟨c, hc⟩ := get_lt cs k hlt
        have hcw := boxed_old w _ HB.out (HC.out k c hc)
        have hcw0 := boxed_old w _ HB.out HD.out
        have hms := HM.out c (List.mem_of_getElem? hc)
        have HCC := hidH hc
        have h0l : 0 < cs.length := by omega
        clear hc
        cases hok : ok c
        · have HN := hidH (HWA.out k c HCC.out (by rw [hok]; rfl))
          have HV := hidH (sValid_same c hms false hok)
          clear hok
          go_wp2_with fail
          go_quiet ((go_at_call 30; exact Calls.quiet_of_same (HV.out _)))
          go_wp2
          go_ret
          exact ⟨by rw [HN.out]; rfl, HBX.out.trans ((below_drewN HB.out _).mono HBX.out.size)⟩
        · have HV := hidH (sValid_same c hms true hok)
          by_cases hsz : c.size = c0.size
          · have HX := hidH (HWN.out k c HW.out HCC.out (by rw [hok, hsz]; simp))
            have hsb' : ((c.size : Int) != (c0.size : Int)) = false := by rw [hsz]; exact bne_self_eq_false _
            clear hok hsz
            go_wp2_with fail
            go_quiet ((go_at_call 30; exact Calls.quiet_of_same (HV.out _)))
            go_wp2
            go_roundw
            case rel => exact ⟨k + 1, by omega, by go_num, HX.out, below_drewN HB.out _⟩
            case measure => simp [intOf]; omega
          · have HN := hidH (HWA.out k c HCC.out (by rw [hok, decide_eq_false hsz]; rfl))
            have hsb' : ((c.size : Int) != (c0.size : Int)) = true := bne_iff_ne.2 (by omega)
            clear hok hsz
            go_wp2_with fail
            go_quiet ((go_at_call 30; exact Calls.quiet_of_same (HV.out _)))
            go_wp2
            go_ret
            exact ⟨by rw [HN.out]; rfl, HBX.out.trans ((below_drewN HB.out _).mono HBX.out.size)⟩
      · obtain rfl : k = cs.length := by omega
        have hA := HAL.out HW.out
        have HI := hidH (sIn_any cs.length 1 7 (engOk cs) (by rw [hA, ← Bool.decide_and]; exact decide_eq_decide.2 (by omega)))
        clear hA
        go_wp2_with (refine (HI.out _).mono ?_; rintro e w1 ⟨rfl, rfl⟩)
        go_ret
        exact ⟨rfl, HBX.out.trans (HB.out.mono HBX.out.size)⟩
/-- What the function that EngineValid hands on answers of a text: it is no column of the width. -/
theorem unfit_any (c c0 : ByteArray) (b off n cap p : Nat) (w : World) (hs : c.size ≤ 9223372036854775807) (hn : 0 < n) (hbox : w.cell? ⟨p, 0, none⟩ = some (.slice (some ⟨b, off, none⟩) n cap)) (hc0 : w.cell? ⟨b, off, none⟩ = some (.string c0)) :
    Calls Tryd.prog 33 #[.string c, .pointer (some ⟨p, 0, none⟩)] w (Gives (.bool (!(ok c && decide (c.size = c0.size)))) w) := by
  cases hok : ok c
  · have HV := hidH (valid_no c hs w hok)
    go_enter Tryd.func33, Tryd.ntmps33
    go_wp2_with (refine HV.out.mono ?_; rintro e w1 ⟨rfl, hb⟩; (have HB := hidH hb); clear hb)
    go_ret
    exact ⟨by simp, HB.out⟩
  · have HV := hidH (valid_yes c hs w hok)
    have HX := hidH hbox
    have HC := hidH hc0
    have hsz : c.size = c0.size ∨ c.size ≠ c0.size := Decidable.em _
    clear hbox hc0
    go_enter Tryd.func33, Tryd.ntmps33
    go_wp2_with fail
    refine HV.out.mono ?_; rintro e w1 ⟨rfl, hb⟩
    have hbox : w1.cell? ⟨p, 0, none⟩ = some (.slice (some ⟨b, off, none⟩) n cap) := by rw [hb.cell (p := ⟨p, 0, none⟩) (cell_blk _ _ _ HX.out)]; exact HX.out
    have hc0 : w1.cell? ⟨b, off, none⟩ = some (.string c0) := by rw [hb.cell (p := ⟨b, off, none⟩) (cell_blk _ _ _ HC.out)]; exact HC.out
    have HB := hidH hb
    clear hb
    rcases hsz with hsz | hsz
    · have hsb : ((c.size : Int) == (c0.size : Int)) = true := by rw [hsz]; exact beq_self_eq_true _
      have hsb' : ((c.size : Int) != (c0.size : Int)) = false := by rw [hsz]; exact bne_self_eq_false _
      have HS := hidH hsz
      clear hsz
      go_wp2
      go_ret
      exact ⟨by rw [HS.out]; simp, HB.out⟩
    · have hsb : ((c.size : Int) == (c0.size : Int)) = false := beq_eq_false_iff_ne.2 (by omega)
      have hsb' : ((c.size : Int) != (c0.size : Int)) = true := bne_iff_ne.2 (by omega)
      have HS := hidH hsz
      clear hsz
      go_wp2
      go_ret
      exact ⟨by simp [HS.out], HB.out⟩
/-- slices.IndexFunc over texts, with a function that answers p. -/
theorem indexFunc_any (p : ByteArray → Bool) (q : Addr) (cs : List ByteArray) (b off cap : Nat) (w : World) (hlc : cs.length ≤ cap) (hcm : cap ≤ 9223372036854775807)
    (hcell : ∀ (j : Nat) z, cs[j]? = some z → w.cell? ⟨b, off + j, none⟩ = some (.string z))
    (hp : ∀ c w', c ∈ cs → Below w.heap.size w w' → Calls Tryd.prog 33 #[.string c, .pointer (some q)] w' (Gives (.bool (p c)) w')) :
    Calls Tryd.prog 57 #[.slice (some ⟨b, off, none⟩) cs.length cap, .func (.func 33) #[] #[.pointer (some q)]] w fun e w' => ∃ r : Int, e = .returned (.int .i64 r) ∧ (cs.any p = true ∧ 0 ≤ r ∨ cs.any p = false ∧ r = -1) ∧ Below w.heap.size w w' := by
  have HC := hidH hcell
  have HP := hidH hp
  clear hcell hp
  go_enter Tryd.func57, Tryd.ntmps57
  go_wp2
  go_loopw [8] (fun i wr => ∃ k : Nat, k ≤ cs.length ∧ i = .int .i64 k ∧ (∀ j c, j < k → cs[j]? = some c → p c = false) ∧ Below w.heap.size w wr) (fun i _ => cs.length - (intOf i).toNat)
  case atStart => exact ⟨0, Nat.zero_le _, rfl, fun j _ hj => absurd hj (Nat.not_lt_zero _), Below.refl _ _⟩
  case round =>
    obtain ⟨k, hk, rfl, hall, hb⟩ := hrel
    have HA := hidH hall
    have HB := hidH hb
    clear hall hb
    by_cases hlt : k < cs.length
    · obtain ⟨c, hc⟩ := get_lt cs k hlt
      have hcw : wr.cell? ⟨b, off + k, none⟩ = some (.string c) := by rw [HB.out.cell (p := ⟨b, off + k, none⟩) (cell_blk _ _ _ (HC.out k c hc))]; exact HC.out k c hc
      have HCC := hidH hc
      clear hc
      cases hpc : p c
      · go_wp2_with fail
        refine (HP.out c _ (List.mem_of_getElem? HCC.out) HB.out).mono ?_; rintro e w1 ⟨rfl, hb⟩
        rw [hpc]
        have HB1 := hidH (HB.out.trans (hb.mono HB.out.size))
        clear hb
        go_wp2
        go_roundw
        case rel =>
          refine ⟨k + 1, by omega, by go_num, fun j d hj hd => ?_, HB1.out⟩
          by_cases e : j = k
          · subst e
            rw [HCC.out] at hd
            injection hd with hd
            rw [← hd]; exact hpc
          · exact HA.out j d (by omega) hd
        case measure => simp [intOf]; omega
      · go_wp2_with fail
        refine (HP.out c _ (List.mem_of_getElem? HCC.out) HB.out).mono ?_; rintro e w1 ⟨rfl, hb⟩
        rw [hpc]
        have HB1 := hidH (HB.out.trans (hb.mono HB.out.size))
        clear hb
        go_wp2
        go_ret
        exact ⟨_, rfl, .inl ⟨List.any_eq_true.2 ⟨c, List.mem_of_getElem? HCC.out, hpc⟩, by omega⟩, HB1.out⟩
    · obtain rfl : k = cs.length := by omega
      go_wp2
      go_ret
      refine ⟨_, rfl, .inr ⟨List.any_eq_false.2 fun c hc => ?_, rfl⟩, HB.out⟩
      obtain ⟨j, hj, rfl⟩ := List.getElem_of_mem hc
      rw [HA.out j _ hj (List.getElem?_eq_getElem hj)]
      decide
theorem containsFunc_any (p : ByteArray → Bool) (q : Addr) (cs : List ByteArray) (b off cap : Nat) (w : World) (hlc : cs.length ≤ cap) (hcm : cap ≤ 9223372036854775807)
    (hcell : ∀ (j : Nat) z, cs[j]? = some z → w.cell? ⟨b, off + j, none⟩ = some (.string z))
    (hp : ∀ c w', c ∈ cs → Below w.heap.size w w' → Calls Tryd.prog 33 #[.string c, .pointer (some q)] w' (Gives (.bool (p c)) w')) :
    Calls Tryd.prog 35 #[.slice (some ⟨b, off, none⟩) cs.length cap, .func (.func 33) #[] #[.pointer (some q)]] w (Gives (.bool (cs.any p)) w) := by
  have HI := hidH (indexFunc_any p q cs b off cap w hlc hcm hcell hp)
  clear hcell hp
  cases ha : cs.any p
  · have HA := hidH ha
    clear ha
    go_enter Tryd.func35, Tryd.ntmps35
    go_wp2_with fail
    refine HI.out.mono ?_; rintro e w1 ⟨r, rfl, hr, hb⟩
    obtain rfl : r = -1 := by
      rcases hr with ⟨h, _⟩ | ⟨_, h⟩
      · rw [HA.out] at h; cases h
      · exact h
    have HB := hidH hb
    clear hr hb
    go_wp2
    go_ret
    exact ⟨rfl, HB.out⟩
  · have HA := hidH ha
    clear ha
    go_enter Tryd.func35, Tryd.ntmps35
    go_wp2_with fail
    refine HI.out.mono ?_; rintro e w1 ⟨r, rfl, hr, hb⟩
    have hr0 : 0 ≤ r := by
      rcases hr with ⟨_, h⟩ | ⟨h, _⟩
      · exact h
      · rw [HA.out] at h; cases h
    have HB := hidH hb
    clear hr hb
    go_wp2
    go_ret
    exact ⟨rfl, HB.out⟩
theorem engValid_any (v : Value) (cs : List ByteArray) (w : World) (lo hi : Nat) (hv : LiesS w lo hi v cs) (hm : ∀ c ∈ cs, c.size ≤ 9223372036854775807) : Calls Tryd.prog 12 #[.agg #[v]] w (Gives (.bool (engOk cs)) w) := by
  by_cases hr : 1 ≤ cs.length ∧ cs.length ≤ 7
  · obtain ⟨b, off, cap, rfl, hlc, hcm, hlo, hhi, hbw, hcell⟩ := hv.addr (by omega)
    have HC := hidH hcell
    have hd := hcell 0 _ (head_at cs (by omega))
    rw [Nat.add_zero] at hd
    have HD := hidH hd
    unfold maxLen at hcm
    have he : engOk cs = !cs.any (fun c => !(ok c && decide (c.size = (cs.headD ⟨#[]⟩).size))) := by
      unfold engOk
      rw [decide_eq_true hr.1, decide_eq_true hr.2, Bool.and_true, Bool.and_true, List.not_any_eq_all_not]
      simp
    have hB := (Below.refl w.heap.size w).alloc (Nat.le_refl _) (.cells #[.slice (some ⟨b, off, none⟩) cs.length cap] 27)
    have hcn : ∀ (j : Nat) z, cs[j]? = some z → (w.alloc (.cells #[.slice (some ⟨b, off, none⟩) cs.length cap] 27)).cell? ⟨b, off + j, none⟩ = some (.string z) := fun j z hj => by
      rw [hB.cell (p := ⟨b, off + j, none⟩) hbw]; exact hcell j z hj
    have HF := hidH (containsFunc_any (fun c => !(ok c && decide (c.size = (cs.headD ⟨#[]⟩).size))) ⟨w.heap.size, 0, none⟩ cs b off cap (w.alloc (.cells #[.slice (some ⟨b, off, none⟩) cs.length cap] 27)) hlc (by omega) hcn
      (fun c w' hc hbl => unfit_any c (cs.headD ⟨#[]⟩) b off cs.length cap w.heap.size w' (hm c hc) (by omega)
        (by rw [hbl.cell (p := ⟨w.heap.size, 0, none⟩) (by simp)]; simp)
        (by rw [hbl.cell (p := ⟨b, off, none⟩) (by simp; omega), hB.cell (p := ⟨b, off, none⟩) hbw]; exact HD.out)))
    have HE := hidH he
    have HBB := hidH hB
    obtain ⟨h1, h7⟩ := hr
    have h1b : ((cs.length : Int) < 1) = False := by simp; omega
    clear he hB hcn hd hcell hm hv
    go_enter Tryd.func12, Tryd.ntmps12
    go_wp2_with fail
    refine HF.out.mono ?_; rintro e w1 ⟨rfl, hb⟩
    have HB1 := hidH (HBB.out.trans (hb.mono HBB.out.size))
    clear hb
    generalize List.any cs _ = t at *
    cases t
    all_goals
      go_wp2
      go_ret
      exact ⟨by rw [HE.out]; rfl, HB1.out⟩
  · have HE := hidH (show engOk cs = false by
      unfold engOk
      rw [← Bool.decide_and, decide_eq_false hr, Bool.and_false])
    obtain ⟨a, cap, rfl, hlc, hcm, hnil, hcell⟩ := hv
    unfold maxLen at hcm
    clear hcell hnil hm
    by_cases h0 : cs.length < 1
    · have e0 : cs.length = 0 := by omega
      rw [e0]
      rw [e0] at hlc
      clear hr
      go_enter Tryd.func12, Tryd.ntmps12
      go_wp2
      go_ret
      exact ⟨by rw [HE.out]; rfl, (Below.refl _ _).alloc (Nat.le_refl _) _⟩
    · have h7 : 7 < cs.length := by omega
      clear hr
      go_enter Tryd.func12, Tryd.ntmps12
      go_wp2
      go_ret
      exact ⟨by rw [HE.out]; rfl, (Below.refl _ _).alloc (Nat.le_refl _) _⟩
end Go.Proofs.YtliakbgigkajnaaDoor
