/-
  Texts of engines: columns with a space between are read again, and a text that no engine has is refused. No conditions.
  FormatEngine: the program and the model, at every list of texts. Condition: texts that fit in memory.
-/
import Derived.Test.YtffmhcahiabicaaDoorStrJoin
import Derived.Test.YtffmhcahiabicaaDoorStrC
import Derived.Test.YtffmhcahiabicaaDoorEngV
import Derived.Test.YtffmhcahiabicaaDoorShSpl
import Derived.Shelf.Strings.SplitShaped
import Derived.Test.YtffmhcahiabicaaDoorEngA
import Derived.Test.YtffmhcahiabicaaDoorStrMath
namespace Go.Proofs.YtffmhcahiabicaaDoor
set_option maxRecDepth 4000
open Go.RowKit Go.Shelf
theorem indexE_sep (c : UInt8) (r : List UInt8) : ∀ x : List UInt8, c ∉ x → Lib.index (x ++ c :: r) [c] = x.length
  | [], _ => by simp [Lib.index]
  | b :: t, h => by
    have hb : ¬ c = b := fun e => h (by simp [e])
    have ih := indexE_sep c r t (fun hm => h (by simp [hm]))
    have hm : ((t.length : Int) == -1) = false := beq_eq_false_iff_ne.2 (by omega)
    rw [List.cons_append, Lib.index]
    simp [hb, ih, hm]
theorem indexE_nosep (c : UInt8) : ∀ x : List UInt8, c ∉ x → Lib.index x [c] = -1
  | [], _ => by simp [Lib.index]
  | b :: t, h => by
    have hb : ¬ c = b := fun e => h (by simp [e])
    have ih := indexE_nosep c t (fun hm => h (by simp [hm]))
    rw [Lib.index]
    simp [hb, ih]
theorem join_two (c : UInt8) (x : List UInt8) (l : List (List UInt8)) (h : l ≠ []) : Lib.join (x :: l) [c] = x ++ c :: Lib.join l [c] := by
  cases l with
  | nil => exact absurd rfl h
  | cons y r =>
    rw [Lib.join_cons, Lib.join_cons]
    simp [Lib.joinTail]
theorem splitE_join (c : UInt8) : ∀ (xs : List (List UInt8)) (k : Nat), xs ≠ [] → (∀ x ∈ xs, c ∉ x) → xs.length ≤ k + 1 → Lib.splitK [c] 0 k (Lib.join xs [c]) = xs
  | [], _, h, _, _ => absurd rfl h
  | [x], k, _, h, _ => by
    rw [Lib.join_one]
    cases k with
    | zero => rfl
    | succ k =>
      rw [Lib.splitK, if_pos (by rw [indexE_nosep c x (h x (by simp))]; rfl)]
  | x :: y :: r, k, _, h, hl => by
    have e := join_two c x (y :: r) (by simp)
    cases k with
    | zero => simp at hl
    | succ k =>
      have hi := indexE_sep c (Lib.join (y :: r) [c]) x (h x (by simp))
      rw [e, Lib.splitK, if_neg (by rw [hi, beq_iff_eq]; omega), hi]
      have ih := splitE_join c (y :: r) k (by simp) (fun z hz => h z (by simp [hz])) (by simpa using hl)
      rw [show ((x.length : Int).toNat + 0) = x.length by omega, show (x.length : Int).toNat + [c].length = x.length + 1 by simp]
      rw [List.take_left' rfl, ← List.drop_drop, List.drop_left' rfl]
      simp only [List.drop_succ_cons, List.drop_zero]
      rw [ih]
/-- Where a byte is found the text is what stands before it, it, and the rest. -/
theorem index_cut (c : UInt8) : ∀ s : List UInt8, Lib.index s [c] ≠ -1 → s = s.take (Lib.index s [c]).toNat ++ c :: s.drop ((Lib.index s [c]).toNat + 1)
  | [], h => by simp [Lib.index] at h
  | b :: t, h => by
    have ge := Lib.index_ge t [c]
    rw [Lib.index] at h ⊢
    by_cases hb : c = b
    · subst hb
      rw [if_pos (by simp)]
      simp
    · rw [if_neg (by simp [hb])] at h ⊢
      by_cases hm : Lib.index t [c] = -1
      · rw [if_pos (by rw [hm]; rfl)] at h
        exact absurd rfl h
      · rw [if_neg (by simpa using hm)]
        have ih := index_cut c t hm
        have e : (Lib.index t [c] + 1).toNat = (Lib.index t [c]).toNat + 1 := by omega
        rw [e, List.take_succ_cons, List.cons_append, List.drop_succ_cons, ← ih]
theorem split_ne (sep : List UInt8) : ∀ (k : Nat) (s : List UInt8), Lib.splitK sep 0 k s ≠ []
  | 0, s => by simp [Lib.splitK]
  | k + 1, s => by
    rw [Lib.splitK]
    split <;> simp
theorem join_splitE (c : UInt8) : ∀ (k : Nat) (s : List UInt8), Lib.join (Lib.splitK [c] 0 k s) [c] = s
  | 0, s => Lib.join_one s [c]
  | k + 1, s => by
    rw [Lib.splitK]
    by_cases h : Lib.index s [c] = -1
    · rw [if_pos (by rw [h]; rfl)]
      exact Lib.join_one s [c]
    · rw [if_neg (by simpa using h), join_two c _ _ (split_ne _ _ _), join_splitE c k, Nat.add_zero]
      exact (index_cut c s h).symm
theorem join_head (c b : UInt8) (l : List (List UInt8)) (h : l ≠ []) : Lib.join (addHead [b] l) [c] = b :: Lib.join l [c] := by
  cases l with
  | nil => exact absurd rfl h
  | cons x r =>
    rw [addHead]
    by_cases hr : r = []
    · subst hr
      rw [Lib.join_one, Lib.join_one]
      rfl
    · rw [join_two c _ r hr, join_two c _ r hr]
      rfl
theorem join_cut (c : UInt8) : ∀ t : List UInt8, Lib.join (cutL c t) [c] = t
  | [] => by rw [cutL]; exact Lib.join_one [] [c]
  | b :: r => by
    by_cases h : b = c
    · subst h
      rw [cutL_hit, join_two b [] _ (cutL_ne b r), join_cut b r]
      rfl
    · rw [cutL_miss b c r h, join_head c b _ (cutL_ne c r), join_cut c r]
/-- The text of columns. -/
def engT (cs : List ByteArray) : List UInt8 := Lib.join (cs.map (·.data.toList)) [32]
theorem engT_join (cs : List ByteArray) : joinB cs ⟨#[32]⟩ = ⟨(engT cs).toArray⟩ := rfl
/-- What FormatEngine answers. -/
def feB (cs : List ByteArray) : ByteArray := if engOk cs then ⟨(engT cs).toArray⟩ else ⟨#[]⟩
theorem feB_yes (cs : List ByteArray) (h : engOk cs = true) : feB cs = ⟨(engT cs).toArray⟩ := by rw [feB, if_pos h]
theorem feB_no (cs : List ByteArray) (h : engOk cs = false) : feB cs = ⟨#[]⟩ := by rw [feB, if_neg (by rw [h]; decide)]
theorem engT_snoc (cs : List ByteArray) (x : ByteArray) (h : cs ≠ []) : engT (cs ++ [x]) = engT cs ++ [32] ++ x.data.toList := by
  unfold engT
  rw [List.map_append]
  generalize hl : cs.map (·.data.toList) = l
  have hn : l ≠ [] := fun e => h (List.map_eq_nil_iff.1 (hl.trans e))
  clear hl h
  show Lib.join (l ++ [x.data.toList]) [32] = _
  induction l with
  | nil => exact absurd rfl hn
  | cons y r ih =>
    by_cases hr : r = []
    · subst hr
      rw [List.singleton_append, join_two _ _ _ (by simp), Lib.join_one, Lib.join_one]
      simp
    · rw [List.cons_append, join_two _ _ _ (by simp), ih hr, join_two _ _ _ hr]
      simp
theorem engT_take (cs : List ByteArray) (k : Nat) (x : ByteArray) (hx : cs[k]? = some x) : engT (cs.take (k + 1)) = engT (cs.take k) ++ (if 0 < k then [32] else []) ++ x.data.toList := by
  have hk := (List.getElem?_eq_some_iff.1 hx).1
  have e : cs.take (k + 1) = cs.take k ++ [x] := by rw [List.take_add_one, hx]; rfl
  rw [e]
  by_cases h0 : 0 < k
  · rw [if_pos h0]
    refine engT_snoc _ _ (fun h => ?_)
    have := congrArg List.length h
    rw [List.length_take, List.length_nil] at this
    omega
  · obtain rfl : k = 0 := by omega
    simp [engT, Lib.join_one, Lib.join_nil]
theorem col_nosp (c : ByteArray) (h : ok c = true) : (32 : UInt8) ∉ c.data.toList := by
  intro hm
  have := ((ok_iff c).1 h).1 32 hm
  simp at this
theorem engT_len (cs : List ByteArray) (n : Nat) (h : ∀ c ∈ cs, c.size ≤ n) : (engT cs).length ≤ (n + 1) * cs.length := by
  have key : ∀ l : List (List UInt8), (∀ x ∈ l, x.length ≤ n) → Lib.lens l ≤ n * l.length := by
    intro l
    induction l with
    | nil => intro _; simp [Lib.lens]
    | cons x r ih =>
      intro hx
      have h1 := hx x (by simp)
      have h2 := ih (fun y hy => hx y (by simp [hy]))
      simp only [Lib.lens, List.map_cons, List.sum_cons, List.length_cons] at h2 ⊢
      rw [Nat.mul_succ]
      omega
  have hk := key (cs.map (·.data.toList)) (fun x hx => by
    obtain ⟨c, hc, rfl⟩ := List.mem_map.1 hx
    have := h c hc
    simpa using this)
  unfold engT
  cases cs with
  | nil => simp [Lib.join_nil]
  | cons c r =>
    rw [List.map_cons] at hk ⊢
    rw [Lib.join_length]
    simp only [List.length_map, List.length_cons, List.length_nil] at hk ⊢
    have e : (n + 1) * (r.length + 1) = n * (r.length + 1) + (r.length + 1) := Nat.succ_mul _ _
    omega
theorem engT_small (cs : List ByteArray) (h : engOk cs = true) : (engT cs).length ≤ 91 := by
  obtain ⟨_, h7, n, _, h12, hall⟩ := engOk_parts cs h
  have := engT_len cs 12 (fun c hc => by have := (hall c hc).2; omega)
  omega
/-- The parts that the program cuts a text into. -/
def partsE (t : ByteArray) : List ByteArray := Lib.splitB ⟨#[32]⟩ 0 (min 8 (t.size + 1) - 1) t
theorem partsE_len (t : ByteArray) : (partsE t).length ≤ 8 := by
  have := Lib.splitB_length_le ⟨#[32]⟩ 0 (min 8 (t.size + 1) - 1) t
  unfold partsE
  omega
theorem partsE_data (t : ByteArray) : (partsE t).map (·.data.toList) = Lib.splitK [32] 0 (min 8 (t.size + 1) - 1) t.data.toList := Lib.splitB_data ⟨#[32]⟩ 0 _ t
theorem cutE_data (t : ByteArray) : (cutB 32 t).map (·.data.toList) = cutL 32 t.data.toList := by
  unfold cutB
  rw [List.map_map]
  exact List.map_id' _
theorem data_inj (a b : List ByteArray) (h : a.map (·.data.toList) = b.map (·.data.toList)) : a = b := by
  have key : ∀ l : List ByteArray, (l.map (·.data.toList)).map (fun l => (⟨l.toArray⟩ : ByteArray)) = l := fun l => by
    rw [List.map_map]
    exact List.map_id' _
  rw [← key a, ← key b, h]
theorem engT_parts (t : ByteArray) : engT (partsE t) = t.data.toList := by
  unfold engT
  rw [partsE_data, join_splitE]
theorem engT_cut (t : ByteArray) : engT (cutB 32 t) = t.data.toList := by
  unfold engT
  rw [cutE_data, join_cut]
theorem cols_ne (cs : List ByteArray) (h : engOk cs = true) : cs.map (·.data.toList) ≠ [] := by
  have := (engOk_parts cs h).1
  intro e
  have := congrArg List.length e
  rw [List.length_map, List.length_nil] at this
  omega
theorem cols_nosp (cs : List ByteArray) (h : engOk cs = true) : ∀ x ∈ cs.map (·.data.toList), (32 : UInt8) ∉ x := by
  intro x hx
  obtain ⟨c, hc, rfl⟩ := List.mem_map.1 hx
  obtain ⟨_, _, _, _, _, hall⟩ := engOk_parts cs h
  exact col_nosp c (hall c hc).1
/-- A text of valid columns is cut into them, by the model and by the program. -/
theorem cut_text (cs : List ByteArray) (h : engOk cs = true) (t : ByteArray) (ht : t.data.toList = engT cs) : cutB 32 t = cs := by
  refine data_inj _ _ ?_
  rw [cutE_data, ht]
  exact cutL_join 32 _ (cols_ne cs h) (cols_nosp cs h)
theorem parts_textE (cs : List ByteArray) (h : engOk cs = true) (t : ByteArray) (ht : t.data.toList = engT cs) : partsE t = cs := by
  refine data_inj _ _ ?_
  rw [partsE_data, ht]
  refine splitE_join 32 _ _ (cols_ne cs h) (cols_nosp cs h) ?_
  have h7 := (engOk_parts cs h).2.1
  have hsz : cs.length ≤ t.size + 1 := by
    have e : t.size = (engT cs).length := by rw [← ht]; simp
    rw [e]
    have h1 := (engOk_parts cs h).1
    unfold engT
    cases cs with
    | nil => simp at h1
    | cons c r =>
      rw [List.map_cons, Lib.join_length]
      simp only [List.length_map, List.length_cons, List.length_nil]
      omega
  rw [List.length_map]
  omega
/-- Whether a text is that of an engine, and its columns. -/
def peB (t : ByteArray) : Bool := engOk (cutB 32 t)
def peL (t : ByteArray) : List ByteArray := if peB t then cutB 32 t else []
theorem peL_yes (t : ByteArray) (h : peB t = true) : peL t = cutB 32 t := by rw [peL, if_pos h]
theorem peL_no (t : ByteArray) (h : peB t = false) : peL t = [] := by rw [peL, if_neg (by rw [h]; decide)]
theorem peB_parts (t : ByteArray) : engOk (partsE t) = peB t := by
  cases h : peB t
  · refine Bool.eq_false_iff.2 fun hp => ?_
    have := cut_text (partsE t) hp t (engT_parts t).symm
    unfold peB at h
    rw [this, hp] at h
    cases h
  · rw [parts_textE (cutB 32 t) h t (engT_cut t).symm]
    exact h
theorem peL_parts (t : ByteArray) (h : peB t = true) : peL t = partsE t := by
  rw [peL_yes t h, parts_textE (cutB 32 t) h t (engT_cut t).symm]
theorem peB_text (t : ByteArray) (h : peB t = true) : feB (cutB 32 t) = t := by
  rw [feB_yes _ h, engT_cut]
theorem peB_pos (t : ByteArray) (h : peB t = true) : 0 < t.size := by
  obtain ⟨h1, _, n, hn, _, hall⟩ := engOk_parts _ h
  refine Nat.pos_of_ne_zero fun e => ?_
  have ht : t.data.toList = [] := by
    have : t.data.toList.length = 0 := by simpa using e
    exact List.eq_nil_of_length_eq_zero this
  have hc : cutB 32 t = [⟨#[]⟩] := by
    unfold cutB
    rw [ht]
    rfl
  have h0 : (0 : Nat) = n := (hall ⟨#[]⟩ (by rw [hc]; simp)).2
  omega
theorem peL_len (t : ByteArray) : (peL t).length ≤ 1048576 := by
  cases h : peB t
  · rw [peL_no t h]; simp
  · rw [peL_yes t h]
    have := (engOk_parts _ h).2.1
    omega
/-- The text of an engine is parsed as the engine. -/
theorem pe_text (cs : List ByteArray) (h : engOk cs = true) : peB (feB cs) = true ∧ peL (feB cs) = cs := by
  have e := cut_text cs h (feB cs) (by rw [feB_yes cs h])
  have hb : peB (feB cs) = true := by unfold peB; rw [e]; exact h
  exact ⟨hb, by rw [peL_yes _ hb, e]⟩
theorem feB_pos (cs : List ByteArray) (h : engOk cs = true) : 0 < (feB cs).size := peB_pos _ (pe_text cs h).1
end Go.Proofs.YtffmhcahiabicaaDoor
namespace Go.Proofs.YtffmhcahiabicaaDoor
set_option maxRecDepth 4000
set_option linter.unusedVariables false
open Go.RowKit
set_option maxHeartbeats 1000000 in
theorem sFormatEngine_any (v : Value) (cs : List ByteArray) (w : World) (lo hi : Nat) (hv : LiesS w lo hi v cs) (hm : ∀ c ∈ cs, c.size ≤ 9223372036854775807) : Calls Tryd.prog 17 #[.agg #[v]] w (Gives (.string (feB cs)) w) := by
  cases hk : engOk cs
  · have HV := hidH (fun W (h : LiesS W lo hi v cs) => sEngValid_is false v cs hk W lo hi h hm)
    have HX := hidH (feB_no cs hk)
    have HL := hidH hv
    have SZ := hidH (eng_size v)
    have BB := hidH (bMore (Below.refl w.heap.size w) (.cells #[v] 26))
    have E1 := hidH (EngAt.fresh w v)
    obtain ⟨a, cap, rfl⟩ := hv.some
    clear hv hm hk
    go_enter Tryd.func17, Tryd.ntmps17
    go_wp2_with (refine wpList_load_row rfl 26 _ rfl w.heap.size rfl 26 _ (0, 0) _ E1.out Tryd.underlying26 rfl SZ.out ?_)
    refine (HV.out _ (HL.out.below BB.out)).mono ?_; rintro e w1 ⟨rfl, hb⟩
    have HB := hidH (bThen BB.out hb)
    clear hb
    go_wp2
    go_ret
    rw [HX.out]
    exact ⟨rfl, HB.out⟩
  · have HV := hidH (fun W (h : LiesS W lo hi v cs) => sEngValid_is true v cs hk W lo hi h hm)
    have HX := hidH (feB_yes cs hk)
    have HL := hidH hv
    have SZ := hidH (eng_size v)
    have BB := hidH (bMore (Below.refl w.heap.size w) (.cells #[v] 26))
    have E1 := hidH (EngAt.fresh w v)
    obtain ⟨h1, h7, n0, _, hn12, hall⟩ := engOk_parts cs hk
    have HSM := hidH (fun k => engT_len (cs.take k) 12 (fun c hc => by have := (hall c (List.mem_of_mem_take hc)).2; omega))
    have HSZ := hidH (fun c (hc : c ∈ cs) => show c.size ≤ 12 by have := (hall c hc).2; omega)
    have HTK := hidH (fun k x (h : cs[k]? = some x) => engT_take cs k x h)
    obtain ⟨b, off, cap, rfl, hlc, hcm, hlo, hhi, hbw, hcell⟩ := hv.addr (by omega)
    have HC := hidH hcell
    unfold maxLen at hcm
    clear hv hm hk hcell hall
    go_enter Tryd.func17, Tryd.ntmps17
    go_wp2_with (refine wpList_load_row rfl 26 _ rfl w.heap.size rfl 26 _ (0, 0) _ E1.out Tryd.underlying26 rfl SZ.out ?_)
    refine (HV.out _ (HL.out.below BB.out)).mono ?_; rintro e w1 ⟨rfl, hb⟩
    have F1 := hidH (E1.out.below hb)
    have HB := hidH (bThen BB.out hb)
    clear hb
    go_wp2
    go_loopw [3, 4] (fun o i wr => ∃ k : Nat, k ≤ cs.length ∧ i = .int .i64 k ∧ o = .string ⟨(engT (cs.take k)).toArray⟩ ∧ Below w1.heap.size w1 wr) (fun _ i _ => cs.length - (intOf i).toNat)
    case atStart => exact ⟨0, Nat.zero_le _, rfl, rfl, Below.refl _ _⟩
    case round =>
      obtain ⟨k, hk, rfl, rfl, hb⟩ := hrel
      have HR := hidH hb
      have HBR := hidH (bThen HB.out hb)
      have cA := (F1.out.below hb).cell
      clear hb
      by_cases hlt : k < cs.length
      · obtain ⟨x, hx⟩ := get_lt cs k hlt
        have hcw : wr.cell? ⟨b, off + k, none⟩ = some (.string x) := by rw [HBR.out.cell (p := ⟨b, off + k, none⟩) hbw]; exact HC.out k x hx
        have HE := hidH (HTK.out k x hx)
        have hl : (engT (cs.take k)).length ≤ 91 := by
          have := HSM.out k
          rw [List.length_take] at this
          omega
        have hl2 := HSZ.out x (List.mem_of_getElem? hx)
        clear hx
        by_cases h0 : 0 < k
        · rw [if_pos h0] at HE
          generalize engT (cs.take k) = t at *
          go_wp2
          go_roundw
          case rel =>
            refine ⟨k + 1, by omega, by go_num, ?_, HR.out⟩
            rw [HE.out, bytes_append, bytes_append]
            simp
          case measure => simp [intOf]; omega
        · rw [if_neg h0] at HE
          generalize engT (cs.take k) = t at *
          go_wp2
          go_roundw
          case rel =>
            refine ⟨k + 1, by omega, by go_num, ?_, HR.out⟩
            rw [HE.out, bytes_append]
            simp
          case measure => simp [intOf]; omega
      · obtain rfl : k = cs.length := by omega
        go_wp2
        go_ret
        rw [HX.out, List.take_length]
        exact ⟨rfl, HBR.out⟩
theorem formatEngine_any (v : Value) (cs : List ByteArray) (w : World) (lo hi : Nat) (hv : LiesS w lo hi v cs) (hm : ∀ c ∈ cs, c.size ≤ 9223372036854775807) : Calls Tryd.prog 18 #[.agg #[v]] w (Gives (.string (feB cs)) w) := by
  cases hk : engOk cs
  · have HV := hidH (fun W (h : LiesS W lo hi v cs) => engValid_is false v cs hk W lo hi h hm)
    have HX := hidH (feB_no cs hk)
    have HL := hidH hv
    have SZ := hidH (eng_size v)
    have BB := hidH (bMore (Below.refl w.heap.size w) (.cells #[v] 26))
    have E1 := hidH (EngAt.fresh w v)
    obtain ⟨a, cap, rfl⟩ := hv.some
    clear hv hm hk
    go_enter Tryd.func18, Tryd.ntmps18
    go_wp2_with (refine wpList_load_row rfl 26 _ rfl w.heap.size rfl 26 _ (0, 0) _ E1.out Tryd.underlying26 rfl SZ.out ?_)
    refine (HV.out _ (HL.out.below BB.out)).mono ?_; rintro e w1 ⟨rfl, hb⟩
    have HB := hidH (bThen BB.out hb)
    clear hb
    go_wp2
    go_ret
    rw [HX.out]
    exact ⟨rfl, HB.out⟩
  · have HV := hidH (fun W (h : LiesS W lo hi v cs) => engValid_is true v cs hk W lo hi h hm)
    have HX := hidH (feB_yes cs hk)
    have HL := hidH hv
    have SZ := hidH (eng_size v)
    have BB := hidH (bMore (Below.refl w.heap.size w) (.cells #[v] 26))
    have E1 := hidH (EngAt.fresh w v)
    have hsm := engT_small cs hk
    have h7 := (engOk_parts cs hk).2.1
    have HJ := hidH (fun W (h : LiesS W lo hi v cs) => join_any cs ⟨#[32]⟩ v W lo hi h (by show (engT cs).length ≤ _; omega) (by omega))
    rw [engT_join] at HJ
    obtain ⟨a, cap, rfl⟩ := hv.some
    clear hv hm hk hsm
    go_enter Tryd.func18, Tryd.ntmps18
    go_wp2_with (refine wpList_load_row rfl 26 _ rfl w.heap.size rfl 26 _ (0, 0) _ E1.out Tryd.underlying26 rfl SZ.out ?_)
    refine (HV.out _ (HL.out.below BB.out)).mono ?_; rintro e w1 ⟨rfl, hb⟩
    have F1 := hidH (E1.out.below hb)
    have HB := hidH (bThen BB.out hb)
    clear hb
    have cA := F1.out.cell
    go_wp2_with fail
    refine (HJ.out _ (HL.out.below HB.out)).mono ?_; rintro e w2 ⟨rfl, hb⟩
    have HB2 := hidH (bThen HB.out hb)
    clear hb
    go_wp2
    go_ret
    rw [HX.out]
    exact ⟨rfl, HB2.out⟩
end Go.Proofs.YtffmhcahiabicaaDoor
