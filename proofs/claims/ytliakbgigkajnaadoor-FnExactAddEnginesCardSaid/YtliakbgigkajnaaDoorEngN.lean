/-
  AddEngines of the model, at all lists of texts. Condition: texts that fit in memory.
-/
import Derived.Test.YtliakbgigkajnaaDoorEngM
import Derived.Test.YtliakbgigkajnaaDoorEngE
namespace Go.Proofs.YtliakbgigkajnaaDoor
set_option maxRecDepth 4000
set_option linter.unusedVariables false
open Go.RowKit
theorem offH {P : Program} {md : Region.Mode} {ops : Array Oper} {Q : Exit → Act → World → Prop} {S : World → Prop} (i : Nat) (d : Option Tmp) {fuel : Nat} {listed : Array Bool} {a : Act} {w : World}
    (hs : Region.noSelect ops = true) (hf : Region.free md ops listed i = true) (hr : (Region.ready md ops listed).contains i = true)
    (hQ : ∀ c (a : Act) w, Q (.panic c) (a.put d undef) w → Q (.panic c) a w) (hd : ops[i]?.map (fun o => (o.dst, Region.wanted o (yielded ops a.tmps))) = some (d, false)) (hS : S w)
    (h : wpAnyH P md ops Q S fuel (listed.setIfInBounds i true) (a.put d undef) w) : wpAnyH P md ops Q S (fuel + 1) listed a w := by
  cases ho : ops[i]? with
  | none => rw [ho] at hd; cases hd
  | some o =>
    rw [ho] at hd
    have h1 := Option.some.inj hd
    have h2 : o.dst = d := congrArg Prod.fst h1
    have h3 : Region.wanted o (yielded ops a.tmps) = false := congrArg Prod.snd h1
    subst h2
    exact wpAnyH_take ho hs hf hr hQ (Or.inr ⟨h3, rfl⟩) hS h
theorem onH {P : Program} {md : Region.Mode} {ops : Array Oper} {Q : Exit → Act → World → Prop} {S : World → Prop} (i : Nat) (d : Option Tmp) {v : Value} {fuel : Nat} {listed : Array Bool} {a : Act} {w : World}
    (hs : Region.noSelect ops = true) (hf : Region.free md ops listed i = true) (hr : (Region.ready md ops listed).contains i = true)
    (hQ : ∀ c (a : Act) w, Q (.panic c) (a.put d v) w → Q (.panic c) a w) (hd : ops[i]?.map (fun o => (o.dst, Region.wanted o (yielded ops a.tmps))) = some (d, true)) (hS : S w)
    (hy : ∀ o, ops[i]? = some o → ∀ w, S w → (execOp a.eval o).run P w = .ok (.value v) w)
    (h : wpAnyH P md ops Q S fuel (listed.setIfInBounds i true) (a.put d v) w) : wpAnyH P md ops Q S (fuel + 1) listed a w := by
  cases ho : ops[i]? with
  | none => rw [ho] at hd; cases hd
  | some o =>
    rw [ho] at hd
    have h1 := Option.some.inj hd
    have h2 : o.dst = d := congrArg Prod.fst h1
    have h3 : Region.wanted o (yielded ops a.tmps) = true := congrArg Prod.snd h1
    subst h2
    exact wpAnyH_take ho hs hf hr hQ (Or.inl ⟨h3, hy o ho⟩) hS h
theorem callH {P : Program} {md : Region.Mode} {ops : Array Oper} {Q : Exit → Act → World → Prop} {S : World → Prop} (i : Nat) {fuel : Nat} {listed : Array Bool} {a : Act} {w : World}
    (hr : Region.ready md ops listed = [i])
    (h : ∀ o, ops[i]? = some o → ∀ K' : Act → World → Prop, Shut (∀ a w, S w → (S w → wpAnyH P md ops Q S fuel (listed.setIfInBounds i true) a w) → K' a w) → if Region.wanted o (yielded ops a.tmps) = true then Oper.wp P o a w K' Q else K' (a.put o.dst undef) w) : wpAnyH P md ops Q S (fuel + 1) listed a w := by
  have hm : i ∈ Region.ready md ops listed := by rw [hr]; exact List.mem_singleton.2 rfl
  obtain ⟨_, o, ho, _⟩ := mem_ready.1 hm
  exact wpAnyH_ready hr (by simp) (AllReadyH.cons ho (h o ho) AllReadyH.nil)
theorem callH2 {P : Program} {md : Region.Mode} {ops : Array Oper} {Q : Exit → Act → World → Prop} {S : World → Prop} (i j : Nat) {fuel : Nat} {listed : Array Bool} {a : Act} {w : World}
    (hr : Region.ready md ops listed = [i, j])
    (h1 : ∀ o, ops[i]? = some o → ∀ K' : Act → World → Prop, Shut (∀ a w, S w → (S w → wpAnyH P md ops Q S fuel (listed.setIfInBounds i true) a w) → K' a w) → if Region.wanted o (yielded ops a.tmps) = true then Oper.wp P o a w K' Q else K' (a.put o.dst undef) w)
    (h2 : ∀ o, ops[j]? = some o → ∀ K' : Act → World → Prop, Shut (∀ a w, S w → (S w → wpAnyH P md ops Q S fuel (listed.setIfInBounds j true) a w) → K' a w) → if Region.wanted o (yielded ops a.tmps) = true then Oper.wp P o a w K' Q else K' (a.put o.dst undef) w) : wpAnyH P md ops Q S (fuel + 1) listed a w := by
  have m1 : i ∈ Region.ready md ops listed := by rw [hr]; simp
  have m2 : j ∈ Region.ready md ops listed := by rw [hr]; simp
  obtain ⟨_, o1, ho1, _⟩ := mem_ready.1 m1
  obtain ⟨_, o2, ho2, _⟩ := mem_ready.1 m2
  exact wpAnyH_ready hr (by simp) (AllReadyH.cons ho1 (h1 o1 ho1) (AllReadyH.cons ho2 (h2 o2 ho2) AllReadyH.nil))
theorem addR_no (a b : ByteArray) (h : a.size ≠ b.size) : (addR a b).2 = false := by
  have hp : pair a b = false := by
    cases hq : pair a b
    · rfl
    · exact absurd ((pair_iff a b).1 hq).2.2 h
  rw [addR, hp]; rfl
theorem addR_yes (a b : ByteArray) (ha : ok a = true) (hb : ok b = true) (h : a.size = b.size) : addR a b = (sumS a b, true) := by
  rw [addR, (pair_iff a b).2 ⟨ha, hb, h⟩]; rfl
theorem add_heads (xs ys : List ByteArray) (hx : 1 ≤ xs.length) (hl : xs.length = ys.length) (h : (xs.headD ⟨#[]⟩).size ≠ (ys.headD ⟨#[]⟩).size) : allA (addC xs ys) xs.length = false :=
  allA_no _ _ 0 (by omega) (by
    rw [addC_is xs ys 0 _ _ (head_at xs (by omega)) (head_at ys (by omega))]
    exact addR_no _ _ h)
theorem add_sums (xs ys : List ByteArray) (n : Nat) (hx : ∀ c ∈ xs, colN n c) (hy : ∀ c ∈ ys, colN n c) (hl : xs.length = ys.length) (i : Nat) (a b : ByteArray) (ha : xs[i]? = some a) (hb : ys[i]? = some b) : addC xs ys i = (sumS a b, true) := by
  have h1 := hx a (List.mem_of_getElem? ha)
  have h2 := hy b (List.mem_of_getElem? hb)
  rw [addC_is xs ys i a b ha hb, addR_yes a b h1.1 h2.1 (by rw [h1.2, h2.2])]
theorem add_all (xs ys : List ByteArray) (n : Nat) (hx : ∀ c ∈ xs, colN n c) (hy : ∀ c ∈ ys, colN n c) (hl : xs.length = ys.length) : allA (addC xs ys) xs.length = true :=
  allA_yes _ _ fun j hj => by
    obtain ⟨a, ha⟩ := get_lt xs j hj
    obtain ⟨b, hb⟩ := get_lt ys j (by omega)
    rw [add_sums xs ys n hx hy hl j a b ha hb]
theorem head_n (xs : List ByteArray) (n : Nat) (hx : ∀ c ∈ xs, ok c = true ∧ c.size = n) (h : 1 ≤ xs.length) : (xs.headD ⟨#[]⟩).size = n := (hx _ (List.mem_of_getElem? (head_at xs (by omega)))).2
set_option maxHeartbeats 4000000 in
theorem sAdd1_any (u v : Value) (xs ys : List ByteArray) (w : World) (lo hi lo2 hi2 : Nat) (hu : LiesS w lo hi u xs) (hv : LiesS w lo2 hi2 v ys) (hma : ∀ c ∈ xs, c.size ≤ 9223372036854775807) (hmb : ∀ c ∈ ys, c.size ≤ 9223372036854775807) (hka : engOk xs = false) : Calls Tryd.prog 25 #[.agg #[u], .agg #[v]] w (NewEngB [] false w) := by
  have HLA := hidH hu
  have HLB := hidH hv
  have ⟨t1, t2, t3, t4, t5⟩ := three_boxes w u v
  have BB := hidH t1
  have E1 := hidH t2
  have E2 := hidH t3
  have E3 := hidH t4
  have S3 := hidH t5
  have cA := t2.cell
  have cB := t3.cell
  have SZ0 := hidH (eng_size (.slice none 0 0))
  have HV := hidH (fun W (h : LiesS W lo hi u xs) => sEngValid_is false u xs hka W lo hi h hma)
  obtain ⟨a, cap, rfl⟩ := hu.some
  obtain ⟨a2, cap2, rfl⟩ := hv.some
  clear hu hv hma hmb hka t1 t2 t3 t4 t5
  go_enter Tryd.func25, Tryd.ntmps25
  go_wp2_with fail
  refine wp_region_held_drew (S := fun w' => w'.cell? ⟨w.heap.size, 0, none⟩ = some (.slice a xs.length cap) ∧ w'.cell? ⟨w.heap.size + 1, 0, none⟩ = some (.slice a2 ys.length cap2)) (by kernel_rfl) ⟨cA, cB⟩ (fun hHeld => ?_)
  try dsimp only
  refine onH 0 (some 8) (v := ?v0) (by kernel_rfl) (by kernel_rfl) (by kernel_rfl) (fun _ _ _ h => h) (by rfl) hHeld ?hy0 ?rest0
  case hy0 =>
    intro o ho; simp only [List.getElem?_toArray, List.getElem?_cons_zero, Option.some.injEq] at ho; subst ho; intro w hSw; (try dsimp only at hSw)
    go_simp
    try with_reducible rfl
  case rest0 =>
  try simp only [Act.put, List.setIfInBounds_toArray, List.set_cons_zero, List.set_cons_succ]
  refine callH 1 (by kernel_rfl) ?_
  intro o ho; simp only [List.getElem?_toArray, List.getElem?_cons_succ, List.getElem?_cons_zero, Option.some.injEq] at ho; subst ho; intro K hK
  go_simp
  go_at_call 10
  (with_reducible refine (HV.out _ (HLA.out.below BB.out.drew)).mono ?_)
  rintro e w1 ⟨rfl, hb⟩
  (have HBD := hidH (bDrew' hb)); (have HB1 := hidH (bThen BB.out HBD.out)); (have F1 := hidH (E1.out.below HBD.out)); (have F2 := hidH (E2.out.below HBD.out)); (have F3 := hidH (E3.out.below HBD.out)); (have hs1 := HBD.out.size); (rw [S3.out] at hs1); (have c1A := F1.out.cell); (have c1B := F2.out.cell); clear hb HBD hHeld
  go_wp2_with fail
  refine hK.out _ _ ?_ (fun hHeld => ?_)
  · exact ⟨c1A, c1B⟩
  clear hK K
  try simp only [Act.put, List.setIfInBounds_toArray, List.set_cons_zero, List.set_cons_succ]
  refine onH 2 (some 10) (v := ?v2) (by kernel_rfl) (by kernel_rfl) (by kernel_rfl) (fun _ _ _ h => h) (by rfl) hHeld ?hy2 ?rest2
  case hy2 =>
    intro o ho; simp only [List.getElem?_toArray, List.getElem?_cons_succ, List.getElem?_cons_zero, Option.some.injEq] at ho; subst ho; intro w hSw; (try dsimp only at hSw)
    go_simp
    try with_reducible rfl
  case rest2 =>
  try simp only [Act.put, List.setIfInBounds_toArray, List.set_cons_zero, List.set_cons_succ]
  refine onH 3 (some 11) (v := ?v3) (by kernel_rfl) (by kernel_rfl) (by kernel_rfl) (fun _ _ _ h => h) (by rfl) hHeld ?hy3 ?rest3
  case hy3 =>
    intro o ho; simp only [List.getElem?_toArray, List.getElem?_cons_succ, List.getElem?_cons_zero, Option.some.injEq] at ho; subst ho; intro w hSw; (try dsimp only at hSw)
    go_simp
    try with_reducible rfl
  case rest3 =>
  try simp only [Act.put, List.setIfInBounds_toArray, List.set_cons_zero, List.set_cons_succ]
  refine offH 4 (some 12) (by kernel_rfl) (by kernel_rfl) (by kernel_rfl) (fun _ _ _ h => h) (by rfl) hHeld ?_
  try simp only [Act.put, List.setIfInBounds_toArray, List.set_cons_zero, List.set_cons_succ]
  refine offH 5 (some 13) (by kernel_rfl) (by kernel_rfl) (by kernel_rfl) (fun _ _ _ h => h) (by rfl) hHeld ?_
  try simp only [Act.put, List.setIfInBounds_toArray, List.set_cons_zero, List.set_cons_succ]
  refine offH 6 (some 14) (by kernel_rfl) (by kernel_rfl) (by kernel_rfl) (fun _ _ _ h => h) (by rfl) hHeld ?_
  try simp only [Act.put, List.setIfInBounds_toArray, List.set_cons_zero, List.set_cons_succ]
  refine onH 7 (some 15) (v := ?v7) (by kernel_rfl) (by kernel_rfl) (by kernel_rfl) (fun _ _ _ h => h) (by rfl) hHeld ?hy7 ?rest7
  case hy7 =>
    intro o ho; simp only [List.getElem?_toArray, List.getElem?_cons_succ, List.getElem?_cons_zero, Option.some.injEq] at ho; subst ho; intro w hSw; (try dsimp only at hSw)
    go_simp
    try with_reducible rfl
  case rest7 =>
  try simp only [Act.put, List.setIfInBounds_toArray, List.set_cons_zero, List.set_cons_succ]
  refine onH 8 (some 16) (v := ?v8) (by kernel_rfl) (by kernel_rfl) (by kernel_rfl) (fun _ _ _ h => h) (by rfl) hHeld ?hy8 ?rest8
  case hy8 =>
    intro o ho; simp only [List.getElem?_toArray, List.getElem?_cons_succ, List.getElem?_cons_zero, Option.some.injEq] at ho; subst ho; intro w hSw; (try dsimp only at hSw)
    go_simp
    try with_reducible rfl
  case rest8 =>
  try simp only [Act.put, List.setIfInBounds_toArray, List.set_cons_zero, List.set_cons_succ]
  refine offH 9 (some 17) (by kernel_rfl) (by kernel_rfl) (by kernel_rfl) (fun _ _ _ h => h) (by rfl) hHeld ?_
  try simp only [Act.put, List.setIfInBounds_toArray, List.set_cons_zero, List.set_cons_succ]
  refine offH 10 (some 18) (by kernel_rfl) (by kernel_rfl) (by kernel_rfl) (fun _ _ _ h => h) (by rfl) hHeld ?_
  try simp only [Act.put, List.setIfInBounds_toArray, List.set_cons_zero, List.set_cons_succ]
  refine offH 11 (some 19) (by kernel_rfl) (by kernel_rfl) (by kernel_rfl) (fun _ _ _ h => h) (by rfl) hHeld ?_
  try simp only [Act.put, List.setIfInBounds_toArray, List.set_cons_zero, List.set_cons_succ]
  refine offH 12 (some 20) (by kernel_rfl) (by kernel_rfl) (by kernel_rfl) (fun _ _ _ h => h) (by rfl) hHeld ?_
  try simp only [Act.put, List.setIfInBounds_toArray, List.set_cons_zero, List.set_cons_succ]
  refine offH 13 (some 21) (by kernel_rfl) (by kernel_rfl) (by kernel_rfl) (fun _ _ _ h => h) (by rfl) hHeld ?_
  try simp only [Act.put, List.setIfInBounds_toArray, List.set_cons_zero, List.set_cons_succ]
  refine offH 14 (some 22) (by kernel_rfl) (by kernel_rfl) (by kernel_rfl) (fun _ _ _ h => h) (by rfl) hHeld ?_
  try simp only [Act.put, List.setIfInBounds_toArray, List.set_cons_zero, List.set_cons_succ]
  refine offH 15 (some 23) (by kernel_rfl) (by kernel_rfl) (by kernel_rfl) (fun _ _ _ h => h) (by rfl) hHeld ?_
  try simp only [Act.put, List.setIfInBounds_toArray, List.set_cons_zero, List.set_cons_succ]
  refine onH 16 (some 24) (v := ?v16) (by kernel_rfl) (by kernel_rfl) (by kernel_rfl) (fun _ _ _ h => h) (by rfl) hHeld ?hy16 ?rest16
  case hy16 =>
    intro o ho; simp only [List.getElem?_toArray, List.getElem?_cons_succ, List.getElem?_cons_zero, Option.some.injEq] at ho; subst ho; intro w hSw; (try dsimp only at hSw)
    go_simp
    try with_reducible rfl
  case rest16 =>
  try simp only [Act.put, List.setIfInBounds_toArray, List.set_cons_zero, List.set_cons_succ]
  refine onH 17 (some 25) (v := ?v17) (by kernel_rfl) (by kernel_rfl) (by kernel_rfl) (fun _ _ _ h => h) (by rfl) hHeld ?hy17 ?rest17
  case hy17 =>
    intro o ho; simp only [List.getElem?_toArray, List.getElem?_cons_succ, List.getElem?_cons_zero, Option.some.injEq] at ho; subst ho; intro w hSw; (try dsimp only at hSw)
    go_simp
    try with_reducible rfl
  case rest17 =>
  try simp only [Act.put, List.setIfInBounds_toArray, List.set_cons_zero, List.set_cons_succ]
  refine offH 18 (some 26) (by kernel_rfl) (by kernel_rfl) (by kernel_rfl) (fun _ _ _ h => h) (by rfl) hHeld ?_
  try simp only [Act.put, List.setIfInBounds_toArray, List.set_cons_zero, List.set_cons_succ]
  refine offH 19 (some 27) (by kernel_rfl) (by kernel_rfl) (by kernel_rfl) (fun _ _ _ h => h) (by rfl) hHeld ?_
  try simp only [Act.put, List.setIfInBounds_toArray, List.set_cons_zero, List.set_cons_succ]
  refine offH 20 (some 28) (by kernel_rfl) (by kernel_rfl) (by kernel_rfl) (fun _ _ _ h => h) (by rfl) hHeld ?_
  try simp only [Act.put, List.setIfInBounds_toArray, List.set_cons_zero, List.set_cons_succ]
  refine offH 21 (some 29) (by kernel_rfl) (by kernel_rfl) (by kernel_rfl) (fun _ _ _ h => h) (by rfl) hHeld ?_
  try simp only [Act.put, List.setIfInBounds_toArray, List.set_cons_zero, List.set_cons_succ]
  refine offH 22 (some 30) (by kernel_rfl) (by kernel_rfl) (by kernel_rfl) (fun _ _ _ h => h) (by rfl) hHeld ?_
  try simp only [Act.put, List.setIfInBounds_toArray, List.set_cons_zero, List.set_cons_succ]
  refine offH 23 (some 31) (by kernel_rfl) (by kernel_rfl) (by kernel_rfl) (fun _ _ _ h => h) (by rfl) hHeld ?_
  try simp only [Act.put, List.setIfInBounds_toArray, List.set_cons_zero, List.set_cons_succ]
  refine offH 24 (some 32) (by kernel_rfl) (by kernel_rfl) (by kernel_rfl) (fun _ _ _ h => h) (by rfl) hHeld ?_
  try simp only [Act.put, List.setIfInBounds_toArray, List.set_cons_zero, List.set_cons_succ]
  refine offH 25 (some 33) (by kernel_rfl) (by kernel_rfl) (by kernel_rfl) (fun _ _ _ h => h) (by rfl) hHeld ?_
  try simp only [Act.put, List.setIfInBounds_toArray, List.set_cons_zero, List.set_cons_succ]
  refine offH 26 (some 34) (by kernel_rfl) (by kernel_rfl) (by kernel_rfl) (fun _ _ _ h => h) (by rfl) hHeld ?_
  try simp only [Act.put, List.setIfInBounds_toArray, List.set_cons_zero, List.set_cons_succ]
  refine offH 27 (some 35) (by kernel_rfl) (by kernel_rfl) (by kernel_rfl) (fun _ _ _ h => h) (by rfl) hHeld ?_
  try simp only [Act.put, List.setIfInBounds_toArray, List.set_cons_zero, List.set_cons_succ]
  refine offH 28 (some 36) (by kernel_rfl) (by kernel_rfl) (by kernel_rfl) (fun _ _ _ h => h) (by rfl) hHeld ?_
  try simp only [Act.put, List.setIfInBounds_toArray, List.set_cons_zero, List.set_cons_succ]
  refine onH 29 (some 37) (v := ?v29) (by kernel_rfl) (by kernel_rfl) (by kernel_rfl) (fun _ _ _ h => h) (by rfl) hHeld ?hy29 ?rest29
  case hy29 =>
    intro o ho; simp only [List.getElem?_toArray, List.getElem?_cons_succ, List.getElem?_cons_zero, Option.some.injEq] at ho; subst ho; intro w hSw; (try dsimp only at hSw)
    go_simp
    try with_reducible rfl
  case rest29 =>
  try simp only [Act.put, List.setIfInBounds_toArray, List.set_cons_zero, List.set_cons_succ]
  refine wpAnyH_done (by kernel_rfl) ?_ _
  clear cA cB
  go_wp2_with (refine wpList_store_row rfl 27 _ _ rfl (w.heap.size + 1 + 1) #[.slice none 0 0] rfl rfl 27 _ F3.out SZ0.out rfl nil_one ?_)
  refine bodyPost_ret (results_engB Tryd.results25 _ _ (w.heap.size + 1 + 1) _ (.bool false) rfl rfl (F3.out.setRow _)) rfl ?_
  exact ⟨_, rfl, RowS.nil _ _ _ _ _ (Nat.zero_le _) (fun _ => rfl), bRow HB1.out (by omega) _⟩
set_option maxHeartbeats 4000000 in
theorem sAdd2_any (u v : Value) (xs ys : List ByteArray) (w : World) (lo hi lo2 hi2 : Nat) (hu : LiesS w lo hi u xs) (hv : LiesS w lo2 hi2 v ys) (hma : ∀ c ∈ xs, c.size ≤ 9223372036854775807) (hmb : ∀ c ∈ ys, c.size ≤ 9223372036854775807) (hka : engOk xs = true) (hkb : engOk ys = false) : Calls Tryd.prog 25 #[.agg #[u], .agg #[v]] w (NewEngB [] false w) := by
  have HLA := hidH hu
  have HLB := hidH hv
  have ⟨t1, t2, t3, t4, t5⟩ := three_boxes w u v
  have BB := hidH t1
  have E1 := hidH t2
  have E2 := hidH t3
  have E3 := hidH t4
  have S3 := hidH t5
  have cA := t2.cell
  have cB := t3.cell
  have SZ0 := hidH (eng_size (.slice none 0 0))
  have HV := hidH (fun W (h : LiesS W lo hi u xs) => sEngValid_is true u xs hka W lo hi h hma)
  have HV2 := hidH (fun W (h : LiesS W lo2 hi2 v ys) => sEngValid_is false v ys hkb W lo2 hi2 h hmb)
  obtain ⟨a, cap, rfl⟩ := hu.some
  obtain ⟨a2, cap2, rfl⟩ := hv.some
  clear hu hv hma hmb hka hkb t1 t2 t3 t4 t5
  go_enter Tryd.func25, Tryd.ntmps25
  go_wp2_with fail
  refine wp_region_held_drew (S := fun w' => w'.cell? ⟨w.heap.size, 0, none⟩ = some (.slice a xs.length cap) ∧ w'.cell? ⟨w.heap.size + 1, 0, none⟩ = some (.slice a2 ys.length cap2)) (by kernel_rfl) ⟨cA, cB⟩ (fun hHeld => ?_)
  try dsimp only
  refine onH 0 (some 8) (v := ?v0) (by kernel_rfl) (by kernel_rfl) (by kernel_rfl) (fun _ _ _ h => h) (by rfl) hHeld ?hy0 ?rest0
  case hy0 =>
    intro o ho; simp only [List.getElem?_toArray, List.getElem?_cons_zero, Option.some.injEq] at ho; subst ho; intro w hSw; (try dsimp only at hSw)
    go_simp
    try with_reducible rfl
  case rest0 =>
  try simp only [Act.put, List.setIfInBounds_toArray, List.set_cons_zero, List.set_cons_succ]
  refine callH 1 (by kernel_rfl) ?_
  intro o ho; simp only [List.getElem?_toArray, List.getElem?_cons_succ, List.getElem?_cons_zero, Option.some.injEq] at ho; subst ho; intro K hK
  go_simp
  go_at_call 10
  (with_reducible refine (HV.out _ (HLA.out.below BB.out.drew)).mono ?_)
  rintro e w1 ⟨rfl, hb⟩
  (have HBD := hidH (bDrew' hb)); (have HB1 := hidH (bThen BB.out HBD.out)); (have F1 := hidH (E1.out.below HBD.out)); (have F2 := hidH (E2.out.below HBD.out)); (have F3 := hidH (E3.out.below HBD.out)); (have hs1 := HBD.out.size); (rw [S3.out] at hs1); (have c1A := F1.out.cell); (have c1B := F2.out.cell); clear hb HBD hHeld
  go_wp2_with fail
  refine hK.out _ _ ?_ (fun hHeld => ?_)
  · exact ⟨c1A, c1B⟩
  clear hK K
  try simp only [Act.put, List.setIfInBounds_toArray, List.set_cons_zero, List.set_cons_succ]
  refine onH 2 (some 10) (v := ?v2) (by kernel_rfl) (by kernel_rfl) (by kernel_rfl) (fun _ _ _ h => h) (by rfl) hHeld ?hy2 ?rest2
  case hy2 =>
    intro o ho; simp only [List.getElem?_toArray, List.getElem?_cons_succ, List.getElem?_cons_zero, Option.some.injEq] at ho; subst ho; intro w hSw; (try dsimp only at hSw)
    go_simp
    try with_reducible rfl
  case rest2 =>
  try simp only [Act.put, List.setIfInBounds_toArray, List.set_cons_zero, List.set_cons_succ]
  refine onH 3 (some 11) (v := ?v3) (by kernel_rfl) (by kernel_rfl) (by kernel_rfl) (fun _ _ _ h => h) (by rfl) hHeld ?hy3 ?rest3
  case hy3 =>
    intro o ho; simp only [List.getElem?_toArray, List.getElem?_cons_succ, List.getElem?_cons_zero, Option.some.injEq] at ho; subst ho; intro w hSw; (try dsimp only at hSw)
    go_simp
    try with_reducible rfl
  case rest3 =>
  try simp only [Act.put, List.setIfInBounds_toArray, List.set_cons_zero, List.set_cons_succ]
  refine onH 4 (some 12) (v := ?v4) (by kernel_rfl) (by kernel_rfl) (by kernel_rfl) (fun _ _ _ h => h) (by rfl) hHeld ?hy4 ?rest4
  case hy4 =>
    intro o ho; simp only [List.getElem?_toArray, List.getElem?_cons_succ, List.getElem?_cons_zero, Option.some.injEq] at ho; subst ho; intro w hSw; (try dsimp only at hSw)
    go_simp
    try with_reducible rfl
  case rest4 =>
  try simp only [Act.put, List.setIfInBounds_toArray, List.set_cons_zero, List.set_cons_succ]
  refine callH 5 (by kernel_rfl) ?_
  intro o ho; simp only [List.getElem?_toArray, List.getElem?_cons_succ, List.getElem?_cons_zero, Option.some.injEq] at ho; subst ho; intro K hK
  go_simp
  go_at_call 10
  (with_reducible refine (HV2.out _ (HLB.out.below HB1.out)).mono ?_)
  rintro e w2 ⟨rfl, hb⟩
  (have HB2 := hidH (bThen HB1.out hb)); (have K1 := hidH (F1.out.below hb)); (have K2 := hidH (F2.out.below hb)); (have K3 := hidH (F3.out.below hb)); (have hs2 := hb.size); (have c2A := K1.out.cell); (have c2B := K2.out.cell); clear hb hHeld
  go_wp2_with fail
  refine hK.out _ _ ?_ (fun hHeld => ?_)
  · exact ⟨c2A, c2B⟩
  clear hK K
  try simp only [Act.put, List.setIfInBounds_toArray, List.set_cons_zero, List.set_cons_succ]
  refine onH 6 (some 14) (v := ?v6) (by kernel_rfl) (by kernel_rfl) (by kernel_rfl) (fun _ _ _ h => h) (by rfl) hHeld ?hy6 ?rest6
  case hy6 =>
    intro o ho; simp only [List.getElem?_toArray, List.getElem?_cons_succ, List.getElem?_cons_zero, Option.some.injEq] at ho; subst ho; intro w hSw; (try dsimp only at hSw)
    go_simp
    try with_reducible rfl
  case rest6 =>
  try simp only [Act.put, List.setIfInBounds_toArray, List.set_cons_zero, List.set_cons_succ]
  refine onH 7 (some 15) (v := ?v7) (by kernel_rfl) (by kernel_rfl) (by kernel_rfl) (fun _ _ _ h => h) (by rfl) hHeld ?hy7 ?rest7
  case hy7 =>
    intro o ho; simp only [List.getElem?_toArray, List.getElem?_cons_succ, List.getElem?_cons_zero, Option.some.injEq] at ho; subst ho; intro w hSw; (try dsimp only at hSw)
    go_simp
    try with_reducible rfl
  case rest7 =>
  try simp only [Act.put, List.setIfInBounds_toArray, List.set_cons_zero, List.set_cons_succ]
  refine onH 8 (some 16) (v := ?v8) (by kernel_rfl) (by kernel_rfl) (by kernel_rfl) (fun _ _ _ h => h) (by rfl) hHeld ?hy8 ?rest8
  case hy8 =>
    intro o ho; simp only [List.getElem?_toArray, List.getElem?_cons_succ, List.getElem?_cons_zero, Option.some.injEq] at ho; subst ho; intro w hSw; (try dsimp only at hSw)
    go_simp
    try with_reducible rfl
  case rest8 =>
  try simp only [Act.put, List.setIfInBounds_toArray, List.set_cons_zero, List.set_cons_succ]
  refine offH 9 (some 17) (by kernel_rfl) (by kernel_rfl) (by kernel_rfl) (fun _ _ _ h => h) (by rfl) hHeld ?_
  try simp only [Act.put, List.setIfInBounds_toArray, List.set_cons_zero, List.set_cons_succ]
  refine offH 10 (some 18) (by kernel_rfl) (by kernel_rfl) (by kernel_rfl) (fun _ _ _ h => h) (by rfl) hHeld ?_
  try simp only [Act.put, List.setIfInBounds_toArray, List.set_cons_zero, List.set_cons_succ]
  refine offH 11 (some 19) (by kernel_rfl) (by kernel_rfl) (by kernel_rfl) (fun _ _ _ h => h) (by rfl) hHeld ?_
  try simp only [Act.put, List.setIfInBounds_toArray, List.set_cons_zero, List.set_cons_succ]
  refine offH 12 (some 20) (by kernel_rfl) (by kernel_rfl) (by kernel_rfl) (fun _ _ _ h => h) (by rfl) hHeld ?_
  try simp only [Act.put, List.setIfInBounds_toArray, List.set_cons_zero, List.set_cons_succ]
  refine offH 13 (some 21) (by kernel_rfl) (by kernel_rfl) (by kernel_rfl) (fun _ _ _ h => h) (by rfl) hHeld ?_
  try simp only [Act.put, List.setIfInBounds_toArray, List.set_cons_zero, List.set_cons_succ]
  refine offH 14 (some 22) (by kernel_rfl) (by kernel_rfl) (by kernel_rfl) (fun _ _ _ h => h) (by rfl) hHeld ?_
  try simp only [Act.put, List.setIfInBounds_toArray, List.set_cons_zero, List.set_cons_succ]
  refine offH 15 (some 23) (by kernel_rfl) (by kernel_rfl) (by kernel_rfl) (fun _ _ _ h => h) (by rfl) hHeld ?_
  try simp only [Act.put, List.setIfInBounds_toArray, List.set_cons_zero, List.set_cons_succ]
  refine onH 16 (some 24) (v := ?v16) (by kernel_rfl) (by kernel_rfl) (by kernel_rfl) (fun _ _ _ h => h) (by rfl) hHeld ?hy16 ?rest16
  case hy16 =>
    intro o ho; simp only [List.getElem?_toArray, List.getElem?_cons_succ, List.getElem?_cons_zero, Option.some.injEq] at ho; subst ho; intro w hSw; (try dsimp only at hSw)
    go_simp
    try with_reducible rfl
  case rest16 =>
  try simp only [Act.put, List.setIfInBounds_toArray, List.set_cons_zero, List.set_cons_succ]
  refine onH 17 (some 25) (v := ?v17) (by kernel_rfl) (by kernel_rfl) (by kernel_rfl) (fun _ _ _ h => h) (by rfl) hHeld ?hy17 ?rest17
  case hy17 =>
    intro o ho; simp only [List.getElem?_toArray, List.getElem?_cons_succ, List.getElem?_cons_zero, Option.some.injEq] at ho; subst ho; intro w hSw; (try dsimp only at hSw)
    go_simp
    try with_reducible rfl
  case rest17 =>
  try simp only [Act.put, List.setIfInBounds_toArray, List.set_cons_zero, List.set_cons_succ]
  refine offH 18 (some 26) (by kernel_rfl) (by kernel_rfl) (by kernel_rfl) (fun _ _ _ h => h) (by rfl) hHeld ?_
  try simp only [Act.put, List.setIfInBounds_toArray, List.set_cons_zero, List.set_cons_succ]
  refine offH 19 (some 27) (by kernel_rfl) (by kernel_rfl) (by kernel_rfl) (fun _ _ _ h => h) (by rfl) hHeld ?_
  try simp only [Act.put, List.setIfInBounds_toArray, List.set_cons_zero, List.set_cons_succ]
  refine offH 20 (some 28) (by kernel_rfl) (by kernel_rfl) (by kernel_rfl) (fun _ _ _ h => h) (by rfl) hHeld ?_
  try simp only [Act.put, List.setIfInBounds_toArray, List.set_cons_zero, List.set_cons_succ]
  refine offH 21 (some 29) (by kernel_rfl) (by kernel_rfl) (by kernel_rfl) (fun _ _ _ h => h) (by rfl) hHeld ?_
  try simp only [Act.put, List.setIfInBounds_toArray, List.set_cons_zero, List.set_cons_succ]
  refine offH 22 (some 30) (by kernel_rfl) (by kernel_rfl) (by kernel_rfl) (fun _ _ _ h => h) (by rfl) hHeld ?_
  try simp only [Act.put, List.setIfInBounds_toArray, List.set_cons_zero, List.set_cons_succ]
  refine offH 23 (some 31) (by kernel_rfl) (by kernel_rfl) (by kernel_rfl) (fun _ _ _ h => h) (by rfl) hHeld ?_
  try simp only [Act.put, List.setIfInBounds_toArray, List.set_cons_zero, List.set_cons_succ]
  refine offH 24 (some 32) (by kernel_rfl) (by kernel_rfl) (by kernel_rfl) (fun _ _ _ h => h) (by rfl) hHeld ?_
  try simp only [Act.put, List.setIfInBounds_toArray, List.set_cons_zero, List.set_cons_succ]
  refine offH 25 (some 33) (by kernel_rfl) (by kernel_rfl) (by kernel_rfl) (fun _ _ _ h => h) (by rfl) hHeld ?_
  try simp only [Act.put, List.setIfInBounds_toArray, List.set_cons_zero, List.set_cons_succ]
  refine offH 26 (some 34) (by kernel_rfl) (by kernel_rfl) (by kernel_rfl) (fun _ _ _ h => h) (by rfl) hHeld ?_
  try simp only [Act.put, List.setIfInBounds_toArray, List.set_cons_zero, List.set_cons_succ]
  refine offH 27 (some 35) (by kernel_rfl) (by kernel_rfl) (by kernel_rfl) (fun _ _ _ h => h) (by rfl) hHeld ?_
  try simp only [Act.put, List.setIfInBounds_toArray, List.set_cons_zero, List.set_cons_succ]
  refine offH 28 (some 36) (by kernel_rfl) (by kernel_rfl) (by kernel_rfl) (fun _ _ _ h => h) (by rfl) hHeld ?_
  try simp only [Act.put, List.setIfInBounds_toArray, List.set_cons_zero, List.set_cons_succ]
  refine onH 29 (some 37) (v := ?v29) (by kernel_rfl) (by kernel_rfl) (by kernel_rfl) (fun _ _ _ h => h) (by rfl) hHeld ?hy29 ?rest29
  case hy29 =>
    intro o ho; simp only [List.getElem?_toArray, List.getElem?_cons_succ, List.getElem?_cons_zero, Option.some.injEq] at ho; subst ho; intro w hSw; (try dsimp only at hSw)
    go_simp
    try with_reducible rfl
  case rest29 =>
  try simp only [Act.put, List.setIfInBounds_toArray, List.set_cons_zero, List.set_cons_succ]
  refine wpAnyH_done (by kernel_rfl) ?_ _
  clear cA cB
  go_wp2_with (refine wpList_store_row rfl 27 _ _ rfl (w.heap.size + 1 + 1) #[.slice none 0 0] rfl rfl 27 _ K3.out SZ0.out rfl nil_one ?_)
  refine bodyPost_ret (results_engB Tryd.results25 _ _ (w.heap.size + 1 + 1) _ (.bool false) rfl rfl (K3.out.setRow _)) rfl ?_
  exact ⟨_, rfl, RowS.nil _ _ _ _ _ (Nat.zero_le _) (fun _ => rfl), bRow HB2.out (by omega) _⟩
set_option maxHeartbeats 4000000 in
theorem sAdd3_any (u v : Value) (xs ys : List ByteArray) (w : World) (lo hi lo2 hi2 : Nat) (hu : LiesS w lo hi u xs) (hv : LiesS w lo2 hi2 v ys) (hma : ∀ c ∈ xs, c.size ≤ 9223372036854775807) (hmb : ∀ c ∈ ys, c.size ≤ 9223372036854775807) (hka : engOk xs = true) (hkb : engOk ys = true) (hl : xs.length ≠ ys.length) : Calls Tryd.prog 25 #[.agg #[u], .agg #[v]] w (NewEngB [] false w) := by
  have HLA := hidH hu
  have HLB := hidH hv
  have ⟨t1, t2, t3, t4, t5⟩ := three_boxes w u v
  have BB := hidH t1
  have E1 := hidH t2
  have E2 := hidH t3
  have E3 := hidH t4
  have S3 := hidH t5
  have cA := t2.cell
  have cB := t3.cell
  have SZ0 := hidH (eng_size (.slice none 0 0))
  have HV := hidH (fun W (h : LiesS W lo hi u xs) => sEngValid_is true u xs hka W lo hi h hma)
  have HV2 := hidH (fun W (h : LiesS W lo2 hi2 v ys) => sEngValid_is true v ys hkb W lo2 hi2 h hmb)
  obtain ⟨a, cap, rfl⟩ := hu.some
  obtain ⟨a2, cap2, rfl⟩ := hv.some
  have hlb' : ((xs.length : Int) != (ys.length : Int)) = true := bne_iff_ne.2 (by omega)
  clear hu hv hma hmb hka hkb t1 t2 t3 t4 t5 hl
  go_enter Tryd.func25, Tryd.ntmps25
  go_wp2_with fail
  refine wp_region_held_drew (S := fun w' => w'.cell? ⟨w.heap.size, 0, none⟩ = some (.slice a xs.length cap) ∧ w'.cell? ⟨w.heap.size + 1, 0, none⟩ = some (.slice a2 ys.length cap2)) (by kernel_rfl) ⟨cA, cB⟩ (fun hHeld => ?_)
  try dsimp only
  refine onH 0 (some 8) (v := ?v0) (by kernel_rfl) (by kernel_rfl) (by kernel_rfl) (fun _ _ _ h => h) (by rfl) hHeld ?hy0 ?rest0
  case hy0 =>
    intro o ho; simp only [List.getElem?_toArray, List.getElem?_cons_zero, Option.some.injEq] at ho; subst ho; intro w hSw; (try dsimp only at hSw)
    go_simp
    try with_reducible rfl
  case rest0 =>
  try simp only [Act.put, List.setIfInBounds_toArray, List.set_cons_zero, List.set_cons_succ]
  refine callH 1 (by kernel_rfl) ?_
  intro o ho; simp only [List.getElem?_toArray, List.getElem?_cons_succ, List.getElem?_cons_zero, Option.some.injEq] at ho; subst ho; intro K hK
  go_simp
  go_at_call 10
  (with_reducible refine (HV.out _ (HLA.out.below BB.out.drew)).mono ?_)
  rintro e w1 ⟨rfl, hb⟩
  (have HBD := hidH (bDrew' hb)); (have HB1 := hidH (bThen BB.out HBD.out)); (have F1 := hidH (E1.out.below HBD.out)); (have F2 := hidH (E2.out.below HBD.out)); (have F3 := hidH (E3.out.below HBD.out)); (have hs1 := HBD.out.size); (rw [S3.out] at hs1); (have c1A := F1.out.cell); (have c1B := F2.out.cell); clear hb HBD hHeld
  go_wp2_with fail
  refine hK.out _ _ ?_ (fun hHeld => ?_)
  · exact ⟨c1A, c1B⟩
  clear hK K
  try simp only [Act.put, List.setIfInBounds_toArray, List.set_cons_zero, List.set_cons_succ]
  refine onH 2 (some 10) (v := ?v2) (by kernel_rfl) (by kernel_rfl) (by kernel_rfl) (fun _ _ _ h => h) (by rfl) hHeld ?hy2 ?rest2
  case hy2 =>
    intro o ho; simp only [List.getElem?_toArray, List.getElem?_cons_succ, List.getElem?_cons_zero, Option.some.injEq] at ho; subst ho; intro w hSw; (try dsimp only at hSw)
    go_simp
    try with_reducible rfl
  case rest2 =>
  try simp only [Act.put, List.setIfInBounds_toArray, List.set_cons_zero, List.set_cons_succ]
  refine onH 3 (some 11) (v := ?v3) (by kernel_rfl) (by kernel_rfl) (by kernel_rfl) (fun _ _ _ h => h) (by rfl) hHeld ?hy3 ?rest3
  case hy3 =>
    intro o ho; simp only [List.getElem?_toArray, List.getElem?_cons_succ, List.getElem?_cons_zero, Option.some.injEq] at ho; subst ho; intro w hSw; (try dsimp only at hSw)
    go_simp
    try with_reducible rfl
  case rest3 =>
  try simp only [Act.put, List.setIfInBounds_toArray, List.set_cons_zero, List.set_cons_succ]
  refine onH 4 (some 12) (v := ?v4) (by kernel_rfl) (by kernel_rfl) (by kernel_rfl) (fun _ _ _ h => h) (by rfl) hHeld ?hy4 ?rest4
  case hy4 =>
    intro o ho; simp only [List.getElem?_toArray, List.getElem?_cons_succ, List.getElem?_cons_zero, Option.some.injEq] at ho; subst ho; intro w hSw; (try dsimp only at hSw)
    go_simp
    try with_reducible rfl
  case rest4 =>
  try simp only [Act.put, List.setIfInBounds_toArray, List.set_cons_zero, List.set_cons_succ]
  refine callH 5 (by kernel_rfl) ?_
  intro o ho; simp only [List.getElem?_toArray, List.getElem?_cons_succ, List.getElem?_cons_zero, Option.some.injEq] at ho; subst ho; intro K hK
  go_simp
  go_at_call 10
  (with_reducible refine (HV2.out _ (HLB.out.below HB1.out)).mono ?_)
  rintro e w2 ⟨rfl, hb⟩
  (have HB2 := hidH (bThen HB1.out hb)); (have K1 := hidH (F1.out.below hb)); (have K2 := hidH (F2.out.below hb)); (have K3 := hidH (F3.out.below hb)); (have hs2 := hb.size); (have c2A := K1.out.cell); (have c2B := K2.out.cell); clear hb hHeld
  go_wp2_with fail
  refine hK.out _ _ ?_ (fun hHeld => ?_)
  · exact ⟨c2A, c2B⟩
  clear hK K
  try simp only [Act.put, List.setIfInBounds_toArray, List.set_cons_zero, List.set_cons_succ]
  refine onH 6 (some 14) (v := ?v6) (by kernel_rfl) (by kernel_rfl) (by kernel_rfl) (fun _ _ _ h => h) (by rfl) hHeld ?hy6 ?rest6
  case hy6 =>
    intro o ho; simp only [List.getElem?_toArray, List.getElem?_cons_succ, List.getElem?_cons_zero, Option.some.injEq] at ho; subst ho; intro w hSw; (try dsimp only at hSw)
    go_simp
    try with_reducible rfl
  case rest6 =>
  try simp only [Act.put, List.setIfInBounds_toArray, List.set_cons_zero, List.set_cons_succ]
  refine onH 7 (some 15) (v := ?v7) (by kernel_rfl) (by kernel_rfl) (by kernel_rfl) (fun _ _ _ h => h) (by rfl) hHeld ?hy7 ?rest7
  case hy7 =>
    intro o ho; simp only [List.getElem?_toArray, List.getElem?_cons_succ, List.getElem?_cons_zero, Option.some.injEq] at ho; subst ho; intro w hSw; (try dsimp only at hSw)
    go_simp
    try with_reducible rfl
  case rest7 =>
  try simp only [Act.put, List.setIfInBounds_toArray, List.set_cons_zero, List.set_cons_succ]
  refine onH 8 (some 16) (v := ?v8) (by kernel_rfl) (by kernel_rfl) (by kernel_rfl) (fun _ _ _ h => h) (by rfl) hHeld ?hy8 ?rest8
  case hy8 =>
    intro o ho; simp only [List.getElem?_toArray, List.getElem?_cons_succ, List.getElem?_cons_zero, Option.some.injEq] at ho; subst ho; intro w hSw; (try dsimp only at hSw)
    go_simp
    try with_reducible rfl
  case rest8 =>
  try simp only [Act.put, List.setIfInBounds_toArray, List.set_cons_zero, List.set_cons_succ]
  refine onH 9 (some 17) (v := ?v9) (by kernel_rfl) (by kernel_rfl) (by kernel_rfl) (fun _ _ _ h => h) (by rfl) hHeld ?hy9 ?rest9
  case hy9 =>
    intro o ho; simp only [List.getElem?_toArray, List.getElem?_cons_succ, List.getElem?_cons_zero, Option.some.injEq] at ho; subst ho; intro w hSw; (try dsimp only at hSw)
    go_simp
    try with_reducible rfl
  case rest9 =>
  try simp only [Act.put, List.setIfInBounds_toArray, List.set_cons_zero, List.set_cons_succ]
  refine onH 10 (some 18) (v := ?v10) (by kernel_rfl) (by kernel_rfl) (by kernel_rfl) (fun _ _ _ h => h) (by rfl) hHeld ?hy10 ?rest10
  case hy10 =>
    intro o ho; simp only [List.getElem?_toArray, List.getElem?_cons_succ, List.getElem?_cons_zero, Option.some.injEq] at ho; subst ho; intro w hSw; (try dsimp only at hSw)
    go_simp
    try with_reducible rfl
  case rest10 =>
  try simp only [Act.put, List.setIfInBounds_toArray, List.set_cons_zero, List.set_cons_succ]
  refine onH 11 (some 19) (v := ?v11) (by kernel_rfl) (by kernel_rfl) (by kernel_rfl) (fun _ _ _ h => h) (by rfl) hHeld ?hy11 ?rest11
  case hy11 =>
    intro o ho; simp only [List.getElem?_toArray, List.getElem?_cons_succ, List.getElem?_cons_zero, Option.some.injEq] at ho; subst ho; intro w hSw; (try dsimp only at hSw)
    go_simp
    try with_reducible rfl
  case rest11 =>
  try simp only [Act.put, List.setIfInBounds_toArray, List.set_cons_zero, List.set_cons_succ]
  refine onH 12 (some 20) (v := ?v12) (by kernel_rfl) (by kernel_rfl) (by kernel_rfl) (fun _ _ _ h => h) (by rfl) hHeld ?hy12 ?rest12
  case hy12 =>
    intro o ho; simp only [List.getElem?_toArray, List.getElem?_cons_succ, List.getElem?_cons_zero, Option.some.injEq] at ho; subst ho; intro w hSw; (try dsimp only at hSw)
    go_simp
    try with_reducible rfl
  case rest12 =>
  try simp only [Act.put, List.setIfInBounds_toArray, List.set_cons_zero, List.set_cons_succ]
  refine onH 13 (some 21) (v := ?v13) (by kernel_rfl) (by kernel_rfl) (by kernel_rfl) (fun _ _ _ h => h) (by rfl) hHeld ?hy13 ?rest13
  case hy13 =>
    intro o ho; simp only [List.getElem?_toArray, List.getElem?_cons_succ, List.getElem?_cons_zero, Option.some.injEq] at ho; subst ho; intro w hSw; (try dsimp only at hSw)
    go_simp
    try with_reducible rfl
  case rest13 =>
  try simp only [Act.put, List.setIfInBounds_toArray, List.set_cons_zero, List.set_cons_succ]
  refine onH 14 (some 22) (v := ?v14) (by kernel_rfl) (by kernel_rfl) (by kernel_rfl) (fun _ _ _ h => h) (by rfl) hHeld ?hy14 ?rest14
  case hy14 =>
    intro o ho; simp only [List.getElem?_toArray, List.getElem?_cons_succ, List.getElem?_cons_zero, Option.some.injEq] at ho; subst ho; intro w hSw; (try dsimp only at hSw)
    go_simp
    try with_reducible rfl
  case rest14 =>
  try simp only [Act.put, List.setIfInBounds_toArray, List.set_cons_zero, List.set_cons_succ]
  refine onH 15 (some 23) (v := ?v15) (by kernel_rfl) (by kernel_rfl) (by kernel_rfl) (fun _ _ _ h => h) (by rfl) hHeld ?hy15 ?rest15
  case hy15 =>
    intro o ho; simp only [List.getElem?_toArray, List.getElem?_cons_succ, List.getElem?_cons_zero, Option.some.injEq] at ho; subst ho; intro w hSw; (try dsimp only at hSw)
    go_simp
    try with_reducible rfl
  case rest15 =>
  try simp only [Act.put, List.setIfInBounds_toArray, List.set_cons_zero, List.set_cons_succ]
  refine onH 16 (some 24) (v := ?v16) (by kernel_rfl) (by kernel_rfl) (by kernel_rfl) (fun _ _ _ h => h) (by rfl) hHeld ?hy16 ?rest16
  case hy16 =>
    intro o ho; simp only [List.getElem?_toArray, List.getElem?_cons_succ, List.getElem?_cons_zero, Option.some.injEq] at ho; subst ho; intro w hSw; (try dsimp only at hSw)
    go_simp
    try with_reducible rfl
  case rest16 =>
  try simp only [Act.put, List.setIfInBounds_toArray, List.set_cons_zero, List.set_cons_succ]
  refine onH 17 (some 25) (v := ?v17) (by kernel_rfl) (by kernel_rfl) (by kernel_rfl) (fun _ _ _ h => h) (by rfl) hHeld ?hy17 ?rest17
  case hy17 =>
    intro o ho; simp only [List.getElem?_toArray, List.getElem?_cons_succ, List.getElem?_cons_zero, Option.some.injEq] at ho; subst ho; intro w hSw; (try dsimp only at hSw)
    go_simp
    try with_reducible rfl
  case rest17 =>
  try simp only [Act.put, List.setIfInBounds_toArray, List.set_cons_zero, List.set_cons_succ]
  refine offH 18 (some 26) (by kernel_rfl) (by kernel_rfl) (by kernel_rfl) (fun _ _ _ h => h) (by rfl) hHeld ?_
  try simp only [Act.put, List.setIfInBounds_toArray, List.set_cons_zero, List.set_cons_succ]
  refine offH 19 (some 27) (by kernel_rfl) (by kernel_rfl) (by kernel_rfl) (fun _ _ _ h => h) (by rfl) hHeld ?_
  try simp only [Act.put, List.setIfInBounds_toArray, List.set_cons_zero, List.set_cons_succ]
  refine offH 20 (some 28) (by kernel_rfl) (by kernel_rfl) (by kernel_rfl) (fun _ _ _ h => h) (by rfl) hHeld ?_
  try simp only [Act.put, List.setIfInBounds_toArray, List.set_cons_zero, List.set_cons_succ]
  refine offH 21 (some 29) (by kernel_rfl) (by kernel_rfl) (by kernel_rfl) (fun _ _ _ h => h) (by rfl) hHeld ?_
  try simp only [Act.put, List.setIfInBounds_toArray, List.set_cons_zero, List.set_cons_succ]
  refine offH 22 (some 30) (by kernel_rfl) (by kernel_rfl) (by kernel_rfl) (fun _ _ _ h => h) (by rfl) hHeld ?_
  try simp only [Act.put, List.setIfInBounds_toArray, List.set_cons_zero, List.set_cons_succ]
  refine offH 23 (some 31) (by kernel_rfl) (by kernel_rfl) (by kernel_rfl) (fun _ _ _ h => h) (by rfl) hHeld ?_
  try simp only [Act.put, List.setIfInBounds_toArray, List.set_cons_zero, List.set_cons_succ]
  refine offH 24 (some 32) (by kernel_rfl) (by kernel_rfl) (by kernel_rfl) (fun _ _ _ h => h) (by rfl) hHeld ?_
  try simp only [Act.put, List.setIfInBounds_toArray, List.set_cons_zero, List.set_cons_succ]
  refine offH 25 (some 33) (by kernel_rfl) (by kernel_rfl) (by kernel_rfl) (fun _ _ _ h => h) (by rfl) hHeld ?_
  try simp only [Act.put, List.setIfInBounds_toArray, List.set_cons_zero, List.set_cons_succ]
  refine offH 26 (some 34) (by kernel_rfl) (by kernel_rfl) (by kernel_rfl) (fun _ _ _ h => h) (by rfl) hHeld ?_
  try simp only [Act.put, List.setIfInBounds_toArray, List.set_cons_zero, List.set_cons_succ]
  refine offH 27 (some 35) (by kernel_rfl) (by kernel_rfl) (by kernel_rfl) (fun _ _ _ h => h) (by rfl) hHeld ?_
  try simp only [Act.put, List.setIfInBounds_toArray, List.set_cons_zero, List.set_cons_succ]
  refine offH 28 (some 36) (by kernel_rfl) (by kernel_rfl) (by kernel_rfl) (fun _ _ _ h => h) (by rfl) hHeld ?_
  try simp only [Act.put, List.setIfInBounds_toArray, List.set_cons_zero, List.set_cons_succ]
  refine onH 29 (some 37) (v := ?v29) (by kernel_rfl) (by kernel_rfl) (by kernel_rfl) (fun _ _ _ h => h) (by rfl) hHeld ?hy29 ?rest29
  case hy29 =>
    intro o ho; simp only [List.getElem?_toArray, List.getElem?_cons_succ, List.getElem?_cons_zero, Option.some.injEq] at ho; subst ho; intro w hSw; (try dsimp only at hSw)
    go_simp
    try with_reducible rfl
  case rest29 =>
  try simp only [Act.put, List.setIfInBounds_toArray, List.set_cons_zero, List.set_cons_succ]
  refine wpAnyH_done (by kernel_rfl) ?_ _
  clear cA cB
  go_wp2_with (refine wpList_store_row rfl 27 _ _ rfl (w.heap.size + 1 + 1) #[.slice none 0 0] rfl rfl 27 _ K3.out SZ0.out rfl nil_one ?_)
  refine bodyPost_ret (results_engB Tryd.results25 _ _ (w.heap.size + 1 + 1) _ (.bool false) rfl rfl (K3.out.setRow _)) rfl ?_
  exact ⟨_, rfl, RowS.nil _ _ _ _ _ (Nat.zero_le _) (fun _ => rfl), bRow HB2.out (by omega) _⟩
set_option maxHeartbeats 4000000 in
theorem sAdd4_any (u v : Value) (xs ys : List ByteArray) (w : World) (lo hi lo2 hi2 : Nat) (hu : LiesS w lo hi u xs) (hv : LiesS w lo2 hi2 v ys) (hma : ∀ c ∈ xs, c.size ≤ 9223372036854775807) (hmb : ∀ c ∈ ys, c.size ≤ 9223372036854775807) (hka : engOk xs = true) (hkb : engOk ys = true) (hl : xs.length = ys.length) (hh : (xs.headD ⟨#[]⟩).size ≠ (ys.headD ⟨#[]⟩).size) : Calls Tryd.prog 25 #[.agg #[u], .agg #[v]] w (NewEngB [] false w) := by
  have HLA := hidH hu
  have HLB := hidH hv
  have ⟨t1, t2, t3, t4, t5⟩ := three_boxes w u v
  have BB := hidH t1
  have E1 := hidH t2
  have E2 := hidH t3
  have E3 := hidH t4
  have S3 := hidH t5
  have cA := t2.cell
  have cB := t3.cell
  have SZ0 := hidH (eng_size (.slice none 0 0))
  have HV := hidH (fun W (h : LiesS W lo hi u xs) => sEngValid_is true u xs hka W lo hi h hma)
  have HV2 := hidH (fun W (h : LiesS W lo2 hi2 v ys) => sEngValid_is true v ys hkb W lo2 hi2 h hmb)
  have ⟨a1, a7, na, _, _, halla⟩ := engOk_parts xs hka
  have ⟨b1, b7, nb, _, _, hallb⟩ := engOk_parts ys hkb
  obtain ⟨ba, oa, ca, rfl, hlca, hcma, hloa, hhia, hbwa, hcella⟩ := hu.addr (by omega)
  obtain ⟨bb, ob, cb, rfl, hlcb, hcmb, hlob, hhib, hbwb, hcellb⟩ := hv.addr (by omega)
  have HCA := hidH hcella
  have HCB := hidH hcellb
  unfold maxLen at hcma hcmb
  have hlb' : ((xs.length : Int) != (ys.length : Int)) = false := by rw [hl]; exact bne_self_eq_false _
  have hxp : 0 < xs.length := by omega
  have hyp : 0 < ys.length := by omega
  have hda := hcella 0 _ (head_at xs hxp)
  have hdb := hcellb 0 _ (head_at ys hyp)
  rw [Nat.add_zero] at hda hdb
  have HDA := hidH hda
  have HDB := hidH hdb
  have hdA := (by rw [BB.out.cell (p := ⟨ba, oa, none⟩) hbwa]; exact hda : (((w.alloc (.cells #[.slice (some ⟨ba, oa, none⟩) xs.length ca] 27)).alloc (.cells #[.slice (some ⟨bb, ob, none⟩) ys.length cb] 27)).alloc (.cells #[.slice none 0 0] 27)).cell? ⟨ba, oa, none⟩ = some (.string (xs.headD ⟨#[]⟩)))
  have hdB := (by rw [BB.out.cell (p := ⟨bb, ob, none⟩) hbwb]; exact hdb : (((w.alloc (.cells #[.slice (some ⟨ba, oa, none⟩) xs.length ca] 27)).alloc (.cells #[.slice (some ⟨bb, ob, none⟩) ys.length cb] 27)).alloc (.cells #[.slice none 0 0] 27)).cell? ⟨bb, ob, none⟩ = some (.string (ys.headD ⟨#[]⟩)))
  generalize xs.headD ⟨#[]⟩ = hx at *
  generalize ys.headD ⟨#[]⟩ = hy at *
  have hsb : ((hx.size : Int) != (hy.size : Int)) = true := bne_iff_ne.2 (by omega)
  clear hu hv hma hmb hka hkb t1 t2 t3 t4 t5 hl hh hcella hcellb halla hallb hda hdb
  go_enter Tryd.func25, Tryd.ntmps25
  go_wp2_with fail
  · go_region_held3 (fun w' => w'.cell? ⟨w.heap.size, 0, none⟩ = some (.slice (some ⟨ba, oa, none⟩) xs.length ca) ∧ w'.cell? ⟨w.heap.size + 1, 0, none⟩ = some (.slice (some ⟨bb, ob, none⟩) ys.length cb) ∧ w'.cell? ⟨ba, oa, none⟩ = some (.string hx) ∧ w'.cell? ⟨bb, ob, none⟩ = some (.string hy)) (first | exact ⟨cA, cB, hdA, hdB⟩ | exact ⟨c1A, c1B, d1A, d1B⟩ | exact ⟨c2A, c2B, d2A, d2B⟩) (first | (go_at_call 10; (with_reducible refine (HV.out _ (HLA.out.below BB.out.drew)).mono ?_); rintro e w1 ⟨rfl, hb⟩; (have HBD := hidH (bDrew' hb)); (have HB1 := hidH (bThen BB.out HBD.out)); (have F1 := hidH (E1.out.below HBD.out)); (have F2 := hidH (E2.out.below HBD.out)); (have F3 := hidH (E3.out.below HBD.out)); (have hs1 := HBD.out.size); (rw [S3.out] at hs1); (have c1A := F1.out.cell); (have c1B := F2.out.cell); (have d1A : w1.cell? ⟨ba, oa, none⟩ = some (.string hx) := by rw [HB1.out.cell (p := ⟨ba, oa, none⟩) hbwa]; exact HDA.out); (have d1B : w1.cell? ⟨bb, ob, none⟩ = some (.string hy) := by rw [HB1.out.cell (p := ⟨bb, ob, none⟩) hbwb]; exact HDB.out); clear hb HBD) | (go_at_call 10; (with_reducible refine (HV2.out _ (HLB.out.below HB1.out)).mono ?_); rintro e w2 ⟨rfl, hb⟩; (have HB2 := hidH (bThen HB1.out hb)); (have K1 := hidH (F1.out.below hb)); (have K2 := hidH (F2.out.below hb)); (have K3 := hidH (F3.out.below hb)); (have hs2 := hb.size); (have c2A := K1.out.cell); (have c2B := K2.out.cell); (have d2A : w2.cell? ⟨ba, oa, none⟩ = some (.string hx) := by rw [HB2.out.cell (p := ⟨ba, oa, none⟩) hbwa]; exact HDA.out); (have d2B : w2.cell? ⟨bb, ob, none⟩ = some (.string hy) := by rw [HB2.out.cell (p := ⟨bb, ob, none⟩) hbwb]; exact HDB.out); clear hb))
    all_goals
      clear cA cB hdA hdB
      go_wp2_with (refine wpList_store_row rfl 27 _ _ rfl (w.heap.size + 1 + 1) #[.slice none 0 0] rfl rfl 27 _ K3.out SZ0.out rfl nil_one ?_)
      refine bodyPost_ret (results_engB Tryd.results25 _ _ (w.heap.size + 1 + 1) _ (.bool false) rfl rfl (K3.out.setRow _)) rfl ?_
      exact ⟨_, rfl, RowS.nil _ _ _ _ _ (Nat.zero_le _) (fun _ => rfl), bRow HB2.out (by omega) _⟩
set_option maxHeartbeats 4000000 in
theorem sAdd5_any (u v : Value) (xs ys : List ByteArray) (w : World) (lo hi lo2 hi2 : Nat) (hu : LiesS w lo hi u xs) (hv : LiesS w lo2 hi2 v ys) (hma : ∀ c ∈ xs, c.size ≤ 9223372036854775807) (hmb : ∀ c ∈ ys, c.size ≤ 9223372036854775807) (hka : engOk xs = true) (hkb : engOk ys = true) (hl : xs.length = ys.length) (hh : (xs.headD ⟨#[]⟩).size = (ys.headD ⟨#[]⟩).size) : Calls Tryd.prog 25 #[.agg #[u], .agg #[v]] w (NewEngB (listL (addC xs ys) xs.length) true w) := by
  have HLA := hidH hu
  have HLB := hidH hv
  have ⟨t1, t2, t3, t4, t5⟩ := three_boxes w u v
  have BB := hidH t1
  have E1 := hidH t2
  have E2 := hidH t3
  have E3 := hidH t4
  have S3 := hidH t5
  have cA := t2.cell
  have cB := t3.cell
  have SZ0 := hidH (eng_size (.slice none 0 0))
  have HV := hidH (fun W (h : LiesS W lo hi u xs) => sEngValid_is true u xs hka W lo hi h hma)
  have HV2 := hidH (fun W (h : LiesS W lo2 hi2 v ys) => sEngValid_is true v ys hkb W lo2 hi2 h hmb)
  have ⟨a1, a7, na, _, _, halla⟩ := engOk_parts xs hka
  have ⟨b1, b7, nb, _, _, hallb⟩ := engOk_parts ys hkb
  obtain ⟨ba, oa, ca, rfl, hlca, hcma, hloa, hhia, hbwa, hcella⟩ := hu.addr (by omega)
  obtain ⟨bb, ob, cb, rfl, hlcb, hcmb, hlob, hhib, hbwb, hcellb⟩ := hv.addr (by omega)
  have HCA := hidH hcella
  have HCB := hidH hcellb
  unfold maxLen at hcma hcmb
  have hlb' : ((xs.length : Int) != (ys.length : Int)) = false := by rw [hl]; exact bne_self_eq_false _
  have hxp : 0 < xs.length := by omega
  have hyp : 0 < ys.length := by omega
  have hda := hcella 0 _ (head_at xs hxp)
  have hdb := hcellb 0 _ (head_at ys hyp)
  rw [Nat.add_zero] at hda hdb
  have HDA := hidH hda
  have HDB := hidH hdb
  have hdA := (by rw [BB.out.cell (p := ⟨ba, oa, none⟩) hbwa]; exact hda : (((w.alloc (.cells #[.slice (some ⟨ba, oa, none⟩) xs.length ca] 27)).alloc (.cells #[.slice (some ⟨bb, ob, none⟩) ys.length cb] 27)).alloc (.cells #[.slice none 0 0] 27)).cell? ⟨ba, oa, none⟩ = some (.string (xs.headD ⟨#[]⟩)))
  have hdB := (by rw [BB.out.cell (p := ⟨bb, ob, none⟩) hbwb]; exact hdb : (((w.alloc (.cells #[.slice (some ⟨ba, oa, none⟩) xs.length ca] 27)).alloc (.cells #[.slice (some ⟨bb, ob, none⟩) ys.length cb] 27)).alloc (.cells #[.slice none 0 0] 27)).cell? ⟨bb, ob, none⟩ = some (.string (ys.headD ⟨#[]⟩)))
  have HNN : Hid (na = nb) := hidH (by rw [← head_n xs na halla a1, ← head_n ys nb hallb b1]; exact hh)
  have HAD := hidH (fun i a b (ha : xs[i]? = some a) (hb : ys[i]? = some b) => add_sums xs ys na halla (by rw [HNN.out]; exact hallb) hl i a b ha hb)
  have HPL := hidH (fun a b (ha : a ∈ xs) (hb : b ∈ ys) => l3Plus_any na a b (halla a ha) (by rw [HNN.out]; exact hallb b hb))
  have HCP := hidH (fun W (h : LiesS W lo hi (.slice (some ⟨ba, oa, none⟩) xs.length ca) xs) => l3Copy_any (.slice (some ⟨ba, oa, none⟩) xs.length ca) xs W lo hi h (by omega) (by omega))
  have HLL := hidH (listL_length (addC xs ys) xs.length)
  have HLE := hidH hl
  generalize xs.headD ⟨#[]⟩ = hx at *
  generalize ys.headD ⟨#[]⟩ = hy at *
  have hsb : ((hx.size : Int) != (hy.size : Int)) = false := by rw [hh]; exact bne_self_eq_false _
  clear hu hv hma hmb hka hkb t1 t2 t3 t4 t5 hl hh hcella hcellb halla hallb hda hdb
  go_enter Tryd.func25, Tryd.ntmps25
  go_wp2_with fail
  · go_region_held3 (fun w' => w'.cell? ⟨w.heap.size, 0, none⟩ = some (.slice (some ⟨ba, oa, none⟩) xs.length ca) ∧ w'.cell? ⟨w.heap.size + 1, 0, none⟩ = some (.slice (some ⟨bb, ob, none⟩) ys.length cb) ∧ w'.cell? ⟨ba, oa, none⟩ = some (.string hx) ∧ w'.cell? ⟨bb, ob, none⟩ = some (.string hy)) (first | exact ⟨cA, cB, hdA, hdB⟩ | exact ⟨c1A, c1B, d1A, d1B⟩ | exact ⟨c2A, c2B, d2A, d2B⟩) (first | (go_at_call 10; (with_reducible refine (HV.out _ (HLA.out.below BB.out.drew)).mono ?_); rintro e w1 ⟨rfl, hb⟩; (have HBD := hidH (bDrew' hb)); (have HB1 := hidH (bThen BB.out HBD.out)); (have F1 := hidH (E1.out.below HBD.out)); (have F2 := hidH (E2.out.below HBD.out)); (have F3 := hidH (E3.out.below HBD.out)); (have hs1 := HBD.out.size); (rw [S3.out] at hs1); (have c1A := F1.out.cell); (have c1B := F2.out.cell); (have d1A : w1.cell? ⟨ba, oa, none⟩ = some (.string hx) := by rw [HB1.out.cell (p := ⟨ba, oa, none⟩) hbwa]; exact HDA.out); (have d1B : w1.cell? ⟨bb, ob, none⟩ = some (.string hy) := by rw [HB1.out.cell (p := ⟨bb, ob, none⟩) hbwb]; exact HDB.out); clear hb HBD) | (go_at_call 10; (with_reducible refine (HV2.out _ (HLB.out.below HB1.out)).mono ?_); rintro e w2 ⟨rfl, hb⟩; (have HB2 := hidH (bThen HB1.out hb)); (have K1 := hidH (F1.out.below hb)); (have K2 := hidH (F2.out.below hb)); (have K3 := hidH (F3.out.below hb)); (have hs2 := hb.size); (have c2A := K1.out.cell); (have c2B := K2.out.cell); (have d2A : w2.cell? ⟨ba, oa, none⟩ = some (.string hx) := by rw [HB2.out.cell (p := ⟨ba, oa, none⟩) hbwa]; exact HDA.out); (have d2B : w2.cell? ⟨bb, ob, none⟩ = some (.string hy) := by rw [HB2.out.cell (p := ⟨bb, ob, none⟩) hbwb]; exact HDB.out); clear hb))
    all_goals
      clear cA cB hdA hdB hsb hlb'
      go_wp2_with fail
      refine (HCP.out _ (HLA.out.below HB2.out)).mono ?_; rintro e w4 ⟨q, rfl, hr, hb⟩
      obtain ⟨b2, cap2, rfl, hlc2, hcm2, hlo2, hhi2, hB2⟩ := hr.blk (by omega)
      have hs4 := hb.size
      have M1 := hidH ((K1.out.below hb).alloc (.cells #[.slice (some ⟨b2, 0, none⟩) xs.length cap2] 27))
      have M2 := hidH ((K2.out.below hb).alloc (.cells #[.slice (some ⟨b2, 0, none⟩) xs.length cap2] 27))
      have M3 := hidH ((K3.out.below hb).alloc (.cells #[.slice (some ⟨b2, 0, none⟩) xs.length cap2] 27))
      have M4 := hidH (EngAt.fresh w4 (.slice (some ⟨b2, 0, none⟩) xs.length cap2))
      have HK0 := hidH (hB2.below (belowN' w4 (.slice (some ⟨b2, 0, none⟩) xs.length cap2)))
      have HB4 := hidH (bMore (bThen HB2.out hb) (.cells #[.slice (some ⟨b2, 0, none⟩) xs.length cap2] 27))
      have cO := M4.out.cell
      have HS4 := hidH (show (w4.alloc (.cells #[.slice (some ⟨b2, 0, none⟩) xs.length cap2] 27)).heap.size = w4.heap.size + 1 by simp)
      have S4 := hidH hs4
      clear hr hb hB2 c1A c1B c2A c2B d1A d1B d2A d2B
      unfold maxLen at hcm2
      go_wp2
      go_loopw [7] (fun i wr => ∃ k : Nat, k ≤ xs.length ∧ i = .int .i64 k ∧ BlkS wr b2 (overS (listL (addC xs ys) xs.length) xs k) ∧ Onto b2 (w4.alloc (.cells #[.slice (some ⟨b2, 0, none⟩) xs.length cap2] 27)) wr) (fun i _ => xs.length - (intOf i).toNat)
      case atStart => exact ⟨0, Nat.zero_le _, rfl, by rw [over_zeroS]; exact HK0.out, Onto.refl _ _⟩
      case round =>
        obtain ⟨k, hk, rfl, hB, ho⟩ := hrel
        have HB := hidH hB
        have HO := hidH ho
        have HBW := hidH (HB4.out.trans (ho.below (B := w.heap.size) (by omega) (by rw [HS4.out]; omega)))
        have N1 := hidH (M1.out.onto ho (by omega))
        have N2 := hidH (M2.out.onto ho (by omega))
        have N3 := hidH (M3.out.onto ho (by omega))
        have N4 := hidH (M4.out.onto ho (by omega))
        have c4A := N1.out.cell
        have c4B := N2.out.cell
        have c4O := N4.out.cell
        clear hB ho cO
        by_cases hlt : k < xs.length
        · obtain ⟨c, hc⟩ := get_lt xs k hlt
          obtain ⟨d, hd⟩ := get_lt ys k (by rw [← HLE.out]; exact hlt)
          have hlt2 : k < ys.length := by rw [← HLE.out]; exact hlt
          have hg := over_getS (listL (addC xs ys) xs.length) xs k HLL.out hlt
          have HC1 := hidH (HB.out.2 k c (by rw [hg]; exact hc))
          have hc1 : wr.cell? ⟨ba, oa + k, none⟩ = some (.string c) := by rw [HBW.out.cell (p := ⟨ba, oa + k, none⟩) hbwa]; exact HCA.out k c hc
          have hc2 : wr.cell? ⟨bb, ob + k, none⟩ = some (.string d) := by rw [HBW.out.cell (p := ⟨bb, ob + k, none⟩) hbwb]; exact HCB.out k d hd
          have HPC := hidH (HPL.out c d (List.mem_of_getElem? hc) (List.mem_of_getElem? hd))
          have HST := hidH (show (overS (listL (addC xs ys) xs.length) xs k).set k (sumS c d) = overS (listL (addC xs ys) xs.length) xs (k + 1) by
            rw [← over_setS (listL (addC xs ys) xs.length) xs k (sumS c d) HLL.out (by rw [listL_at _ _ k hlt, HAD.out k c d hc hd])])
          have HBK := hidH (show b2 < wr.heap.size from HB.out.1)
          have q1 := hbwa
          have q2 := hbwb
          have hs2' := HB2.out.size
          have hbne : ba ≠ b2 := by omega
          have hbne2 : bb ≠ b2 := by omega
          have hbw1 := HBW.out.size
          clear hc hd hg
          go_wp2_with fail
          go_region_held3 (fun w' => w'.cell? ⟨w.heap.size, 0, none⟩ = some (.slice (some ⟨ba, oa, none⟩) xs.length ca) ∧ w'.cell? ⟨w.heap.size + 1, 0, none⟩ = some (.slice (some ⟨bb, ob, none⟩) ys.length cb) ∧ w'.cell? ⟨w4.heap.size, 0, none⟩ = some (.slice (some ⟨b2, 0, none⟩) xs.length cap2) ∧ w'.cell? ⟨ba, oa + k, none⟩ = some (.string c) ∧ w'.cell? ⟨bb, ob + k, none⟩ = some (.string d))
            (first | exact ⟨c4A, c4B, c4O, hc1, hc2⟩ | exact ⟨c5A, c5B, c5O, hc15, hc25⟩ | (exact ⟨(by rw [World.cell?_setCell_other _ _ _ _ (by intro h; injection h; omega)]; exact c5A), (by rw [World.cell?_setCell_other _ _ _ _ (by intro h; injection h; omega)]; exact c5B), (by rw [World.cell?_setCell_other _ _ _ _ (by intro h; injection h; omega)]; exact c5O), (by rw [World.cell?_setCell_other _ _ _ _ (by intro h; injection h; omega)]; exact hc15), (by rw [World.cell?_setCell_other _ _ _ _ (by intro h; injection h; omega)]; exact hc25)⟩))
            (first | (go_at_call 47; (with_reducible refine (HPC.out _).mono ?_); rintro e w5 ⟨rfl, hbw⟩; (have HBD := hidH (bDrew' hbw)); (have HB5 := hidH (HB.out.below HBD.out)); (have hq1 : w5.cell? ⟨b2, k, none⟩ = some (.string c) := by rw [HBD.out.cell (p := ⟨b2, k, none⟩) HBK.out]; exact HC1.out.1); (have hq2 : w5.frozen? ⟨b2, k, none⟩ = false := by rw [HBD.out.frozen (p := ⟨b2, k, none⟩) HBK.out]; exact HC1.out.2); (have c5A := (N1.out.below HBD.out).cell); (have c5B := (N2.out.below HBD.out).cell); (have c5O := (N4.out.below HBD.out).cell); (have hc15 : w5.cell? ⟨ba, oa + k, none⟩ = some (.string c) := by rw [HBD.out.cell (p := ⟨ba, oa + k, none⟩) (cell_blk _ _ _ hc1)]; exact hc1); (have hc25 : w5.cell? ⟨bb, ob + k, none⟩ = some (.string d) := by rw [HBD.out.cell (p := ⟨bb, ob + k, none⟩) (cell_blk _ _ _ hc2)]; exact hc2); clear hbw))
          all_goals
            go_wp2
            go_roundw
            case rel => exact ⟨k + 1, by omega, by go_num, by rw [← HST.out]; exact HB5.out.set k _, (HO.out.trans (Onto.of_below HBD.out)).trans (Onto.setCell b2 k _ _)⟩
            case measure => simp [intOf] <;> omega
        · obtain rfl : k = xs.length := by omega
          have HFIN : Hid (BlkS wr b2 (listL (addC xs ys) xs.length)) := hidH (by have h := HB.out; rw [over_allS _ _ HLL.out] at h; exact h)
          have SZ := hidH (eng_size (.slice (some ⟨b2, 0, none⟩) xs.length cap2))
          have SO := hidH (slice_one (some ⟨b2, 0, none⟩) xs.length cap2)
          go_wp2_with (first | (refine wpList_load_row rfl 27 _ rfl w4.heap.size rfl 27 _ (0, 0) _ N4.out Tryd.underlying27 rfl SZ.out ?_) | (refine wpList_store_row rfl 27 _ _ rfl (w.heap.size + 1 + 1) #[.slice (some ⟨b2, 0, none⟩) xs.length cap2] rfl rfl 27 _ N3.out SZ.out rfl SO.out ?_))
          refine bodyPost_ret (results_engB Tryd.results25 _ _ (w.heap.size + 1 + 1) _ (.bool true) rfl rfl (N3.out.setRow _)) rfl ?_
          have HAP := HFIN.out.apart (Apart.of_onto (lo := w.heap.size + 2) (hi := w.heap.size + 3) (onto_setRow (w.heap.size + 1 + 1) wr #[.slice (some ⟨b2, 0, none⟩) xs.length cap2]) (by omega) (by omega)) (.inr (by omega))
          exact ⟨_, rfl, HAP.row (by omega) HAP.1 (by rw [HLL.out]; exact hlc2) (by unfold maxLen; omega) HLL.out.symm, bRow HBW.out (by omega) _⟩
theorem sAddEngines_any (u v : Value) (xs ys : List ByteArray) (w : World) (lo hi lo2 hi2 : Nat) (hu : LiesS w lo hi u xs) (hv : LiesS w lo2 hi2 v ys) (hma : ∀ c ∈ xs, c.size ≤ 9223372036854775807) (hmb : ∀ c ∈ ys, c.size ≤ 9223372036854775807) : Calls Tryd.prog 25 #[.agg #[u], .agg #[v]] w (NewEngB (addL xs ys) (addB xs ys) w) := by
  cases hka : engOk xs
  · have h : addOk xs ys = false := by rw [addOk, hka]; rfl
    rw [addL_no xs ys h, addB_no xs ys h]
    exact sAdd1_any u v xs ys w lo hi lo2 hi2 hu hv hma hmb hka
  · cases hkb : engOk ys
    · have h : addOk xs ys = false := by rw [addOk, hka, hkb]; rfl
      rw [addL_no xs ys h, addB_no xs ys h]
      exact sAdd2_any u v xs ys w lo hi lo2 hi2 hu hv hma hmb hka hkb
    · have ⟨a1, a7, na, _, _, halla⟩ := engOk_parts xs hka
      have ⟨b1, b7, nb, _, _, hallb⟩ := engOk_parts ys hkb
      by_cases hl : xs.length = ys.length
      · have h : addOk xs ys = true := by rw [addOk, hka, hkb, decide_eq_true hl]; rfl
        rw [addL_yes xs ys h, addB_yes xs ys h]
        by_cases hh : (xs.headD ⟨#[]⟩).size = (ys.headD ⟨#[]⟩).size
        · have hn : na = nb := by rw [← head_n xs na halla a1, ← head_n ys nb hallb b1]; exact hh
          rw [listA, add_all xs ys na halla (by rw [hn]; exact hallb) hl]
          exact sAdd5_any u v xs ys w lo hi lo2 hi2 hu hv hma hmb hka hkb hl hh
        · rw [listA, add_heads xs ys a1 hl hh]
          exact sAdd4_any u v xs ys w lo hi lo2 hi2 hu hv hma hmb hka hkb hl hh
      · have h : addOk xs ys = false := by rw [addOk, hka, hkb, decide_eq_false hl]; rfl
        rw [addL_no xs ys h, addB_no xs ys h]
        exact sAdd3_any u v xs ys w lo hi lo2 hi2 hu hv hma hmb hka hkb hl
end Go.Proofs.YtliakbgigkajnaaDoor
