/-
  GreedyPlan: the program, of whose plan only the number of segments is told.
-/
import Derived.Test.YtpkieconbfgbdaaPlfM
import Derived.Test.YtpkieconbfgbdaaPlnB
import Derived.Test.YtpkieconbfgbdaaPlanC
import Derived.StillTailTactics
import Derived.Laws.AppendOwn
import Derived.StillTactics
import Derived.OwnWalk
import Derived.Laws.Pointers
import Derived.Deep.AppendLies
import Derived.Deep.LoopGhost
import Derived.Deep.Cut
namespace Go.Proofs.Ytpkieconbfgbdaa
set_option maxRecDepth 4000
open Go.RowKit
theorem seg_run (zs : List Int) (d k : Nat) (hs : smallOk zs = true) (hd : degOk (d : Int) = true) (hk : k < zs.length) : segC zs (k : Int) (longN (d + 1) (zs.drop k) : Nat) (d : Int) = (longN (d + 1) (zs.drop k) : Nat) := by
  have hp := longN_pos (d + 1) (zs.drop k) (by omega) (by rw [List.length_drop]; omega)
  have hl := longN_le (d + 1) (zs.drop k)
  rw [List.length_drop] at hl
  have hr := run_long (zs.drop k) (d : Int) (small_drop zs hs k hk) hd (longN (d + 1) (zs.drop k)) hp (by rw [List.length_drop]; exact hl)
  rw [Int.toNat_natCast] at hr
  have h1 : segAt zs (k : Int) = true := decide_eq_true (by omega)
  have h2 : segCnt zs (k : Int) (longN (d + 1) (zs.drop k) : Nat) = true := decide_eq_true (by omega)
  have h3 : runB (segZ zs (k : Int) (longN (d + 1) (zs.drop k) : Nat)) (d : Int) = true := by
    unfold segZ
    rw [Int.toNat_natCast, Int.toNat_natCast, hr]
    exact decide_eq_true (Nat.le_refl _)
  unfold segC segB
  rw [hs, h1, h2, hd, h3]; rfl
set_option maxHeartbeats 800000 in
theorem runAt_any (b1 b2 : Nat) (av : Option Addr) (cap : Nat) (zs : List Int) (d k : Nat) (w : World) (lo hi : Nat) (hv : Lies w lo hi (.slice av zs.length cap) zs) (h1 : w.cell? ⟨b1, 0, none⟩ = some (.slice av zs.length cap)) (h2 : w.cell? ⟨b2, 0, none⟩ = some (.int .i64 (d : Int))) (hd : d ≤ 6) (hn : zs.length ≤ 60) (hk : k < zs.length) :
    Calls Try.prog 31 #[.int .i64 (k : Int), .pointer (some ⟨b1, 0, none⟩), .pointer (some ⟨b2, 0, none⟩)] w (Gives (.int .i64 (longN (d + 1) (zs.drop k) : Nat)) w) := by
  obtain ⟨b, off, cap', e, hlc, hcm, _, _, _, _⟩ := hv.addr (by omega)
  injection e with e1 _ e3
  subst e1 e3
  unfold maxLen at hcm
  have HR := hidH (fun q => runLen_any _ (zs.drop k) d (w.drewN q) lo hi (((hv.dropped k (zs.length - k) (cap - k) (by omega) rfl rfl)).below (below_drewN (Below.refl _ _) q)) hd (by rw [List.length_drop]; omega))
  have hck : ¬ cap = k := by omega
  have hln : (zs.length : Int) - k = ((zs.length - k : Nat) : Int) := by omega
  have hcn : (cap : Int) - k = ((cap - k : Nat) : Int) := by omega
  clear hv
  go_enter Try.func31, Try.ntmps31
  go_wp2_with fail
  go_region_with (go_at_call 32; refine (HR.out 1).mono ?_; rintro e w1 ⟨rfl, hb⟩; have HB := hidH ((below_drewN (Below.refl w.heap.size w) 1).trans hb); clear hb)
  all_goals
    go_wp2_with fail
    go_ret
    exact ⟨rfl, HB.out⟩
theorem owns_form2 {w : World} {base e size n : Nat} {v : Value} {xs : List Value} (H : w.ownsRow base e size v n xs) : ∃ (ad : Option Addr) (cap : Nat), v = .slice ad n cap ∧ cap ≤ maxLen := by
  obtain ⟨hl, hv⟩ := H
  rcases hv with ⟨h1, h2⟩ | ⟨g1, cap, cur, h1, _, _, _, hc, _, _⟩
  · exact ⟨none, 0, by rw [h2]; exact h1, Nat.zero_le _⟩
  · exact ⟨_, cap, h1, hc⟩
/-- A plan of n segments, of which only the number is told. -/
def PlanLen (n : Nat) (w : World) (e : Ending) (w' : World) : Prop := ∃ (ad : Option Addr) (cap : Nat), e = .returned (.slice ad n cap) ∧ cap ≤ maxLen ∧ Below w.heap.size w w'
set_option maxHeartbeats 3200000 in
theorem planBy_any (b1 b2 : Nat) (av : Option Addr) (cap : Nat) (zs : List Int) (d : Nat) (w : World) (lo hi : Nat) (hv : Lies w lo hi (.slice av zs.length cap) zs) (h1 : w.cell? ⟨b1, 0, none⟩ = some (.slice av zs.length cap)) (h2 : w.cell? ⟨b2, 0, none⟩ = some (.int .i64 (d : Int))) (hs : smallOk zs = true) (hd : degOk (d : Int) = true) :
    Calls Try.prog 30 #[.slice av zs.length cap, .int .i64 (d : Int), .func (.func 31) #[] #[.pointer (some ⟨b1, 0, none⟩), .pointer (some ⟨b2, 0, none⟩)]] w (PlanLen (fewN (d + 1) zs) w) := by
  have ⟨hl1, hl60, _⟩ := (small_iff zs).1 hs
  have hd6 : d ≤ 6 := by unfold degOk at hd; have := of_decide_eq_true hd; omega
  obtain ⟨i0, hi0, hz0, hz1, hz2⟩ := info_parts info_sg
  have HV := hidH hv
  have H1 := hidH h1
  have H2 := hidH h2
  have l1 := cell_blk _ _ _ h1
  have l2 := cell_blk _ _ _ h2
  have HF := hidH (nxZ_fwd (d + 1) zs (by omega))
  have HSC := hidH (fun k hk => seg_run zs d k hs hd hk)
  obtain ⟨_, _, e, hlc, hcm, _, _⟩ := hv
  injection e with e1 _ e3
  subst e1 e3
  unfold maxLen at hcm
  clear h1 h2
  go_enter Try.func30, Try.ntmps30
  go_wp2_with fail
  go_loopw [7, 8] (fun o i wr => ∃ (j k : Nat) (ov : Value) (xs : List Value), j ≤ zs.length ∧ i = .int .i64 j ∧ ov = o ∧ k ≤ j ∧ Aside (gN (nxZ (d + 1) zs) zs.length j + k = fewN (d + 1) zs) ∧ wr.ownsRow w.heap.size 46 2 ov k xs ∧ Below w.heap.size w wr) (fun _ i _ => zs.length - (intOf i).toNat)
  case atStart => exact ⟨0, 0, _, [], Nat.zero_le _, rfl, rfl, Nat.le_refl _, rfl, ⟨rfl, Or.inl ⟨rfl, rfl⟩⟩, Below.refl _ _⟩
  case round =>
    obtain ⟨j, k, ov, xs, hj, rfl, rfl, hkj, hg, hown, hb⟩ := hrel
    have HG := hidH hg
    have HW := hidH hown
    have HBq := hidH hb
    clear hg hown hb
    by_cases hlt : j < zs.length
    · have c1 : wr.cell? ⟨b1, 0, none⟩ = some (.slice av zs.length cap) := by rw [HBq.out.cell (p := ⟨b1, 0, none⟩) l1]; exact H1.out
      have c2 : wr.cell? ⟨b2, 0, none⟩ = some (.int .i64 (d : Int)) := by rw [HBq.out.cell (p := ⟨b2, 0, none⟩) l2]; exact H2.out
      have HVr := hidH (HV.out.below HBq.out)
      have HRA := hidH (runAt_any b1 b2 av cap zs d j wr _ _ HVr.out c1 c2 hd6 hl60 hlt)
      have HSCj := hidH (HSC.out j hlt)
      have hp1 := HF.out.lt j hlt
      have hp2 := HF.out.le j hlt
      have HST := hidH (gN_step HF.out j hlt)
      have HNX := hidH (show nxZ (d + 1) zs j = j + longN (d + 1) (zs.drop j) from rfl)
      rw [HNX.out] at hp1 hp2
      generalize longN (d + 1) (zs.drop j) = cn at *
      clear c1 c2
      go_wp2_with fail
      refine HRA.out.mono ?_; rintro e w2 ⟨rfl, hb⟩
      have HV2 := hidH (HVr.out.below hb)
      have HW2 := hidH (owns_below HW.out hb)
      have HB2 := hidH (bThen HBq.out hb)
      clear hb HRA HW HVr
      go_wp2_with fail
      refine (segOf_any _ zs (j : Int) (cn : Int) (d : Int) w2 _ _ HV2.out).mono ?_; rintro e w3 ⟨pv, rfl, hr, hb⟩
      rw [HSCj.out]
      obtain ⟨pa, pcap, rfl⟩ := hr.some
      have HW3 := hidH (owns_below HW2.out hb)
      have HB3 := hidH (bThen HB2.out hb)
      clear hb hr HW2 HV2 HSCj
      generalize (segP zs (j : Int) (cn : Int) (d : Int)).length = pl at *
      have HZ := hidH (SegAt.fresh w3 0 (.slice none 0 0))
      have HZ4 := hidH ((SegAt.fresh w3 0 (.slice none 0 0)).setRow (cn : Int) (.slice pa pl pcap))
      have hsz3 := HB3.out.size
      have HW4 := hidH (owns_below HW3.out (show Below w3.heap.size w3 ((w3.alloc (.cells #[.int .i64 0, .slice none 0 0] 46)).setRow w3.heap.size #[.int .i64 (cn : Int), .slice pa pl pcap]) from bRow ((Below.refl _ _).alloc (Nat.le_refl _) _) (Nat.le_refl _) _))
      have HB4 := hidH (bRow (bMore HB3.out (.cells #[.int .i64 0, .slice none 0 0] 46)) hsz3 #[.int .i64 (cn : Int), .slice pa pl pcap])
      have SZ := hidH (seg_size (cn : Int) (.slice pa pl pcap))
      have SO := hidH (seg_one (cn : Int) pa pl pcap)
      go_upto_region 5 with (refine wpList_store_row rfl 46 _ _ rfl w3.heap.size #[.int .i64 (cn : Int), .slice pa pl pcap] rfl rfl 46 _ HZ.out SZ.out rfl SO.out ?_)
      generalize ((w3.alloc (.cells #[.int .i64 0, .slice none 0 0] 46)).setRow w3.heap.size #[.int .i64 (cn : Int), .slice pa pl pcap]) = w4 at *
      have hsz4 := HB4.out.size
      have hk60 : k ≤ 60 := by omega
      have HW5 := hidH (owns_below HW4.out ((Below.refl _ w4).alloc (Nat.le_refl _) (.cells #[.int .i64 (cn : Int), .slice pa pl pcap] 46)))
      have HNW := hidH (World.news_of_block (cs := #[.int .i64 (cn : Int), .slice pa pl pcap]) (t := 46) (fr := (0, 0)) (heap_alloc_new w4 (.cells #[.int .i64 (cn : Int), .slice pa pl pcap] 46)))
      have HZ5 := hidH (HZ4.out.below ((Below.refl _ w4).alloc (Nat.le_refl _) (.cells #[.int .i64 (cn : Int), .slice pa pl pcap] 46)))
      go_wp2_with (first
        | (refine wpList_load_row rfl 46 _ rfl w3.heap.size rfl 46 _ (0, 0) _ HZ4.out Try.underlying46 rfl SZ.out ?_)
        | (at_builtin; refine wpList_append_own _ rfl _ _ 23 rfl w.heap.size 46 i0 _ 2 32 Try.underlying23 hi0 hz0 hz1 hz2 rfl (by decide) _ _ _ rfl HW5.out ⟨w4.heap.size, 0, none⟩ 1 1 [.int .i64 (cn : Int), .slice pa pl pcap] rfl rfl HNW.out (by simp [Value.oneCell']) (by unfold maxLen; omega) (by omega) (by simp; omega) ?_))
      intro v' w9 hown1 hgrow _
      have HR9 := hidH hown1
      have hnb : ov.ownBlock ≠ some w3.heap.size := fun h => by have := (HW3.out.lt _ h).2; omega
      have HZ9 : Hid (w9.cell? ⟨w3.heap.size, 0, none⟩ = some (.int .i64 (cn : Int))) := by
        have hlt5 := HZ5.out.lt
        have hb9 := hgrow.block w3.heap.size (by simpa using hlt5) hnb.symm
        show w9.cell? ⟨w3.heap.size, 0, none⟩ = _
        rw [World.cell?_of_block hb9]
        exact HZ5.out.cell0
      have HB9 := hidH ((HB4.out.alloc hsz4 (.cells #[.int .i64 (cn : Int), .slice pa pl pcap] 46)).grown hgrow (by simp; omega) fun g hg => (HW3.out.lt g hg).1)
      have c9 := HZ9.out
      clear hown1 hgrow
      go_wp2_with fail
      go_roundw
      case rel =>
        refine ⟨j + cn, k + 1, v', _, by omega, by go_num, rfl, by omega, ?_, HR9.out, HB9.out⟩
        have h := HG.out.out
        rw [HST.out, HNX.out] at h
        show _ = _
        omega
      case measure => simp [intOf]; omega
    · obtain rfl : j = zs.length := by omega
      have hgn := HG.out
      rw [gN_end _ (Nat.le_refl _), Nat.zero_add] at hgn
      obtain ⟨ad, cp, hov, hcp⟩ := owns_form2 HW.out
      have HGN := hidH hgn
      clear hgn HG
      subst hov
      go_wp2_with fail
      go_ret
      rw [← HGN.out]
      exact ⟨ad, cp, rfl, hcp, HBq.out⟩
set_option maxHeartbeats 1600000 in
theorem greedyP_any (v0 : Value) (zs : List Int) (n : Int) (w : World) (lo0 hi0 : Nat) (hv0 : Lies w lo0 hi0 v0 zs) :
    Calls Try.prog 10 #[v0, .int .i64 n] w fun e w' => ∃ (ad : Option Addr) (m cap : Nat), e = .returned (.tuple #[.slice ad m cap, .bool (smallOk zs && degOk n)]) ∧ cap ≤ maxLen ∧ ((smallOk zs && degOk n) = true → m = fewN (n.toNat + 1) zs) ∧ Below w.heap.size w w' := by
  have HV := hidH hv0
  obtain ⟨a0, cap0, rfl, hlc0, hcm0, _, _⟩ := hv0
  unfold maxLen at hcm0
  have BB := hidH (bMore (bMore (Below.refl w.heap.size w) (.cells #[.slice a0 zs.length cap0] 22)) (.cells #[.int .i64 n] 3))
  have HV1 := hidH (HV.out.below BB.out)
  have hmf : ∀ (fn : Fn) (first cap : Array Value) (w : World), (Instr.makeFunc fn first cap).run Try.prog w = .ok (.func fn first cap) w := fun _ _ _ _ => rfl
  have k1 : ((w.alloc (.cells #[.slice a0 zs.length cap0] 22)).alloc (.cells #[.int .i64 n] 3)).cell? ⟨w.heap.size, 0, none⟩ = some (.slice a0 zs.length cap0) := by
    rw [World.cell?_alloc_past _ _ _ (by simp), World.cell?_alloc_at _ _ _ _ rfl]; rfl
  have k2 : ((w.alloc (.cells #[.slice a0 zs.length cap0] 22)).alloc (.cells #[.int .i64 n] 3)).cell? ⟨w.heap.size + 1, 0, none⟩ = some (.int .i64 n) := by
    rw [show w.heap.size + 1 = (w.alloc (.cells #[.slice a0 zs.length cap0] 22)).heap.size by simp, World.cell?_alloc_at _ _ _ _ rfl]; rfl
  have l1 : w.heap.size < ((w.alloc (.cells #[.slice a0 zs.length cap0] 22)).alloc (.cells #[.int .i64 n] 3)).heap.size := by simp; omega
  have l2 : w.heap.size + 1 < ((w.alloc (.cells #[.slice a0 zs.length cap0] 22)).alloc (.cells #[.int .i64 n] 3)).heap.size := by simp
  have K1 := hidH k1
  have K2 := hidH k2
  have L1 := hidH l1
  have L2 := hidH l2
  clear k1 k2 l1 l2
  cases hs : smallOk zs
  · have HS := hidH hs
    rw [Bool.false_and]
    clear hs
    have c1 := K1.out
    go_enter Try.func10, Try.ntmps10
    go_wp2_with fail
    refine (small_any _ zs _ _ _ HV1.out).mono ?_; rintro e w2 ⟨rfl, hb⟩
    rw [HS.out]
    have HB := hidH (bThen BB.out hb)
    clear hb
    go_wp2_with fail
    go_ret2
    exact ⟨none, 0, 0, rfl, Nat.zero_le _, (fun h => by cases h), HB.out⟩
  · have HS := hidH hs
    rw [Bool.true_and]
    have c1 := K1.out
    go_enter Try.func10, Try.ntmps10
    go_wp2_with fail
    refine (small_any _ zs _ _ _ HV1.out).mono ?_; rintro e w2 ⟨rfl, hb⟩
    rw [HS.out]
    have HB := hidH (bThen BB.out hb)
    have HV2 := hidH (HV1.out.below hb)
    have e1 : w2.cell? ⟨w.heap.size, 0, none⟩ = some (.slice a0 zs.length cap0) := by rw [hb.cell (p := ⟨w.heap.size, 0, none⟩) L1.out]; exact K1.out
    have e2 : w2.cell? ⟨w.heap.size + 1, 0, none⟩ = some (.int .i64 n) := by rw [hb.cell (p := ⟨w.heap.size + 1, 0, none⟩) L2.out]; exact K2.out
    clear hb c1 hs
    cases hd : degOk n
    · have HD := hidH hd
      clear hd
      go_wp2_with fail
      refine (degValid_any n _).mono ?_; rintro e w3 ⟨rfl, rfl⟩
      rw [HD.out]
      go_wp2_with fail
      go_ret2
      exact ⟨none, 0, 0, by rw [HD.out]; rfl, Nat.zero_le _, (fun h => by rw [HD.out] at h; cases h), HB.out⟩
    · have HD := hidH hd
      obtain ⟨d, rfl⟩ : ∃ d : Nat, n = (d : Int) := ⟨n.toNat, by unfold degOk at hd; have := of_decide_eq_true hd; omega⟩
      clear hd
      have HPB := hidH (planBy_any w.heap.size (w.heap.size + 1) a0 cap0 zs d w2 _ _ HV2.out e1 e2 HS.out HD.out)
      go_wp2_with fail
      refine (degValid_any (d : Int) _).mono ?_; rintro e w3 ⟨rfl, rfl⟩
      rw [HD.out]
      go_wp2_with fail
      refine HPB.out.mono ?_; rintro e w4 ⟨ad, cp, rfl, hcp, hb⟩
      have HB4 := hidH (bThen HB.out hb)
      clear hb
      go_wp2_with fail
      go_ret2
      exact ⟨ad, _, cp, by rw [HD.out]; rfl, hcp, (fun _ => by rw [Int.toNat_natCast]), HB4.out⟩
theorem fewest_any (v0 : Value) (zs : List Int) (n : Int) (w : World) (lo0 hi0 : Nat) (hv0 : Lies w lo0 hi0 v0 zs) : Calls Try.prog 17 #[v0, .int .i64 n] w (Gives (.int .i64 (fewA zs n)) w) := by
  have HG := hidH (greedyP_any v0 zs n w lo0 hi0 hv0)
  clear hv0
  unfold fewA
  cases hb : smallOk zs && degOk n
  · rw [hb] at HG
    clear hb
    go_enter Try.func17, Try.ntmps17
    go_wp2_with fail
    refine HG.out.mono ?_; rintro e w1 ⟨ad, m, cp, rfl, _, _, hb⟩
    have HB := hidH hb
    clear hb
    go_wp2_with fail
    go_ret
    exact ⟨rfl, HB.out⟩
  · rw [hb] at HG
    clear hb
    generalize fewN (n.toNat + 1) zs = fw at *
    go_enter Try.func17, Try.ntmps17
    go_wp2_with fail
    refine HG.out.mono ?_; rintro e w1 ⟨ad, m, cp, rfl, _, hm, hb⟩
    have HB := hidH hb
    obtain rfl := hm trivial
    clear hb
    go_wp2_with fail
    go_ret
    exact ⟨rfl, HB.out⟩
end Go.Proofs.Ytpkieconbfgbdaa
