/-
  From what a row lists of package-level variables to what the contracts of strconv ask: the table of powers of ten, and the two errors. No conditions of its own.
-/
import Derived.Test.YtmejfkjbdokdaaaDoorStrNum
import Derived.LaidSub
import Derived.LaidMore
import Derived.MakeChecks
import Derived.Stop.Joined
import Derived.Stop.LaidErr
import Derived.Lib.LaidTab
namespace Go.Proofs.YtmejfkjbdokdaaaDoor
set_option maxRecDepth 4000
open Go.RowKit
theorem laid_one {l : List (String × DataW Unit)} {W : World} (n : String) (d : DataW Unit) (h : laidMetH Tryd.prog l W) (hf : l.filter (fun x => x.1 == n) = [(n, d)]) (hp : d.handleName?.isNone = true) : laidMet Tryd.prog [(n, d)] W := by
  have h1 := laidMetH.filter (fun x => x.1 == n) h
  rw [hf, MakeChecks.laidMetH_plain _ _ _ (by simp [hp])] at h1
  exact h1
theorem gPow : Tryd.prog.globalNamed "internal/strconv.uint64pow10" = some 3 := by kernel_rfl
theorem gPowType : (Tryd.prog.globals[3]?).map (·.type) = some 118 := by kernel_rfl
theorem cellsPow : Tryd.prog.cellsOf 118 = 20 := by kernel_rfl
theorem cellsU64 : Tryd.prog.cellsOf 104 = 1 := by kernel_rfl
theorem pow_of {l : List (String × DataW Unit)} {W : World} (d : DataW Unit) (h : laidMetH Tryd.prog l W) (hf : l.filter (fun x => x.1 == "internal/strconv.uint64pow10") = [("internal/strconv.uint64pow10", d)]) (hd : d = Lib.tabData .u64 Lib.pow10Tab) : PowT W := by
  have h1 := laid_one "internal/strconv.uint64pow10" d h hf (by rw [hd]; rfl)
  rw [hd] at h1
  exact Lib.tabIs_of_head gPow gPowType Tryd.underlying118 Tryd.underlying104 cellsU64 cellsPow h1
theorem starE : "*" ++ "errors.errorString" = "*errors.errorString" := by decide
theorem rowES (u : TypeId) (h : Tryd.prog.typeName? 3 u = some "*errors.errorString") : u = 129 :=
  typeName_ptr_named (nm := "errors.errorString") (by rw [starE]; kernel_rfl) (by kernel_rfl) (by decide) u (by rw [starE]; exact h)
theorem cellsES : Tryd.prog.cellsOf 131 = 1 := by kernel_rfl
theorem cellsStr : Tryd.prog.cellsOf 9 = 1 := by kernel_rfl
theorem gSyn : Tryd.prog.globalNamed "strconv.ErrSyntax" = some 1 := by kernel_rfl
theorem gSynType : (Tryd.prog.globals[1]?).map (·.type) = some 67 := by kernel_rfl
theorem gRng : Tryd.prog.globalNamed "strconv.ErrRange" = some 2 := by kernel_rfl
theorem gRngType : (Tryd.prog.globals[2]?).map (·.type) = some 67 := by kernel_rfl
theorem err_of {l : List (String × DataW Unit)} {W : World} (t1 t2 : List UInt8) (h : laidMetH Tryd.prog l W)
    (hf1 : l.filter (fun x => x.1 == "strconv.ErrSyntax") = [("strconv.ErrSyntax", .iface "*errors.errorString" (.ptr (.agg [.lit (.string t1)])))])
    (hf2 : l.filter (fun x => x.1 == "strconv.ErrRange") = [("strconv.ErrRange", .iface "*errors.errorString" (.ptr (.agg [.lit (.string t2)])))])
    (hp : (DataW.iface "*errors.errorString" (.ptr (.agg [.lit (.string t1)])) : DataW Unit).handleName?.isNone = true) (hp2 : (DataW.iface "*errors.errorString" (.ptr (.agg [.lit (.string t2)])) : DataW Unit).handleName?.isNone = true) : ErrT W := by
  obtain ⟨a1, s1, h1, _⟩ := laid_sentinel (laid_one _ _ h hf1 hp) gSyn gSynType Tryd.underlying67 rowES Tryd.underlying129 Tryd.underlying131 rfl rfl Tryd.underlying9 cellsES cellsStr
  obtain ⟨a2, s2, h2, _⟩ := laid_sentinel (laid_one _ _ h hf2 hp2) gRng gRngType Tryd.underlying67 rowES Tryd.underlying129 Tryd.underlying131 rfl rfl Tryd.underlying9 cellsES cellsStr
  exact ⟨⟨_, _, h1⟩, _, _, h2⟩
end Go.Proofs.YtmejfkjbdokdaaaDoor
