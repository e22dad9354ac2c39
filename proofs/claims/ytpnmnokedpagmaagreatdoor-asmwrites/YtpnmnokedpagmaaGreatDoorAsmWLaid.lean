/-
  What the listed variables hold when the call begins, in the words that the walks lean on.
-/
import Derived.Test.YtpnmnokedpagmaaGreatDoorRows
import Derived.Test.YtpnmnokedpagmaaGreatDoorAsmImm
import Derived.Test.YtpnmnokedpagmaaGreatDoorAsmBld
import Derived.Lib.LaidTab
import Derived.Stop.LaidErr
import Derived.LaidLaws
import Derived.MakeChecks
import Derived.OpenShut
import Derived.ProofKit
namespace Go.Proofs.YtpnmnokedpagmaaGreatDoor
open Go.ChangeShapes Go.WideShapes Go.ChangeAt Go.RowKit
set_option linter.unusedVariables false
set_option linter.unusedSimpArgs false

theorem strs_of_trod {H : Type} {enc : TypeId × Value → H} {P : Program} {W : World} {base : Nat} {sp : Nat → Bool} {held : Bool} {fuel : Nat} {t e : TypeId} {n : Nat} {cs : List Value} {l : List Bs} {q : List MemPlace}
    (h : DataW.trod enc P W base sp held fuel t cs = some (.agg (l.map fun b => .lit (.string b)), q)) (ht : P.underlying t = some (.array n e)) (he : P.underlying e = some .string) (ce : P.cellsOf e = 1) (ct : P.cellsOf t = n) (hl : l.length = n) :
    cs = l.map fun b => Value.string (BA b) := by
  obtain ⟨xs, m, rfl, hx, hlen, hn, hel⟩ := DataW.trod_array ht h
  simp only [Prod.mk.injEq, DataW.agg.injEq] at hx
  obtain ⟨hx, -⟩ := hx
  rw [ct] at hlen
  rw [ce] at hel
  apply List.ext_getElem?
  intro i
  by_cases hi : i < n
  · have hi' := hel i hi
    have hxi : i < xs.length := by omega
    have hli : i < l.length := by omega
    have hci : i < cs.length := by omega
    rw [Nat.mul_one, List.getElem?_eq_getElem hxi] at hi'
    obtain ⟨s, hs1, hs2, -⟩ := DataW.trod_string he hi'
    have e1 : xs[i].1 = .lit (.string l[i]) := by
      have := congrArg (fun z => z[i]?) hx
      simp [hxi, hli] at this
      exact this.symm
    rw [hs2] at e1
    simp only [DataW.lit.injEq, Lit.string.injEq] at e1
    have hc1 : cs[i] = .string s := by
      have := congrArg (fun z => z[0]?) hs1
      simp [hci] at this
      exact this
    rw [List.getElem?_eq_getElem hci, hc1]
    simp only [List.getElem?_map, List.getElem?_eq_getElem hli, Option.map_some]
    rw [← e1, BA_of]
  · rw [List.getElem?_eq_none (by omega), List.getElem?_eq_none (by simp; omega)]

theorem gNamesT : (Tryz.prog.globals[0]?).map (·.type) = some 83 := by kernel_rfl
theorem gSynT : (Tryz.prog.globals[5]?).map (·.type) = some 52 := by kernel_rfl
theorem gRngT : (Tryz.prog.globals[6]?).map (·.type) = some 52 := by kernel_rfl
theorem names_datum : (Rows.laid_onionskin_asm_names : DataW Unit) = .agg (opNames.map fun b => .lit (.string b)) := rfl
theorem names_list : (opNames.map fun b => Value.string (BA b)) = namesV.toList := rfl

theorem laid_names {W : World} {r : List (String × DataW Unit)} {nm : String} (h : laidMet Tryz.prog ((nm, Rows.laid_onionskin_asm_names) :: r) W) (hg : Tryz.prog.globalNamed nm = some 0) : NamesOk W := by
  obtain ⟨ps, ⟨g0, t0, cs0, f0, p0, q0, hg0, ht0, hv0, hd0, _, e0⟩, _, hrows⟩ := h
  obtain rfl := Option.some.inj (hg.symm.trans hg0)
  obtain rfl := Option.some.inj (gNamesT.symm.trans ht0)
  rw [names_datum] at hd0
  have hcs := strs_of_trod hd0 Tryz.underlying83 Tryz.underlying9 (by kernel_rfl) (by kernel_rfl) rfl
  rw [names_list] at hcs
  have hcs' : cs0 = namesV := by cases cs0; cases hn : namesV; rw [hn] at hcs; simp at hcs; rw [hcs]
  subst hcs'
  unfold World.var? at hv0
  rw [hg] at hv0
  simp only [Option.bind_some] at hv0
  split at hv0
  · rename_i cs t fr hh
    injection hv0 with hv0
    subst hv0
    exact ⟨t, fr, hh⟩
  · cases hv0
theorem laid_err {W : World} {r : List (String × DataW Unit)} {nm ty : String} {d : DataW Unit} {g : Nat} (h : laidMet Tryz.prog ((nm, .iface ty d) :: r) W) (hg : Tryz.prog.globalNamed nm = some g) (ht : (Tryz.prog.globals[g]?).map (·.type) = some 52) : ErrAt W g := by
  obtain ⟨ps, ⟨g0, t0, cs0, f0, p0, q0, hg0, ht0, hv0, hd0, _, e0⟩, _, hrows⟩ := h
  obtain rfl := Option.some.inj (hg.symm.trans hg0)
  obtain rfl := Option.some.inj (ht.symm.trans ht0)
  obtain ⟨f1, u, v, hcs, -⟩ := iface_of_trod Tryz.underlying52 hd0
  have := World.var?_cell hg0 hv0 0
  obtain ⟨l⟩ := cs0
  subst hcs
  exact ⟨.iface u v, by simpa using this, .inr ⟨u, v, rfl⟩⟩

theorem gPowT : (Tryz.prog.globals[2]?).map (·.type) = some 136 := by kernel_rfl
theorem pow_datum : (Rows.laid_internal_strconv_uint64pow10 : DataW Unit) = Lib.tabData .u64 Lib.pow10Tab := rfl
theorem laid_all {W : World} (h : laidMetH Tryz.prog Rows.asmWritesRow.laid W) : NamesOk W ∧ ErrsOk W ∧ PowOk W := by
  rw [MakeChecks.laidMetH_plain _ _ _ (by kernel_rfl)] at h
  have h2 : laidMet Tryz.prog (("internal/strconv.uint64pow10", Rows.laid_internal_strconv_uint64pow10) :: _) W := h.tail.tail
  have h4 : laidMet Tryz.prog (("strconv.ErrRange", Rows.laid_strconv_ErrRange) :: _) W := h.tail.tail.tail.tail
  rw [pow_datum] at h2
  exact ⟨laid_names h4.tail.tail (by kernel_rfl), ⟨laid_err h4.tail (by kernel_rfl) gSynT, laid_err h4 (by kernel_rfl) gRngT⟩,
    Lib.tabIs_of_head (by kernel_rfl) gPowT Tryz.underlying136 Tryz.underlying82 (by kernel_rfl) (by kernel_rfl) h2⟩
end Go.Proofs.YtpnmnokedpagmaaGreatDoor
