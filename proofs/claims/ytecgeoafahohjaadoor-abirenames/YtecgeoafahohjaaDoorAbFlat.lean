/-
  Layer 14 (abi): a call that came in; what the listed variable holds when a statement's call begins.
-/
import Derived.Test.YtecgeoafahohjaaDoorRows
import Derived.Test.YtecgeoafahohjaaDoorAbCall
import Derived.Test.YtecgeoafahohjaaDoorFlat
import Derived.Stop.LaidErr
import Derived.LaidLaws
import Derived.MakeChecks
import Derived.OpenShut
import Derived.ProofKit
namespace Go.Proofs.YtecgeoafahohjaaDoor
open Go.ChangeShapes Go.WideShapes Go.ChangeAt Go.RowKit
set_option linter.unusedVariables false

theorem flatInt : FlatT Tryd.prog 3 [.int .i64] := flat_int Tryd.underlying3 (by kernel_rfl)
theorem flatU32 : FlatT Tryd.prog 23 [.int .u32] := flat_int Tryd.underlying23 (by kernel_rfl)
def ks_four : List Pk := [.int .i64, .int .i64, .int .i64, .int .i64]
theorem flatFour : FlatT Tryd.prog 22 ks_four := flat_array (n := 4) Tryd.underlying22 (by kernel_rfl) flatInt (by decide) (by decide)
def ks_regs : List Pk := List.replicate 16 (.int .u32)
theorem flatRegs : FlatT Tryd.prog 24 ks_regs := flat_array Tryd.underlying24 (by kernel_rfl) flatU32 (by decide) (by decide)
theorem flatWords : FlatT Tryd.prog 25 ks_regs := flat_array Tryd.underlying25 (by kernel_rfl) flatU32 (by decide) (by decide)
def ks_ctx : List Pk := List.replicate 17 (.int .u32)
def kd_ctx (t : TypeId) : List Pk := if t = 24 then ks_regs else [.int .u32]
theorem flatCtx : FlatT Tryd.prog 27 ks_ctx :=
  flat_struct kd_ctx Tryd.underlying27 (by kernel_rfl)
    (by
      intro f hf
      simp only [List.mem_cons, List.not_mem_nil, or_false] at hf
      rcases hf with rfl | rfl
      · exact flatRegs
      · exact flatU32)
    (by decide)
def ks_flatCall : List Pk := .int .i64 :: .int .i64 :: .int .i64 :: .int .i64 :: .int .i64 :: List.replicate 33 (.int .u32)
def kd_call (t : TypeId) : List Pk := if t = 3 then [.int .i64] else if t = 22 then ks_four else if t = 25 then ks_regs else ks_ctx
theorem flatCall : FlatT Tryd.prog 29 ks_flatCall :=
  flat_struct kd_call Tryd.underlying29 (by kernel_rfl)
    (by
      intro f hf
      simp only [List.mem_cons, List.not_mem_nil, or_false] at hf
      rcases hf with rfl | rfl | rfl | rfl
      · exact flatInt
      · exact flatFour
      · exact flatWords
      · exact flatCtx)
    (by decide)
theorem words_of : ∀ (n : Nat) {vs : List Value}, Fits (List.replicate n (.int .u32)) vs → ∃ c : List Int, c.length = n ∧ vs = Ab.uv c
  | 0, vs, h => ⟨[], rfl, fits_nil h⟩
  | n + 1, vs, h => by
    obtain ⟨v, vs', rfl, ⟨x, rfl, hw⟩, h'⟩ := fits_cons (k := .int .u32) (ks := List.replicate n (.int .u32)) h
    obtain ⟨c, hl, rfl⟩ := words_of n h'
    exact ⟨x :: c, by simp [hl], rfl⟩
/-- A call, written out. -/
theorem call_of {vs : List Value} (h : Fits ks_flatCall vs) : ∃ (x : Int) (g : Nat → Int) (r : List Int), vs = Ab.cv x g r ∧ r.length = 33 := by
  obtain ⟨v0, l0, rfl, ⟨x, rfl, _⟩, h0⟩ := fits_cons h
  obtain ⟨v1, l1, rfl, ⟨a0, rfl, _⟩, h1⟩ := fits_cons h0
  obtain ⟨v2, l2, rfl, ⟨a1, rfl, _⟩, h2⟩ := fits_cons h1
  obtain ⟨v3, l3, rfl, ⟨a2, rfl, _⟩, h3⟩ := fits_cons h2
  obtain ⟨v4, l4, rfl, ⟨a3, rfl, _⟩, h4⟩ := fits_cons h3
  obtain ⟨r, hr, rfl⟩ := words_of 33 h4
  exact ⟨x, fun j => if j = 0 then a0 else if j = 1 then a1 else if j = 2 then a2 else a3, r, rfl, hr⟩

theorem strs_of_trod {H : Type} {enc : TypeId × Value → H} {P : Program} {W : World} {base : Nat} {sp : Nat → Bool} {held : Bool} {fuel : Nat} {t e : TypeId} {n : Nat} {cs : List Value} {l : List (List UInt8)} {q : List MemPlace}
    (h : DataW.trod enc P W base sp held fuel t cs = some (.agg (l.map fun b => .lit (.string b)), q)) (ht : P.underlying t = some (.array n e)) (he : P.underlying e = some .string) (ce : P.cellsOf e = 1) (ct : P.cellsOf t = n) (hl : l.length = n) :
    cs = l.map fun b => Value.string (Ab.sv b) := by
  obtain ⟨xs, m, rfl, hx, hlen, hn, hel⟩ := DataW.trod_array ht h
  simp only [Prod.mk.injEq, DataW.agg.injEq] at hx
  obtain ⟨hx, -⟩ := hx
  rw [ct] at hlen
  rw [ce] at hel
  apply List.ext_getElem?
  intro i
  by_cases hi : i < n
  · have hi' := hel i hi
    have hxi : i < xs.length := by omega
    have hli : i < l.length := by omega
    have hci : i < cs.length := by omega
    rw [Nat.mul_one, List.getElem?_eq_getElem hxi] at hi'
    obtain ⟨s, hs1, hs2, -⟩ := DataW.trod_string he hi'
    have e1 : xs[i].1 = .lit (.string l[i]) := by
      have := congrArg (fun z => z[i]?) hx
      simp [hxi, hli] at this
      exact this.symm
    rw [hs2] at e1
    simp only [DataW.lit.injEq, Lit.string.injEq] at e1
    have hc1 : cs[i] = .string s := by
      have := congrArg (fun z => z[0]?) hs1
      simp [hci] at this
      exact this
    rw [List.getElem?_eq_getElem hci, hc1]
    simp only [List.getElem?_map, List.getElem?_eq_getElem hli, Option.map_some]
    rw [← e1]
    obtain ⟨⟨s⟩⟩ := s
    simp [Ab.sv]
  · rw [List.getElem?_eq_none (by omega), List.getElem?_eq_none (by simp; omega)]
theorem gNumT : (Tryd.prog.globals[0]?).map (·.type) = some 52 := by kernel_rfl
theorem num_datum : (Rows.laid_onionskin_abi_numbers : DataW Unit) = .agg (Ab.tabL.map fun b => .lit (.string b)) := rfl
theorem laid_num {W : World} {r : List (String × DataW Unit)} {nm : String} (h : laidMet Tryd.prog ((nm, Rows.laid_onionskin_abi_numbers) :: r) W) (hg : Tryd.prog.globalNamed nm = some 0) : Ab.NumOk W := by
  obtain ⟨ps, ⟨g0, t0, cs0, f0, p0, q0, hg0, ht0, hv0, hd0, _, e0⟩, _, hrows⟩ := h
  obtain rfl := Option.some.inj (hg.symm.trans hg0)
  obtain rfl := Option.some.inj (gNumT.symm.trans ht0)
  rw [num_datum] at hd0
  have hcs := strs_of_trod hd0 Tryd.underlying52 Tryd.underlying9 (by kernel_rfl) (by kernel_rfl) rfl
  have hcs' : cs0 = Ab.numV.toArray := by cases cs0; simp at hcs; rw [hcs]; rfl
  subst hcs'
  unfold World.var? at hv0
  rw [hg] at hv0
  simp only [Option.bind_some] at hv0
  split at hv0
  · rename_i cs t fr hh
    injection hv0 with hv0
    subst hv0
    exact ⟨t, fr, hh⟩
  · cases hv0
theorem laid_ok {W : World} (h : laidMetH Tryd.prog [("onionskin/abi.numbers", Rows.laid_onionskin_abi_numbers)] W) : Ab.NumOk W := by
  rw [MakeChecks.laidMetH_plain _ _ _ (by kernel_rfl)] at h
  exact laid_num h (by kernel_rfl)
end Go.Proofs.YtecgeoafahohjaaDoor
