/-
  Layer 15 (bind): bindings that stand in a map by structs: what the map's operations make of them.
-/
import Derived.Test.YtiklneamdfgahaaBdKey
namespace Go.Proofs.Ytiklneamdfgahaa.Bd
open Go.ChangeShapes Go.WideShapes Go.ChangeAt Go.RowKit
open Go.Maps (Keyed)
set_option linter.unusedVariables false
set_option maxRecDepth 20000

theorem hid {p : Prop} (h : p) : Hid p := h
theorem i64_small {x : Int} (h0 : -4096 ≤ x) (h1 : x ≤ 4096) : I64 x := WalkArith.wf_i64 (by omega)
theorem hs_i64 {s p : Int} (h : hsP s p) : I64 s ∧ I64 p := by
  obtain ⟨⟨h0, h1⟩, h2, h3⟩ := h
  exact ⟨i64_small (by omega) (by omega), i64_small (by omega) (by omega)⟩
/-- The entries D are the bindings T. -/
structure Rp (D : DataW Unit) (T : Tb) : Prop where
  has : ∀ s p, I64 s → I64 p → Maps.has D (kl s p) = (gt T s p).isSome
  val : ∀ s p b, I64 s → I64 p → gt T s p = some b → ∀ z, D.atKey (kl s p) z = bd b
  size : Maps.size D = cn T 2048
theorem gt_no (s p : Int) : gt no s p = none := by unfold gt no; simp
theorem cn_no : cn no 2048 = 0 := ct_none 2048 (fun _ _ => rfl)
theorem Rp.empty : Rp (.map []) no :=
  ⟨(fun s p _ _ => by rw [gt_no]; rfl), (fun s p b _ _ h => by rw [gt_no] at h; cases h), (by rw [cn_no]; rfl)⟩
theorem Rp.put {D : DataW Unit} {T : Tb} (h : Rp D T) (ht : Maps.Tidy D) {s p : Int} (hs : hsP s p) (b : Fw) : Rp (D.put (kl s p) (bd b)) (up T (pl s p) (some b)) := by
  obtain ⟨i1, i2⟩ := hs_i64 hs
  refine ⟨fun s' p' h1 h2 => ?_, fun s' p' b' h1 h2 hb z => ?_, ?_⟩
  · by_cases he : s' = s ∧ p' = p
    · obtain ⟨rfl, rfl⟩ := he
      rw [Maps.has_put_same ht.isMap (kl_key i1 i2), gt_up T hs]; rfl
    · rw [Maps.has_put_other (fun e => he (kl_inj h1 h2 i1 i2 e)), gt_up_else T hs _ he]
      exact h.has s' p' h1 h2
  · by_cases he : s' = s ∧ p' = p
    · obtain ⟨rfl, rfl⟩ := he
      rw [gt_up T hs] at hb
      injection hb with hb
      subst hb
      exact Maps.atKey_put_same ht.isMap (kl_key i1 i2) _ _
    · rw [gt_up_else T hs _ he] at hb
      rw [Maps.atKey_put_other (fun e => he (kl_inj h1 h2 i1 i2 e))]
      exact h.val s' p' b' h1 h2 hb z
  · rw [Maps.size_put ht, h.has s p i1 i2, gt_in hs, h.size, cn_up]
    have hl := pl_lt hs
    cases hb : T (pl s p) with
    | none =>
      have e1 : bd1 T (pl s p) = false := by unfold bd1; rw [hb]; rfl
      rw [if_neg (show ¬ (none : Option Fw).isSome = true by simp), if_pos (And.intro hl e1)]
    | some b' =>
      have e1 : ¬ (pl s p < 2048 ∧ bd1 T (pl s p) = false) := fun hh => by have := hh.2; unfold bd1 at this; rw [hb] at this; cases this
      rw [if_pos (show (some b').isSome = true from rfl), if_neg e1]; rfl
theorem Rp.del {D : DataW Unit} {T : Tb} (h : Rp D T) (ht : Maps.Tidy D) {s p : Int} (hs : hsP s p) : Rp (D.del (kl s p)) (up T (pl s p) none) := by
  obtain ⟨i1, i2⟩ := hs_i64 hs
  refine ⟨fun s' p' h1 h2 => ?_, fun s' p' b' h1 h2 hb z => ?_, ?_⟩
  · by_cases he : s' = s ∧ p' = p
    · obtain ⟨rfl, rfl⟩ := he
      rw [Maps.has_del_same, gt_up T hs]; rfl
    · rw [Maps.has_del_other (fun e => he (kl_inj h1 h2 i1 i2 e)), gt_up_else T hs _ he]
      exact h.has s' p' h1 h2
  · by_cases he : s' = s ∧ p' = p
    · obtain ⟨rfl, rfl⟩ := he
      rw [gt_up T hs] at hb
      cases hb
    · rw [gt_up_else T hs _ he] at hb
      rw [Maps.atKey_del_other (fun e => he (kl_inj h1 h2 i1 i2 e))]
      exact h.val s' p' b' h1 h2 hb z
  · have e1 := Maps.size_del (k := kl s p) ht
    have e2 := cn_down T (pl s p) 2048
    rw [h.has s p i1 i2, gt_in hs, h.size, ← e2] at e1
    have hl := pl_lt hs
    cases hb : T (pl s p) with
    | none =>
      have e3 : ¬ (pl s p < 2048 ∧ bd1 T (pl s p) = true) := fun hh => by have := hh.2; unfold bd1 at this; rw [hb] at this; cases this
      rw [hb, if_neg e3] at e1
      simpa using e1
    | some b' =>
      have e3 : pl s p < 2048 ∧ bd1 T (pl s p) = true := ⟨hl, by unfold bd1; rw [hb]; rfl⟩
      rw [hb, if_pos e3] at e1
      simpa using e1
/-- Drop of whatever numbers. -/
theorem Rp.drop {D : DataW Unit} {T : Tb} (h : Rp D T) (ht : Maps.Tidy D) {s p : Int} (h1 : I64 s) (h2 : I64 p) : Rp (D.del (kl s p)) (dl T s p) := by
  by_cases hs : hsP s p
  · rw [show dl T s p = up T (pl s p) none from if_pos hs]
    exact h.del ht hs
  · rw [show dl T s p = T from if_neg hs, Maps.del_of_not_has (by rw [h.has s p h1 h2, gt_out hs]; rfl)]
    exact h
/-- Block mb is a map of these bindings. -/
def MpAt (w : World) (mb : Nat) (T : Tb) : Prop := ∃ D, w.ownsMap Try.prog pT rdB mb 2048 D ∧ Rp D T
theorem own_tight {w : World} {b n : Nat} {D : DataW Unit} {P : Program} {k : TypeId} {R : Value → Option (DataW Unit × List MemPlace)} (h : w.ownsMap P k R b n D) {n' : Nat} (hn : Maps.size D ≤ n') : w.ownsMap P k R b n' D := by
  obtain ⟨es, clock, hb, F, hs, rfl⟩ := h
  refine ⟨es, clock, hb, F, ?_, rfl⟩
  simpa [Maps.size, length_sorted] using hn
theorem MpAt.lt {w : World} {mb : Nat} {T : Tb} (h : MpAt w mb T) : mb < w.heap.size := by
  obtain ⟨D, h1, _⟩ := h
  exact h1.lt
theorem But.toGrown {w w' : World} {l : List Nat} (h : But l w w') {row : Option Nat} (hl : ∀ k, k ∈ l → row = some k) : w.grownBy w' row :=
  ⟨h.os, h.tape, h.output, h.size, fun i hi hn => h.block i hi (fun hm => hn (hl i hm).symm)⟩
theorem MpAt.keep {l : List Nat} {w w' : World} {mb : Nat} {T : Tb} (h : MpAt w mb T) (k : But l w w') (hn : mb ∉ l) : MpAt w' mb T := by
  obtain ⟨D, h1, h2⟩ := h
  have hlt := h1.lt
  obtain ⟨es, clock, hb, F, hs, hD⟩ := h1
  exact ⟨D, ⟨es, clock, (k.block mb hlt hn).trans hb, F, hs, hD⟩, h2⟩
/-- What a map's value leads to. -/
def Mo (w : World) : Option Nat → Tb → Prop
  | none, T => T = no
  | some mb, T => MpAt w mb T
theorem Mo.keep {l : List Nat} {w w' : World} {mo : Option Nat} {T : Tb} (h : Mo w mo T) (k : But l w w') (hn : ∀ m, mo = some m → m ∉ l) : Mo w' mo T := by
  cases mo with
  | none => exact h
  | some mb => exact MpAt.keep h k (hn mb rfl)
theorem Mo.lt {w : World} {mo : Option Nat} {T : Tb} (h : Mo w mo T) : ∀ m, mo = some m → m < w.heap.size := by
  rintro m rfl
  exact MpAt.lt h
/-- What a look tells: the zero binding, where there is none. -/
def gtv (T : Tb) (s p : Int) : Fw := (gt T s p).getD (0, false)
/-- Is it bound? -/
def gtb (T : Tb) (s p : Int) : Bool := (gt T s p).isSome
theorem zBind (w : World) : (zeroValue bT).run Try.prog w = .ok (.agg #[.int .i64 0, .bool false]) w := by kernel_rfl
theorem look_run {w : World} {mo : Option Nat} {T : Tb} (h : Mo w mo T) {s p : Int} (h1 : I64 s) (h2 : I64 p) :
    (Instr.lookup mT (.map mo) (.agg #[.int .i64 s, .int .i64 p]) true).run Try.prog w = .ok (.tuple #[.agg #[.int .i64 (gtv T s p).1, .bool (gtv T s p).2], .bool (gtb T s p)]) w := by
  cases mo with
  | none =>
    obtain rfl : T = no := h
    have := Maps.look_nil (P := Try.prog) (w := w) true keyed Try.underlying54 (zBind w) (key_of h1 h2)
    rw [show gtv no s p = (0, false) by unfold gtv; rw [gt_no]; rfl, show gtb no s p = false by unfold gtb; rw [gt_no]; rfl]
    exact this
  | some mb =>
    obtain ⟨D, ho, hr⟩ := h
    obtain ⟨v, ps, hrun, hv⟩ := ho.look_ok keyed Try.underlying54 (zBind w) (rdB_mk (0, false)) (key_of h1 h2)
    rw [hr.has s p h1 h2] at hrun
    have hvv : v = bk (gtv T s p) := by
      obtain ⟨b, rfl, hy⟩ := rdB_inv hv
      have hy1 : D.atKey (kl s p) (bd (0, false)) = bd b := congrArg Prod.fst hy
      congr 1
      unfold gtv
      cases hb : gt T s p with
      | none =>
        rw [Maps.atKey_of_not_has (by rw [hr.has s p h1 h2, hb]; rfl)] at hy1
        exact (bd_inj hy1).symm
      | some b' =>
        rw [hr.val s p b' h1 h2 hb] at hy1
        exact (bd_inj hy1).symm
    rw [hvv] at hrun
    exact hrun
theorem len_run {w : World} {mo : Option Nat} {T : Tb} (h : Mo w mo T) (ty : TypeId) : (Builtin.len_ #[mT] ty #[.map mo]).run Try.prog w = .ok (.int .i64 (cn T 2048 : Nat)) w := by
  cases mo with
  | none =>
    obtain rfl : T = no := h
    rw [cn_no]
    exact Maps.len_nil Try.underlying54 ty
  | some mb =>
    obtain ⟨D, ho, hr⟩ := h
    rw [← hr.size]
    exact ho.len Try.underlying54 ty
theorem but_turned {w w' : World} {b : Nat} (h : w.mapTurned w' b) : But [b] w w' := (But.refl [b] w).grown h.grown (fun k hk => .inl (by injection hk with hk; simp [hk]))
theorem del_run {w : World} {mo : Option Nat} {T : Tb} (h : Mo w mo T) {s p : Int} (h1 : I64 s) (h2 : I64 p) (ty : TypeId) :
    ∃ w', (Builtin.delete_ #[mT, pT] ty #[.map mo, .agg #[.int .i64 s, .int .i64 p]]).run Try.prog w = .ok (.tuple #[]) w' ∧ Mo w' mo (dl T s p) ∧ But mo.toList w w' := by
  cases mo with
  | none =>
    obtain rfl : T = no := h
    refine ⟨w, Maps.drop_nil keyed Try.underlying54 (key_of h1 h2) ty, ?_, But.refl _ _⟩
    exact dl_none (gt_no s p)
  | some mb =>
    obtain ⟨D, ho, hr⟩ := h
    obtain ⟨w', hrun, ho', ht⟩ := ho.drop keyed Try.underlying54 (key_of h1 h2) ty
    exact ⟨w', hrun, ⟨_, ho', hr.drop (ho.tidy keyed) h1 h2⟩, but_turned ht⟩
theorem put_run {w : World} {mb : Nat} {T : Tb} (h : MpAt w mb T) {s p : Int} (hs : hsP s p) (b : Fw) :
    ∃ w', (Instr.mapUpdate mT (.map (some mb)) (.agg #[.int .i64 s, .int .i64 p]) (.agg #[.int .i64 b.1, .bool b.2])).run Try.prog w = .ok () w' ∧ MpAt w' mb (up T (pl s p) (some b)) ∧ But [mb] w w' := by
  obtain ⟨h1, h2⟩ := hs_i64 hs
  obtain ⟨D, ho, hr⟩ := h
  obtain ⟨w', hrun, ho', ht⟩ := ho.store keyed Try.underlying54 (by unfold maxLen; omega) (key_of h1 h2) (rdB_mk b)
  have hr' := hr.put (ho.tidy keyed) hs b
  exact ⟨w', hrun, ⟨_, own_tight ho' (by rw [hr'.size]; exact cn_le _ _), hr'⟩, but_turned ht⟩
theorem made_run (w : World) : MpAt (w.alloc (.map #[] 0)) w.heap.size no := ⟨_, (World.ownsMap_made w Try.prog pT rdB).mono (Nat.zero_le _), Rp.empty⟩

/-- Operations on a map, where their run is known. -/
theorem wpList_delete_known {P : Program} (w : World) {ops : Array Oper} {rest : List Oper} {o : Oper} {a : Act} {Q : Exit → Act → World → Prop} (hgd : o.guard = none) (m x : Operand) (t k : TypeId)
    (ho : o.op = Op.call { callee := Callee.builtin Builtin.delete, args := #[m, x], argTypes := #[t, k] }) (v u : Value) (hm : a.eval m = v) (hx : a.eval x = u) {w' : World}
    (hr : (Builtin.delete_ #[t, k] o.type #[v, u]).run P w = .ok (.tuple #[]) w') (h : wpList P ops Q rest (a.put o.dst (.tuple #[])) w') : wpList P ops Q (o :: rest) a w :=
  wpList_plain hgd fun K hK => by
    unfold Oper.wp execOp
    simp only [ho, resolve, invoke, builtin, Sem.run_bind, Sem.run_pure, Result.andThen_ok, List.map_toArray, List.map_cons, List.map_nil, hm, hx, hr]
    exact hK _ _ h
theorem wpList_mapUpdate_known {P : Program} (w : World) {ops : Array Oper} {rest : List Oper} {o : Oper} {a : Act} {Q : Exit → Act → World → Prop} (hgd : o.guard = none) (m x v : Operand) (t : TypeId) (ho : o.op = Op.mapUpdate t m x v)
    (vm vx vv : Value) (hm : a.eval m = vm) (hx : a.eval x = vx) (hv : a.eval v = vv) {w' : World}
    (hr : (Instr.mapUpdate t vm vx vv).run P w = .ok () w') (h : wpList P ops Q rest (a.put o.dst undef) w') : wpList P ops Q (o :: rest) a w :=
  wpList_plain hgd fun K hK => by
    unfold Oper.wp execOp
    simp only [ho, Sem.run_bind, Sem.run_pure, Result.andThen_ok, hm, hx, hv, hr]
    exact hK _ _ h
end Go.Proofs.Ytiklneamdfgahaa.Bd
