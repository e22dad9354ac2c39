/-
  Layer 13 (ledger): contracts of at, Left, Quota, over the translated program.
-/
import Derived.Test.YtcdbdgmjdmkfeaaLgBase
namespace Go.Proofs.Ytcdbdgmjdmkfeaa.Lg
open Go.ChangeShapes Go.WideShapes Go.ChangeAt Go.RowKit
set_option linter.unusedVariables false
set_option maxRecDepth 20000

/-- The deferred Unlock runs, and the call has ended. -/
theorem leave_unlock {fn : Func} {tmps : Array Value} {R : Ending → World → Prop} {w : World} {b : Nat} {q u : Tb} (h : LdAt w b 1 q u)
    (hr : ∃ v, (results fn tmps).run Try.prog (w.setCell ⟨b, 0, none⟩ (.int .i32 0)) = .ok v (w.setCell ⟨b, 0, none⟩ (.int .i32 0)) ∧ R (.returned v) (w.setCell ⟨b, 0, none⟩ (.int .i32 0))) :
    Leaves Try.prog fn tmps R [{ target := .fn (.func 26) #[], args := #[.pointer (some ⟨b, 0, none⟩)] }] .returning w := by
  refine leaves_cons (f := 26) (args := #[.pointer (some ⟨b, 0, none⟩)]) (by simp) (by simp [go_sem]) ?_
  refine (mutex_unlock ⟨b, 0, none⟩ .returning w h.lock.1 h.lock.2).mono ?_
  rintro e u' w'' ⟨rfl, rfl, rfl⟩
  exact hr
theorem two_one (a b : Int) : ∀ u ∈ [Value.int .i64 a, .int .i64 b], u.oneCell' = true := by
  intro v hv
  simp only [List.mem_cons, List.not_mem_nil, or_false] at hv
  rcases hv with rfl | rfl <;> rfl
theorem there_set {w : World} {g o n : Nat} (h : w.there g o n) (p : Addr) (v : Value) : (w.setCell p v).there g o n := fun j hj => by
  obtain ⟨h1, h2⟩ := h j hj
  refine ⟨?_, by rw [World.frozen?_setCell]; exact h2⟩
  by_cases hp : p = ⟨g, o + j, none⟩
  · subst hp
    obtain ⟨x, hx⟩ := Option.isSome_iff_exists.1 h1
    rw [World.cell?_setCell_same _ _ _ hx]
    rfl
  · rw [World.cell?_setCell_other _ _ _ _ hp]
    exact h1
theorem infoRow : (Try.prog.info? 54).map (·.size) = some 2 := by kernel_rfl
theorem LdAt.row {w : World} {b : Nat} {s : Int} {q u : Tb} (h : LdAt w b s q u) (e k : Nat) (he : e < 16) (hk : k < 4) : w.rangeAt b (2 + e * 8 + k * 2) [.int .i64 (q e k), .int .i64 (u e k)] :=
  VB.range h _ (by show 2 + e * 8 + k * 2 + 2 ≤ 130; omega) fun i hi => by
    have hi2 : i < 2 := hi
    rcases Nat.lt_or_ge i 1 with h1 | h1
    · obtain rfl : i = 0 := by omega
      rw [Nat.add_zero, lv_q _ _ _ _ _ hk]; rfl
    · obtain rfl : i = 1 := by omega
      rw [lv_u _ _ _ _ _ hk]; rfl
theorem at_no (b : Nat) (e k : Int) (w : World) (h : ¬ hsP e k) :
    Calls Try.prog 20 #[.pointer (some ⟨b, 0, none⟩), .int .i64 e, .int .i64 k] w fun r w' => r = .returned (.agg #[.int .i64 0, .int .i64 0]) ∧ But [] w w' := by
  have HV : Hid (hsB e k = false) := decide_eq_false h
  clear h
  go_enter_defers Try.func20, Try.ntmps20
  go_wp2_with fail
  refine (has_c b e k _).mono ?_
  rw [HV.out]
  rintro r w1 ⟨rfl, rfl⟩
  go_wp2
  have hR := new_range w [.int .i64 0, .int .i64 0] 54
  exact ⟨_, results_range1 rfl _ _ _ 0 [.int .i64 0, .int .i64 0] _ rfl hR Try.underlying54 rfl infoRow, rfl, (But.refl _ _).alloc _⟩
theorem at_yes (b : Nat) (q u : Tb) (e k : Nat) (w : World) (h : LdAt w b 0 q u) (he : e < 16) (hk : k < 4) :
    Calls Try.prog 20 #[.pointer (some ⟨b, 0, none⟩), .int .i64 e, .int .i64 k] w fun r w' => r = .returned (.agg #[.int .i64 (q e k), .int .i64 (u e k)]) ∧ LdAt w' b 0 q u ∧ But [b] w w' := by
  have HV : Hid (hsB e k = true) := decide_eq_true ⟨⟨by omega, by omega⟩, by omega, by omega⟩
  have H : Hid (LdAt w b 0 q u) := h
  have hbl := h.lt
  clear h
  obtain ⟨g, hg⟩ : ∃ g, g = w.heap.size := ⟨_, rfl⟩
  have HG : Hid (g = w.heap.size) := hg
  clear hg
  go_enter_defers Try.func20, Try.ntmps20
  go_wp2_with fail
  refine (has_c b e k _).mono ?_
  rw [HV.out]
  rintro r w1 ⟨rfl, rfl⟩
  go_wp2_with fail
  have H0 : Hid (LdAt (w.alloc (.cells #[.int .i64 0, .int .i64 0] 54)) b 0 q u) := H.out.keep ((But.refl [] w).alloc _) (by simp)
  refine (mutex_lock ⟨b, 0, none⟩ _ H0.out.lock.1 H0.out.lock.2).mono ?_
  rintro r w1 ⟨rfl, rfl⟩
  have H1 : Hid (LdAt ((w.alloc (.cells #[.int .i64 0, .int .i64 0] 54)).setCell ⟨b, 0, none⟩ (.int .i32 1)) b 1 q u) := H0.out.setLock 1
  have HT : Hid ((((w.alloc (.cells #[.int .i64 0, .int .i64 0] 54)).setCell ⟨b, 0, none⟩ (.int .i32 1))).there w.heap.size 0 2) := there_set (there_new _ _ _ 2 rfl) _ _
  have HK : Hid (But [b] w ((w.alloc (.cells #[.int .i64 0, .int .i64 0] 54)).setCell ⟨b, 0, none⟩ (.int .i32 1))) := ((But.refl [b] w).alloc _).setCell (.inl (by simp)) _
  generalize (w.alloc (.cells #[.int .i64 0, .int .i64 0] 54)).setCell ⟨b, 0, none⟩ (.int .i32 1) = w1 at H1 HT HK ⊢
  rw [← HG.out] at HT ⊢
  go_wp2_with (first
    | (refine wpList_load_mid rfl 54 _ rfl b (2 + e * 8 + k * 2) rfl [.int .i64 (q e k), .int .i64 (u e k)] _ (H1.out.row e k he hk) Try.underlying54 rfl infoRow ?_)
    | (refine wpList_store_mid rfl 54 _ _ rfl g 0 #[.int .i64 (q e k), .int .i64 (u e k)] rfl rfl HT.out infoRow (all_oneCell_toArray (two_one _ _)) ?_))
  have HL : Hid (LdAt (w1.setCells g 0 [.int .i64 (q e k), .int .i64 (u e k)]) b 1 q u) := H1.out.keep ((But.refl [g] w1).setCells (.inl (by simp)) _ _) (by have := HG.out; simp; omega)
  have HR := (World.rangeAt_setCells_same w1 g 0 [.int .i64 (q e k), .int .i64 (u e k)] HT.out)
  have HK2 : But [b] w (w1.setCells g 0 [.int .i64 (q e k), .int .i64 (u e k)]) := HK.out.setCells (.inr (by have := HG.out; omega)) _ _
  refine leave_unlock HL.out ⟨_, results_range1 rfl _ _ g 0 [.int .i64 (q e k), .int .i64 (u e k)] _ rfl ?_ Try.underlying54 rfl infoRow, rfl, HL.out.setLock 0, HK2.setCell (.inl (by simp)) _⟩
  exact range_keep HR ((But.refl [b] _).setCell (.inl (by simp)) _) (by have := HG.out; simp; omega)
theorem at_nil (e k : Int) (w : World) :
    Calls Try.prog 20 #[.pointer none, .int .i64 e, .int .i64 k] w fun r w' => r = .returned (.agg #[.int .i64 0, .int .i64 0]) ∧ But [] w w' := by
  go_enter_defers Try.func20, Try.ntmps20
  go_wp2_with fail
  refine (has_nil e k _).mono ?_
  rintro r w1 ⟨rfl, rfl⟩
  go_wp2
  have hR := new_range w [.int .i64 0, .int .i64 0] 54
  exact ⟨_, results_range1 rfl _ _ _ 0 [.int .i64 0, .int .i64 0] _ rfl hR Try.underlying54 rfl infoRow, rfl, (But.refl _ _).alloc _⟩
/-- at tells what gt tells. -/
theorem at_c (b : Nat) (q u : Tb) (e k : Int) (w : World) (h : LdAt w b 0 q u) :
    Calls Try.prog 20 #[.pointer (some ⟨b, 0, none⟩), .int .i64 e, .int .i64 k] w fun r w' => r = .returned (.agg #[.int .i64 (gt q e k), .int .i64 (gt u e k)]) ∧ LdAt w' b 0 q u ∧ But [b] w w' := by
  by_cases hs : hsP e k
  · have hs' := hs
    obtain ⟨⟨h0, h1⟩, h2, h3⟩ := hs'
    obtain ⟨i, rfl⟩ : ∃ i : Nat, e = i := ⟨e.toNat, by omega⟩
    obtain ⟨j, rfl⟩ : ∃ j : Nat, k = j := ⟨k.toNat, by omega⟩
    rw [gt_nat _ _ _ (by omega) (by omega), gt_nat _ _ _ (by omega) (by omega)]
    exact at_yes b q u i j w h (by omega) (by omega)
  · rw [show gt q e k = 0 from if_neg hs, show gt u e k = 0 from if_neg hs]
    refine (at_no b e k w hs).mono ?_
    rintro r w' ⟨rfl, k⟩
    exact ⟨rfl, h.keep k (by simp), k.any _⟩
/-- What is left of a ledger as it can come about is a small number. -/
theorem Ok.gt_le {q u : Tb} {T : Nat → Int} (h : Ok q u T) (e k : Int) : 0 ≤ gt u e k ∧ gt u e k ≤ gt q e k ∧ gt q e k ≤ 512 := by
  by_cases hs : hsP e k
  · have hs' := hs
    obtain ⟨⟨h0, h1⟩, h2, h3⟩ := hs'
    rw [show gt q e k = q e.toNat k.toNat from if_pos hs, show gt u e k = u e.toNat k.toNat from if_pos hs]
    exact h.le _ _ (by omega) (by omega)
  · rw [show gt q e k = 0 from if_neg hs, show gt u e k = 0 from if_neg hs]
    omega
theorem wrap_small (x : Int) (h0 : -1024 ≤ x) (h1 : x ≤ 1024) : IntKind.i64.wrap x = x := by
  simp [IntKind.wrap, IntKind.signed, IntKind.bits]
  omega
theorem left_c (b : Nat) (q u : Tb) (T : Nat → Int) (e k : Int) (w : World) (h : LdAt w b 0 q u) (ho : Ok q u T) :
    Calls Try.prog 10 #[.pointer (some ⟨b, 0, none⟩), .int .i64 e, .int .i64 k] w fun r w' => r = .returned (.int .i64 (gt q e k - gt u e k)) ∧ LdAt w' b 0 q u ∧ But [b] w w' := by
  obtain ⟨g1, g2, g3⟩ := ho.gt_le e k
  have HW : Hid (IntKind.i64.wrap (gt q e k - gt u e k) = gt q e k - gt u e k) := wrap_small _ (by omega) (by omega)
  have H : Hid (LdAt w b 0 q u) := h
  clear h ho g1 g2 g3
  go_enter Try.func10, Try.ntmps10
  go_wp2_with fail
  refine (at_c b q u e k _ H.out).mono ?_
  rintro r w1 ⟨rfl, h1, k1⟩
  have H1 : Hid (LdAt w1 b 0 q u) := h1
  have K1 : Hid (But [b] w w1) := k1
  clear h1 k1
  go_wp2_with fail
  refine (rleft_c (gt q e k) (gt u e k) _ HW.out).mono ?_
  rintro r w2 ⟨rfl, k2⟩
  have H2 : Hid (LdAt w2 b 0 q u) := H1.out.keep k2 (by simp)
  have K2 : Hid (But [b] w w2) := K1.out.trans (k2.any _)
  clear k2
  go_wp2
  go_ret
  exact ⟨rfl, H2.out, K2.out⟩
theorem left_nil (e k : Int) (w : World) :
    Calls Try.prog 10 #[.pointer none, .int .i64 e, .int .i64 k] w fun r w' => r = .returned (.int .i64 0) ∧ But [] w w' := by
  go_enter Try.func10, Try.ntmps10
  go_wp2_with fail
  refine (at_nil e k _).mono ?_
  rintro r w1 ⟨rfl, k1⟩
  have K1 : Hid (But [] w w1) := k1
  clear k1
  go_wp2_with fail
  refine (rleft_c 0 0 _ rfl).mono ?_
  rintro r w2 ⟨rfl, k2⟩
  have K2 : Hid (But [] w w2) := K1.out.trans k2
  clear k2
  go_wp2
  go_ret
  exact ⟨rfl, K2.out⟩
theorem quota_of (P : Option Addr) (x y : Int) (e k : Int) (w : World) (F : World → Prop) (hF : ∀ w1 w2, F w1 → But [] w1 w2 → F w2)
    (hat : ∀ w0, But [] w w0 → Calls Try.prog 20 #[.pointer P, .int .i64 e, .int .i64 k] w0 fun r w' => r = .returned (.agg #[.int .i64 x, .int .i64 y]) ∧ F w') :
    Calls Try.prog 9 #[.pointer P, .int .i64 e, .int .i64 k] w fun r w' => r = .returned (.tuple #[.int .i64 x, .int .i64 y]) ∧ F w' := by
  have HF : Hid (∀ w1 w2, F w1 → But [] w1 w2 → F w2) := hF
  have HA : Hid (∀ w0, But [] w w0 → Calls Try.prog 20 #[.pointer P, .int .i64 e, .int .i64 k] w0 fun r w' => r = .returned (.agg #[.int .i64 x, .int .i64 y]) ∧ F w') := hat
  clear hF hat
  go_enter Try.func9, Try.ntmps9
  go_wp2_with fail
  refine (HA.out _ (But.refl _ _)).mono ?_
  rintro r w1 ⟨rfl, h1⟩
  have H1 : Hid (F w1) := h1
  clear h1
  have HT := there_new w1 #[.int .i64 0, .int .i64 0] 54 2 rfl
  go_wp2_with (first
    | (refine wpList_store_mid rfl 54 _ _ rfl w1.heap.size 0 #[.int .i64 x, .int .i64 y] rfl rfl HT infoRow (all_oneCell_toArray (two_one _ _)) ?_))
  have HR := World.rangeAt_setCells_same (w1.alloc (.cells #[.int .i64 0, .int .i64 0] 54)) w1.heap.size 0 [.int .i64 x, .int .i64 y] HT
  have HK : But [] w1 ((w1.alloc (.cells #[.int .i64 0, .int .i64 0] 54)).setCells w1.heap.size 0 [.int .i64 x, .int .i64 y]) := ((But.refl [] w1).alloc _).setCells (.inr (Nat.le_refl _)) _ _
  have H2 : Hid (F ((w1.alloc (.cells #[.int .i64 0, .int .i64 0] 54)).setCells w1.heap.size 0 [.int .i64 x, .int .i64 y])) := HF.out _ _ H1.out HK
  have hx : ((w1.alloc (.cells #[.int .i64 0, .int .i64 0] 54)).setCells w1.heap.size 0 [.int .i64 x, .int .i64 y]).cell? ⟨w1.heap.size, 0, none⟩ = some (.int .i64 x) := range_cells HR 0 _ rfl
  have hy : ((w1.alloc (.cells #[.int .i64 0, .int .i64 0] 54)).setCells w1.heap.size 0 [.int .i64 x, .int .i64 y]).cell? ⟨w1.heap.size, 1, none⟩ = some (.int .i64 y) := range_cells HR 1 _ rfl
  generalize (w1.alloc (.cells #[.int .i64 0, .int .i64 0] 54)).setCells w1.heap.size 0 [.int .i64 x, .int .i64 y] = w2 at H2 hx hy ⊢
  clear HR HK HT H1
  simp only [Act.put]
  go_wp2
  go_quiet (fail)
  go_wp2
  go_ret2
  exact ⟨rfl, HF.out _ _ H2.out ((But.refl _ _).drewN _)⟩
theorem quota_c (b : Nat) (q u : Tb) (e k : Int) (w : World) (h : LdAt w b 0 q u) :
    Calls Try.prog 9 #[.pointer (some ⟨b, 0, none⟩), .int .i64 e, .int .i64 k] w fun r w' => r = .returned (.tuple #[.int .i64 (gt q e k), .int .i64 (gt u e k)]) ∧ LdAt w' b 0 q u ∧ But [b] w w' :=
  quota_of _ _ _ e k w (fun w' => LdAt w' b 0 q u ∧ But [b] w w') (fun w1 w2 h1 k1 => ⟨h1.1.keep k1 (by simp), h1.2.trans (k1.any _)⟩)
    (fun w0 k0 => (at_c b q u e k w0 (h.keep k0 (by simp))).mono fun r w1 h1 => ⟨h1.1, h1.2.1, (k0.any _).trans h1.2.2⟩)
theorem quota_nil (e k : Int) (w : World) :
    Calls Try.prog 9 #[.pointer none, .int .i64 e, .int .i64 k] w fun r w' => r = .returned (.tuple #[.int .i64 0, .int .i64 0]) ∧ But [] w w' :=
  quota_of _ _ _ e k w (fun w' => But [] w w') (fun w1 w2 h1 k1 => h1.trans k1) (fun w0 k0 => (at_nil e k w0).mono fun r w1 h1 => ⟨h1.1, k0.trans h1.2⟩)
end Go.Proofs.Ytcdbdgmjdmkfeaa.Lg
