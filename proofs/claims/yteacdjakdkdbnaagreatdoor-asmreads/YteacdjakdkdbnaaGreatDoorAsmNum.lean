/-
  The document's own words for layer 3, the small ones: numbers, Ops, registers, labels.
-/
import Derived.Test.YteacdjakdkdbnaaGreatDoorAsmOps
import Derived.Deep.Strs
namespace Go.Proofs.YteacdjakdkdbnaaGreatDoor
open Go.RowKit
set_option linter.unusedVariables false
set_option linter.unusedSimpArgs false
set_option maxRecDepth 20000

/-- The number that digits spell. -/
def digVal (l : Bs) (acc : Nat) : Nat := l.foldl (fun a c => 10 * a + (c.toNat - 48)) acc
theorem digVal_snoc (l : Bs) (c : UInt8) : digVal (l ++ [c]) 0 = 10 * digVal l 0 + (c.toNat - 48) := by simp [digVal]
def stripM (q : Bs) : Bs := Lib.trimPrefix q [45]
def numOf (q : Bs) : Option Int :=
  if (stripM q).length = 0 ∨ 12 < (stripM q).length ∨ ((stripM q).head? = some 48 ∧ 1 < q.length) then none
  else if (stripM q).all digB then some (if (stripM q).length < q.length then -((digVal (stripM q) 0 : Nat) : Int) else (digVal (stripM q) 0 : Nat)) else none
def plainB (q : Bs) : Bool := !(stripM q).isEmpty && !((stripM q).head? == some 48) && (stripM q).all digB
theorem digVal_lt : ∀ (l : Bs) (k : Nat), l.length ≤ k → (∀ c ∈ l, digB c = true) → digVal l 0 < 10 ^ k := by
  intro l k hk hd
  have key : ∀ (l : Bs) (acc : Nat), (∀ c ∈ l, digB c = true) → digVal l acc < (acc + 1) * 10 ^ l.length := by
    intro l
    induction l with
    | nil => intro acc _; simp [digVal]
    | cons c t ih =>
      intro acc h
      have hc := h c (List.mem_cons_self ..)
      simp [digB] at hc
      have := ih (10 * acc + (c.toNat - 48)) (fun d hd => h d (List.mem_cons_of_mem _ hd))
      show digVal t (10 * acc + (c.toNat - 48)) < _
      refine Nat.lt_of_lt_of_le this ?_
      rw [List.length_cons, Nat.pow_succ, Nat.mul_comm (10 ^ t.length) 10, ← Nat.mul_assoc]
      exact Nat.mul_le_mul_right _ (by omega)
  have := key l 0 hd
  refine Nat.lt_of_lt_of_le this ?_
  rw [Nat.zero_add, Nat.one_mul]
  exact Nat.pow_le_pow_right (by decide) hk

theorem strip_cons (c : UInt8) (t : Bs) : stripM (c :: t) = if c = 45 then t else c :: t := by
  unfold stripM Lib.trimPrefix Lib.hasPrefix
  by_cases h : c = 45
  · subst h; simp
  · have h' : ¬ (45 : UInt8) = c := fun e => h e.symm
    simp [h, h', List.isPrefixOf]
theorem BA_drop1 (c : UInt8) (t : Bs) : (BA (c :: t)).extract 1 (BA (c :: t)).size = BA t := by
  rw [BA_extract, BA_size]; simp

set_option maxHeartbeats 2000000 in
theorem number_neg (d : Bs) (hd : d.length ≤ 4294967295) (w : World) : Calls Tryz.prog 32 #[.string (BA (45 :: d))] w fun e w' => e = .returned (.tuple #[.int .i64 ((numOf (45 :: d)).getD 0), .bool (numOf (45 :: d)).isSome]) ∧ w' = w := by
    obtain ⟨q, hq⟩ : ∃ q : Bs, q = 45 :: d := ⟨_, rfl⟩
    have HD : Hid (stripM q = d) := by show stripM q = d; rw [hq, strip_cons, if_pos rfl]
    have HQL : Hid (q.length = d.length + 1) := by show q.length = _; rw [hq]; rfl
    have hq0 : ∀ h, (BA q)[0]'h = 45 := fun h => by subst hq; rfl
    have hqs : 0 < (BA q).size := by rw [BA_size, hq]; simp
    have hq1 : (1 : Int) ≤ ((BA q).size : Int) := by omega
    have hqe : (BA q).extract 1 (BA q).size = BA d := by rw [hq]; exact BA_drop1 45 d
    have hqm : (BA q).size ≤ 4294967296 := by rw [BA_size, HQL.out]; omega
    rw [← hq]
    clear hq
    by_cases hd0 : d.length = 0
    · have hd0' : (((BA d).size : Int) == 0) = true := by rw [BA_size]; simp [hd0]
      have HR : Hid (numOf q = none) := by show numOf q = none; unfold numOf; rw [HD.out]; simp [hd0]
      go_enter Tryz.func32, Tryz.ntmps32
      go_wp2
      go_ret2
      exact ⟨by rw [HR.out]; rfl, rfl⟩
    by_cases hd12 : 12 < d.length
    · have hd12' : (12 : Int) < ((BA d).size : Int) := by rw [BA_size]; omega
      have hd0' : (((BA d).size : Int) == 0) = false := by rw [BA_size]; exact beq_eq_false_iff_ne.2 (by omega)
      have HR : Hid (numOf q = none) := by show numOf q = none; unfold numOf; rw [HD.out]; simp [hd12]
      go_enter Tryz.func32, Tryz.ntmps32
      go_wp2
      go_ret2
      exact ⟨by rw [HR.out]; rfl, rfl⟩
    have hds : 0 < (BA d).size := by rw [BA_size]; omega
    have hds12 : (BA d).size ≤ 12 := by rw [BA_size]; omega
    have hds13 : ¬ (12 : Int) < ((BA d).size : Int) := by omega
    have hd0' : (((BA d).size : Int) == 0) = false := beq_eq_false_iff_ne.2 (by omega)
    obtain ⟨c0, hc0, hh0⟩ : ∃ c0 : UInt8, (∀ h, (BA d)[0]'h = c0) ∧ d.head? = some c0 := by
      cases d with
      | nil => simp at hd0
      | cons a r => exact ⟨a, fun _ => rfl, rfl⟩
    have HH0 : Hid _ := hh0
    by_cases hz : c0 = 48 ∧ 1 < q.length
    · obtain ⟨rfl, hq1⟩ := hz
      have hq1' : (1 : Int) < ((BA q).size : Int) := by rw [BA_size]; omega
      have HR : Hid (numOf q = none) := by show numOf q = none; unfold numOf; rw [HD.out, HH0.out]; simp [hq1]
      go_enter Tryz.func32, Tryz.ntmps32
      go_wp2
      go_ret2
      exact ⟨by rw [HR.out]; rfl, rfl⟩
    have HNG : Hid (¬ (d.length = 0 ∨ 12 < d.length ∨ (d.head? = some 48 ∧ 1 < q.length))) := by
      show ¬ _
      rw [HH0.out]
      rintro (h | h | ⟨h1, h2⟩)
      · exact hd0 h
      · exact hd12 h
      · injection h1 with h1; exact hz ⟨h1, h2⟩
    have hzz : ((c0.toNat : Int) == 48) = false ∨ ¬ (1 : Int) < ((BA q).size : Int) := by
      by_cases h : c0 = 48
      · right; rw [BA_size]; intro h2; exact hz ⟨h, by omega⟩
      · left; simp; intro h2; exact h (UInt8.toNat_inj.1 (by rw [show (48 : UInt8).toNat = 48 from rfl]; omega))
    have HZ : Hid _ := hz
    have HSD : Hid ((BA d).size = d.length) := BA_size d
    clear hz hh0
    have hcase := hzz
    clear hzz
    go_enter Tryz.func32, Tryz.ntmps32
    rcases hcase with hcase | hcase
    all_goals go_wp2
    all_goals
      go_loop [5, 6] (fun n i => ∃ k : Nat, k ≤ (BA d).size ∧ i = .int .i64 k ∧ n = .int .i64 (digVal (d.take k) 0 : Nat) ∧ Hid (∀ j (h : j < d.length), j < k → digB d[j] = true)) (fun _ i => (BA d).size - (intOf i).toNat)
      case atStart => exact ⟨0, by omega, rfl, rfl, fun j _ hj => absurd hj (by omega)⟩
      case round =>
        obtain ⟨k, hk, rfl, rfl, HM⟩ := hrel
        by_cases hlt : k < (BA d).size
        · have hld : k < d.length := by have := HSD.out; omega
          obtain ⟨x, hx, hxd⟩ : ∃ x : UInt8, (∀ h, (BA d)[k]'h = x) ∧ ∀ h, d[k]'h = x := ⟨(BA d)[k]'hlt, fun _ => rfl, fun _ => rfl⟩
          have HX : Hid _ := hxd
          clear hxd
          by_cases h1 : (x.toNat : Int) < 48
          · have HR : Hid (numOf q = none) := by
              show numOf q = none
              unfold numOf; rw [HD.out, if_neg HNG.out, if_neg]
              rw [Bool.not_eq_true, List.all_eq_false]
              exact ⟨d[k]'hld, List.getElem_mem _, by rw [HX.out]; simp [digB]; omega⟩
            go_wp2
            go_ret2
            exact ⟨by rw [HR.out]; rfl, rfl⟩
          by_cases h2 : (57 : Int) < x.toNat
          · have HR : Hid (numOf q = none) := by
              show numOf q = none
              unfold numOf; rw [HD.out, if_neg HNG.out, if_neg]
              rw [Bool.not_eq_true, List.all_eq_false]
              exact ⟨d[k]'hld, List.getElem_mem _, by rw [HX.out]; simp [digB]; omega⟩
            go_wp2
            go_ret2
            exact ⟨by rw [HR.out]; rfl, rfl⟩
          have h1' : (48 : Int) ≤ x.toNat := by omega
          have h2' : (x.toNat : Int) ≤ 57 := by omega
          have hv : digVal (d.take k) 0 < 1000000000000 := digVal_lt (d.take k) 12 (by simp; omega) (fun c hc => by
            obtain ⟨j, hj, rfl⟩ := List.getElem_of_mem hc
            rw [List.getElem_take]
            exact HM.out j (by simp at hj; omega) (by simp at hj; omega))
          have HS : Hid (digVal (d.take (k + 1)) 0 = 10 * digVal (d.take k) 0 + (x.toNat - 48)) := by
            show _ = _
            rw [List.take_add_one, List.getElem?_eq_getElem hld, HX.out]; exact digVal_snoc _ _
          obtain ⟨V, hV⟩ : ∃ V, V = digVal (d.take k) 0 := ⟨_, rfl⟩
          rw [← hV] at hv
          have HV : Hid _ := hV
          rw [← hV]
          clear hV
          have hu8 : IntKind.u8.wrap ((x.toNat : Int) - 48) = (x.toNat : Int) - 48 := by rw [show IntKind.u8.wrap ((x.toNat : Int) - 48) = ((x.toNat : Int) - 48) % 256 from rfl]; omega
          go_wp2
          go_round
          case rel => exact ⟨k + 1, by omega, by go_num, by rw [HS.out, ← HV.out]; go_num, fun j h hj => by rcases Nat.lt_succ_iff_lt_or_eq.1 hj with h' | h'; exact HM.out j h h'; subst h'; rw [HX.out]; simp [digB]; omega⟩
          case measure => simp [intOf] <;> omega
        · obtain rfl : k = (BA d).size := by omega
          have HF : Hid (d.all digB = true) := by
            show d.all digB = true
            rw [List.all_eq_true]
            intro x hx
            obtain ⟨j, hj, rfl⟩ := List.getElem_of_mem hx
            exact HM.out j hj (by rw [HSD.out]; exact hj)
          have HV : Hid (digVal (d.take (BA d).size) 0 = digVal d 0) := by show _ = _; rw [HSD.out, List.take_length]
          have HR : Hid (numOf q = some (if d.length < q.length then -((digVal d 0 : Nat) : Int) else (digVal d 0 : Nat))) := by
            show numOf q = _
            unfold numOf; rw [HD.out, if_neg HNG.out, if_pos HF.out]
          have hv : digVal (d.take (BA d).size) 0 < 1000000000000 := digVal_lt _ 12 (by simp; omega) (fun c hc => by
            have := List.all_eq_true.1 HF.out c (List.mem_of_mem_take hc); exact this)
          have hsz : ((BA d).size : Int) < ((BA q).size : Int) := by rw [BA_size, BA_size]; have := HQL.out; omega
          go_wp2
          go_ret2
          exact ⟨by rw [HR.out]; rw [if_pos (by have := HQL.out; omega)]; simp only [Option.getD_some, Option.isSome_some, ← HV.out]; rfl, rfl⟩

set_option maxHeartbeats 2000000 in
theorem number_pos (q : Bs) (hne : q.head? ≠ some 45) (hq : q.length ≤ 4294967296) (w : World) : Calls Tryz.prog 32 #[.string (BA q)] w fun e w' => e = .returned (.tuple #[.int .i64 ((numOf q).getD 0), .bool (numOf q).isSome]) ∧ w' = w := by
    have HD : Hid (stripM q = q) := by
      show stripM q = q
      cases q with
      | nil => rfl
      | cons a r => rw [strip_cons, if_neg (fun h => hne (by rw [h]; rfl))]
    have HQL : Hid (q.length = q.length) := rfl
    have hqm : (BA q).size ≤ 4294967296 := by rw [BA_size]; exact hq
    by_cases hd0 : q.length = 0
    · have hd0x : (((BA q).size : Int) == 0) = true := by rw [BA_size]; simp [hd0]
      have hnp : ¬ 0 < (BA q).size := by rw [BA_size]; omega
      have HR : Hid (numOf q = none) := by show numOf q = none; unfold numOf; rw [HD.out]; simp [hd0]
      go_enter Tryz.func32, Tryz.ntmps32
      go_wp2
      go_ret2
      exact ⟨by rw [HR.out]; rfl, rfl⟩
    obtain ⟨c0, hc0, hh0⟩ : ∃ c0 : UInt8, (∀ h, (BA q)[0]'h = c0) ∧ q.head? = some c0 := by
      cases q with
      | nil => simp at hd0
      | cons a r => exact ⟨a, fun _ => rfl, rfl⟩
    have h45 : ((c0.toNat : Int) == 45) = false := beq_eq_false_iff_ne.2 (fun e => hne (by rw [hh0, show c0 = 45 from UInt8.toNat_inj.1 (by rw [show (45 : UInt8).toNat = 45 from rfl]; omega)]))
    have hds : 0 < (BA q).size := by rw [BA_size]; omega
    by_cases hd12 : 12 < q.length
    · have hd12' : (12 : Int) < ((BA q).size : Int) := by rw [BA_size]; omega
      have hd0x : (((BA q).size : Int) == 0) = false := by rw [BA_size]; exact beq_eq_false_iff_ne.2 (by omega)
      have HR : Hid (numOf q = none) := by show numOf q = none; unfold numOf; rw [HD.out]; simp [hd12]
      go_enter Tryz.func32, Tryz.ntmps32
      go_wp2
      go_ret2
      exact ⟨by rw [HR.out]; rfl, rfl⟩
    have hds12 : (BA q).size ≤ 12 := by rw [BA_size]; omega
    have hds13 : ¬ (12 : Int) < ((BA q).size : Int) := by omega
    have hd0x : (((BA q).size : Int) == 0) = false := beq_eq_false_iff_ne.2 (by omega)
    have HH0 : Hid _ := hh0
    by_cases hz : c0 = 48 ∧ 1 < q.length
    · obtain ⟨rfl, hq1⟩ := hz
      have hq1' : (1 : Int) < ((BA q).size : Int) := by rw [BA_size]; omega
      have HR : Hid (numOf q = none) := by show numOf q = none; unfold numOf; rw [HD.out, HH0.out]; simp [hq1]
      go_enter Tryz.func32, Tryz.ntmps32
      go_wp2
      go_ret2
      exact ⟨by rw [HR.out]; rfl, rfl⟩
    have HNG : Hid (¬ (q.length = 0 ∨ 12 < q.length ∨ (q.head? = some 48 ∧ 1 < q.length))) := by
      show ¬ _
      rw [HH0.out]
      rintro (h | h | ⟨h1, h2⟩)
      · exact hd0 h
      · exact hd12 h
      · injection h1 with h1; exact hz ⟨h1, h2⟩
    have hzz : ((c0.toNat : Int) == 48) = false ∨ ¬ (1 : Int) < ((BA q).size : Int) := by
      by_cases h : c0 = 48
      · right; rw [BA_size]; intro h2; exact hz ⟨h, by omega⟩
      · left; simp; intro h2; exact h (UInt8.toNat_inj.1 (by rw [show (48 : UInt8).toNat = 48 from rfl]; omega))
    have HZ : Hid _ := hz
    have HSD : Hid ((BA q).size = q.length) := BA_size q
    clear hz hh0
    have hcase := hzz
    clear hzz
    go_enter Tryz.func32, Tryz.ntmps32
    rcases hcase with hcase | hcase
    all_goals go_wp2
    all_goals
      go_loop [5, 6] (fun n i => ∃ k : Nat, k ≤ (BA q).size ∧ i = .int .i64 k ∧ n = .int .i64 (digVal (q.take k) 0 : Nat) ∧ Hid (∀ j (h : j < q.length), j < k → digB q[j] = true)) (fun _ i => (BA q).size - (intOf i).toNat)
      case atStart => exact ⟨0, by omega, rfl, rfl, fun j _ hj => absurd hj (by omega)⟩
      case round =>
        obtain ⟨k, hk, rfl, rfl, HM⟩ := hrel
        by_cases hlt : k < (BA q).size
        · have hld : k < q.length := by have := HSD.out; omega
          obtain ⟨x, hx, hxd⟩ : ∃ x : UInt8, (∀ h, (BA q)[k]'h = x) ∧ ∀ h, q[k]'h = x := ⟨(BA q)[k]'hlt, fun _ => rfl, fun _ => rfl⟩
          have HX : Hid _ := hxd
          clear hxd
          by_cases h1 : (x.toNat : Int) < 48
          · have HR : Hid (numOf q = none) := by
              show numOf q = none
              unfold numOf; rw [HD.out, if_neg HNG.out, if_neg]
              rw [Bool.not_eq_true, List.all_eq_false]
              exact ⟨q[k]'hld, List.getElem_mem _, by rw [HX.out]; simp [digB]; omega⟩
            go_wp2
            go_ret2
            exact ⟨by rw [HR.out]; rfl, rfl⟩
          by_cases h2 : (57 : Int) < x.toNat
          · have HR : Hid (numOf q = none) := by
              show numOf q = none
              unfold numOf; rw [HD.out, if_neg HNG.out, if_neg]
              rw [Bool.not_eq_true, List.all_eq_false]
              exact ⟨q[k]'hld, List.getElem_mem _, by rw [HX.out]; simp [digB]; omega⟩
            go_wp2
            go_ret2
            exact ⟨by rw [HR.out]; rfl, rfl⟩
          have h1' : (48 : Int) ≤ x.toNat := by omega
          have h2' : (x.toNat : Int) ≤ 57 := by omega
          have hv : digVal (q.take k) 0 < 1000000000000 := digVal_lt (q.take k) 12 (by simp; omega) (fun c hc => by
            obtain ⟨j, hj, rfl⟩ := List.getElem_of_mem hc
            rw [List.getElem_take]
            exact HM.out j (by simp at hj; omega) (by simp at hj; omega))
          have HS : Hid (digVal (q.take (k + 1)) 0 = 10 * digVal (q.take k) 0 + (x.toNat - 48)) := by
            show _ = _
            rw [List.take_add_one, List.getElem?_eq_getElem hld, HX.out]; exact digVal_snoc _ _
          obtain ⟨V, hV⟩ : ∃ V, V = digVal (q.take k) 0 := ⟨_, rfl⟩
          rw [← hV] at hv
          have HV : Hid _ := hV
          rw [← hV]
          clear hV
          have hu8 : IntKind.u8.wrap ((x.toNat : Int) - 48) = (x.toNat : Int) - 48 := by rw [show IntKind.u8.wrap ((x.toNat : Int) - 48) = ((x.toNat : Int) - 48) % 256 from rfl]; omega
          go_wp2
          go_round
          case rel => exact ⟨k + 1, by omega, by go_num, by rw [HS.out, ← HV.out]; go_num, fun j h hj => by rcases Nat.lt_succ_iff_lt_or_eq.1 hj with h' | h'; exact HM.out j h h'; subst h'; rw [HX.out]; simp [digB]; omega⟩
          case measure => simp [intOf] <;> omega
        · obtain rfl : k = (BA q).size := by omega
          have HF : Hid (q.all digB = true) := by
            show q.all digB = true
            rw [List.all_eq_true]
            intro x hx
            obtain ⟨j, hj, rfl⟩ := List.getElem_of_mem hx
            exact HM.out j hj (by rw [HSD.out]; exact hj)
          have HV : Hid (digVal (q.take (BA q).size) 0 = digVal q 0) := by show _ = _; rw [HSD.out, List.take_length]
          have HR : Hid (numOf q = some (if q.length < q.length then -((digVal q 0 : Nat) : Int) else (digVal q 0 : Nat))) := by
            show numOf q = _
            unfold numOf; rw [HD.out, if_neg HNG.out, if_pos HF.out]
          have hv : digVal (q.take (BA q).size) 0 < 1000000000000 := digVal_lt _ 12 (by simp; omega) (fun c hc => by
            have := List.all_eq_true.1 HF.out c (List.mem_of_mem_take hc); exact this)
          have hsz : ¬ ((BA q).size : Int) < ((BA q).size : Int) := by omega
          go_wp2
          go_ret2
          exact ⟨by rw [HR.out]; rw [if_neg (by omega)]; simp only [Option.getD_some, Option.isSome_some, ← HV.out]; rfl, rfl⟩
end Go.Proofs.YteacdjakdkdbnaaGreatDoor
