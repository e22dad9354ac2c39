/-
  Layer 6 (cpu): the chapter's example, as the statements ask for it.
-/
import Derived.Test.YtjlcncdhlcpklaaCpLaw
namespace Go.Proofs.Ytjlcncdhlcpklaa.Cp
open Go.ChangeShapes Go.WideShapes Go.ChangeAt Go.RowKit
open Fr (MemAt Blk hasW hasF) 
open Tl (En TlbAt Ens getE misE ansE en0 putL)
set_option linter.unusedVariables false
set_option maxRecDepth 20000

def cAw : List Int := [0, 5, 0, 0, 0, 0, 0, 0, 0, 0, 0, 0, 0, 0, 0, 0, 4]
theorem step_aw : stepP 4 (memN [17825797] (min 1 64)) (tlbN [en0] (min 1 12)) 0 (List.replicate 17 0) = ⟨tr0, cAw, memN [17825797] (min 1 64)⟩ := by kernel_rfl
theorem u_zero (n : Nat) : U32s (List.replicate n 0) := fun j => by
  rw [List.getD_eq_getElem?_getD, List.getElem?_replicate]
  split <;> simp
/-- Two slices that were just made. -/
theorem aw_rows (w : World) (x : Int) : Rd .u32 ((w.alloc (.cells #[.int .u32 x] 24)).alloc (.cells #[.int .i64 0, .int .i64 0, .int .i64 0, .bool false] 55)) 0 ((w.alloc (.cells #[.int .u32 x] 24)).alloc (.cells #[.int .i64 0, .int .i64 0, .int .i64 0, .bool false] 55)).heap.size (some ⟨w.heap.size, 0, none⟩) [x]
    ∧ Ens ((w.alloc (.cells #[.int .u32 x] 24)).alloc (.cells #[.int .i64 0, .int .i64 0, .int .i64 0, .bool false] 55)) 0 (some ⟨w.heap.size + 1, 0, none⟩) [en0] := by
  obtain ⟨r1, r2⟩ := two_range w [.int .u32 x] [.int .i64 0, .int .i64 0, .int .i64 0, .bool false] 24 55
  refine ⟨.inr ⟨w.heap.size, 0, rfl, Nat.zero_le _, by simp; omega, fun j hj => ?_⟩, .inr ⟨w.heap.size + 1, 0, rfl, Nat.zero_le _, by simp, fun j hj => ?_⟩⟩
  · obtain rfl : j = 0 := by simp at hj; omega
    exact r1 0 _ rfl
  · obtain rfl : j = 0 := by simp at hj; omega
    exact r2
set_option maxHeartbeats 2000000 in
theorem awake_c (w : World) :
    Calls Try.prog 11 #[] w fun e w' => e = .returned (.bool true) ∧ But [] w w' := by
  obtain ⟨hr1, hr2⟩ := aw_rows w 17825797
  have HR1 : Hid (Rd _ _ _ _ _ _) := hr1
  have HR2 : Hid (Ens _ _ _ _) := hr2
  have hB0 : But [] w ((w.alloc (.cells #[.int .u32 17825797] 24)).alloc (.cells #[.int .i64 0, .int .i64 0, .int .i64 0, .bool false] 55)) := ((But.refl [] w).alloc _).alloc _
  have HB0 : Hid (But [] w _) := hB0
  clear hr1 hr2 hB0
  go_enter Try.func11, Try.ntmps11
  go_wp2_with fail
  obtain ⟨z, hz⟩ : ∃ z, z = List.replicate 17 (0 : Int) := ⟨_, rfl⟩
  have hzl : z.length = 17 := by rw [hz]; rfl
  have hzu : U32s z := by rw [hz]; exact u_zero 17
  have hag : (#[Value.slice (some ⟨w.heap.size, 0, none⟩) 1 1, Value.slice (some ⟨w.heap.size + 1, 0, none⟩) 1 1, Value.int .i64 0, Value.int .u32 0, Value.int .u32 0, Value.int .u32 0, Value.int .u32 0, Value.int .u32 0, Value.int .u32 0, Value.int .u32 0, Value.int .u32 0, Value.int .u32 0, Value.int .u32 0, Value.int .u32 0, Value.int .u32 0, Value.int .u32 0, Value.int .u32 0, Value.int .u32 0, Value.int .u32 0, Value.int .u32 0] : Array Value) = (stl (some ⟨w.heap.size, 0, none⟩) 1 1 (some ⟨w.heap.size + 1, 0, none⟩) 1 1 0 z).toArray := by rw [hz]; rfl
  have hcg : (#[Value.int .u32 0, Value.int .u32 0, Value.int .u32 0, Value.int .u32 0, Value.int .u32 0, Value.int .u32 0, Value.int .u32 0, Value.int .u32 0, Value.int .u32 0, Value.int .u32 0, Value.int .u32 0, Value.int .u32 0, Value.int .u32 0, Value.int .u32 0, Value.int .u32 0, Value.int .u32 0, Value.int .u32 0] : Array Value) = (cvl z).toArray := by rw [hz]; rfl
  rw [hag]
  obtain ⟨mA, hmA⟩ : ∃ mA, mA = memN [17825797] (min 1 64) := ⟨_, rfl⟩
  obtain ⟨tA, htA⟩ : ∃ tA, tA = tlbN [en0] (min 1 12) := ⟨_, rfl⟩
  have HST : Hid (stepP 4 mA tA 0 z = ⟨tr0, cAw, mA⟩) := by show _ = _; rw [hmA, htA, hz]; exact step_aw
  refine (both_c (some ⟨w.heap.size, 0, none⟩) 1 1 (some ⟨w.heap.size + 1, 0, none⟩) 1 1 0 z [17825797] [en0] _ hzl rfl HR1.out (fun j => by rcases j with _ | j <;> simp) rfl HR2.out (by omega) (by omega)).mono ?_
  rintro e w1 ⟨bc, bm, bp, bt, bM, bx, cx, A, cA, lo, rfl, hC, -, -, -, ⟨n1, n2, n3, n4⟩, k1⟩
  rw [← hmA, ← htA] at hC
  have HC : Hid (CpuAt w1 bc bm bp 4 mA bt tA 0) := hC
  have HK1 : Hid (But [] w w1) := HB0.out.trans k1
  have HN : Hid (w.heap.size ≤ bc ∧ w.heap.size ≤ bp ∧ w.heap.size ≤ bt) := by have := HB0.out.size; show _ ∧ _; omega
  have HZL : Hid (z.length = 17) := hzl
  have HZU : Hid (U32s z) := hzu
  clear hC k1 HB0 HR1 HR2 n1 n2 n3 n4 hmA htA hz hag hzl hzu
  go_wp2_with fail
  refine (step_c bc bm bp 4 mA bt tA 0 0 z _ HC.out (by omega) HZL.out HZU.out).mono ?_
  rintro e w2 ⟨m', rfl, -, -, k2⟩
  rw [HST.out]
  have HK2 : Hid (But [] w w2) := but_fresh HK1.out k2 (by have := HN.out; simp; omega)
  clear k2 hcg
  obtain ⟨c1, hc1⟩ : ∃ c1, c1 = cAw := ⟨_, rfl⟩
  have HL1 : Hid (c1.length = 17) := by show _ = _; rw [hc1]; rfl
  have hv1 : (cvl c1)[1]? = some (.int .u32 5) := by rw [hc1]; rfl
  have hv16 : (cvl c1)[16]? = some (.int .u32 4) := by rw [hc1]; rfl
  rw [← hc1]
  clear hc1
  simp only [Dn.ans, Tr.vs, tr0]
  obtain ⟨hT5, hT6⟩ := two_new w2 #[.int .u32 0, .int .u32 0, .int .u32 0, .int .u32 0, .int .u32 0, .int .u32 0, .int .u32 0, .int .u32 0, .int .u32 0, .int .u32 0, .int .u32 0, .int .u32 0, .int .u32 0, .int .u32 0, .int .u32 0, .int .u32 0, .int .u32 0] #[.int .i64 0, .int .i64 0, .bool false, .int .i64 0] 27 37 17 4 rfl rfl
  have hK3 : But [] w2 ((w2.alloc (.cells #[.int .u32 0, .int .u32 0, .int .u32 0, .int .u32 0, .int .u32 0, .int .u32 0, .int .u32 0, .int .u32 0, .int .u32 0, .int .u32 0, .int .u32 0, .int .u32 0, .int .u32 0, .int .u32 0, .int .u32 0, .int .u32 0, .int .u32 0] 27)).alloc (.cells #[.int .i64 0, .int .i64 0, .bool false, .int .i64 0] 37)) := ((But.refl [] w2).alloc _).alloc _
  have HT5 : Hid (((w2.alloc (.cells #[.int .u32 0, .int .u32 0, .int .u32 0, .int .u32 0, .int .u32 0, .int .u32 0, .int .u32 0, .int .u32 0, .int .u32 0, .int .u32 0, .int .u32 0, .int .u32 0, .int .u32 0, .int .u32 0, .int .u32 0, .int .u32 0, .int .u32 0] 27)).alloc (.cells #[.int .i64 0, .int .i64 0, .bool false, .int .i64 0] 37)).there w2.heap.size 0 (cvl c1).toArray.size) := by show World.there _ _ _ _; rw [show (cvl c1).toArray.size = 17 by rw [List.size_toArray, cvl_len, HL1.out]]; exact hT5
  have HT6 : Hid (∀ cs : List Value, (((w2.alloc (.cells #[.int .u32 0, .int .u32 0, .int .u32 0, .int .u32 0, .int .u32 0, .int .u32 0, .int .u32 0, .int .u32 0, .int .u32 0, .int .u32 0, .int .u32 0, .int .u32 0, .int .u32 0, .int .u32 0, .int .u32 0, .int .u32 0, .int .u32 0] 27)).alloc (.cells #[.int .i64 0, .int .i64 0, .bool false, .int .i64 0] 37)).setCells w2.heap.size 0 cs).there (w2.heap.size + 1) 0 4) := fun cs => World.there_setCells hT6 _ _ _
  have HI : Hid ((Try.prog.info? 27).map (·.size) = some (cvl c1).toArray.size) := by show _ = _; rw [List.size_toArray]; exact cvl_info c1 HL1.out
  obtain ⟨v1, v2⟩ := two_laid ((w2.alloc (.cells #[.int .u32 0, .int .u32 0, .int .u32 0, .int .u32 0, .int .u32 0, .int .u32 0, .int .u32 0, .int .u32 0, .int .u32 0, .int .u32 0, .int .u32 0, .int .u32 0, .int .u32 0, .int .u32 0, .int .u32 0, .int .u32 0, .int .u32 0] 27)).alloc (.cells #[.int .i64 0, .int .i64 0, .bool false, .int .i64 0] 37)) w2.heap.size (w2.heap.size + 1) (cvl c1) [.int .i64 0, .int .i64 0, .bool false, .int .i64 0] (by rw [cvl_len, HL1.out]; exact hT5) hT6 (by omega)
  have hK4 : But [w2.heap.size, w2.heap.size + 1] w2 ((((w2.alloc (.cells #[.int .u32 0, .int .u32 0, .int .u32 0, .int .u32 0, .int .u32 0, .int .u32 0, .int .u32 0, .int .u32 0, .int .u32 0, .int .u32 0, .int .u32 0, .int .u32 0, .int .u32 0, .int .u32 0, .int .u32 0, .int .u32 0, .int .u32 0] 27)).alloc (.cells #[.int .i64 0, .int .i64 0, .bool false, .int .i64 0] 37)).setCells w2.heap.size 0 (cvl c1)).setCells (w2.heap.size + 1) 0 [.int .i64 0, .int .i64 0, .bool false, .int .i64 0]) := ((hK3.any _).setCells (by simp) _ _).setCells (by simp) _ _
  clear hT5 hT6 hK3
  have heq := eqTrap tr0
  simp only [tr0] at heq
  go_upto_region 3 with (first
    | (refine wpList_store_mid rfl 27 _ _ rfl w2.heap.size 0 (cvl c1).toArray rfl rfl ?ht HI.out (all_oneCell_toArray (cvl_one c1)) ?_; case ht => exact HT5.out)
    | (refine wpList_store_mid rfl 37 _ _ rfl (w2.heap.size + 1) 0 #[.int .i64 0, .int .i64 0, .bool false, .int .i64 0] rfl rfl ?ht Try.sizeTrap (Tr.vs_all tr0) ?_; case ht => exact HT6.out _))
  obtain ⟨b5, hb5⟩ : ∃ b5, b5 = w2.heap.size := ⟨_, rfl⟩
  have HB5 : Hid (b5 = w2.heap.size) := hb5
  generalize (((w2.alloc (.cells #[.int .u32 0, .int .u32 0, .int .u32 0, .int .u32 0, .int .u32 0, .int .u32 0, .int .u32 0, .int .u32 0, .int .u32 0, .int .u32 0, .int .u32 0, .int .u32 0, .int .u32 0, .int .u32 0, .int .u32 0, .int .u32 0, .int .u32 0] 27)).alloc (.cells #[.int .i64 0, .int .i64 0, .bool false, .int .i64 0] 37)).setCells w2.heap.size 0 (cvl c1)).setCells (w2.heap.size + 1) 0 [.int .i64 0, .int .i64 0, .bool false, .int .i64 0] = w4 at v1 v2 hK4 ⊢
  rw [← hb5] at v1 v2 hK4 ⊢
  have e1 : w4.cell? ⟨b5, 1, none⟩ = some (.int .u32 5) := by have := v1 1 _ hv1; rwa [Nat.zero_add] at this
  have e2 : w4.cell? ⟨b5, 16, none⟩ = some (.int .u32 4) := by have := v1 16 _ hv16; rwa [Nat.zero_add] at this
  have e3 : w4.cell? ⟨b5 + 1, 0, none⟩ = some (.int .i64 0) := v2 0 _ rfl
  have e4 : w4.cell? ⟨b5 + 1, 1, none⟩ = some (.int .i64 0) := v2 1 _ rfl
  have e5 : w4.cell? ⟨b5 + 1, 2, none⟩ = some (.bool false) := v2 2 _ rfl
  have e6 : w4.cell? ⟨b5 + 1, 3, none⟩ = some (.int .i64 0) := v2 3 _ rfl
  have HK4 : Hid (But [] w w4) := but_fresh HK2.out hK4 (by have := HK2.out.size; simp; omega)
  clear v1 v2 hK4 hb5 HT5 HT6 HI hv1 hv16
  go_wp2
  go_ret
  exact ⟨rfl, HK4.out⟩
end Go.Proofs.Ytjlcncdhlcpklaa.Cp
