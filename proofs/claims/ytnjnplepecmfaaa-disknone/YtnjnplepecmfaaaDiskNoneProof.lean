/-
  Whatever the input, the Go function DiskNone answers true, and its arguments read behind the call as they read before. No condition.
-/
import Derived.Test.YtnjnplepecmfaaaRows
import Derived.Test.YtnjnplepecmfaaaDkHead
import Derived.WalkKit
import Derived.Deep.CutBlock
import Derived.Deep.RegionHeld3
import Derived.ProofKit
import Derived.OpenShut
import Derived.ShutString
import Derived.ChangeOld
import Derived.Below
import Derived.Carry
namespace Go.Proofs.Ytnjnplepecmfaaa.diskNone
open Go.ChangeShapes Go.WideShapes Go.ChangeAt Go.RowKit
open Go.ChangeMaps (open_string shut_string)
set_option linter.unusedVariables false

theorem own : ownKnob Try.prog.godebug = none := by kernel_rfl
theorem laidOut : laidOutB Try.prog = true := by kernel_rfl

set_option maxHeartbeats 4000000 in
set_option maxRecDepth 100000 in
theorem walk (w : World) (a0 : Int) (w0 : (Lit.int .i64 a0).wf = true) (c1 : Array Value) (f1 : Dk.DeedAgg w c1) :
    Calls Try.prog 6 #[.int .i64 a0, .agg c1] w fun e w' => e = .returned (.bool true) ∧ Below w.heap.size w w' := by
  obtain ⟨Ke, Be, AXe, cXe, xse, AKe, cKe, kse, hce, -, -, -, -⟩ := f1
  obtain rfl : c1 = (Dk.deedL Ke Be AXe xse.length cXe AKe kse.length cKe).toArray := by rw [← hce]
  clear hce w0
  unfold Dk.deedL
  generalize xse.length = lxe
  generalize kse.length = lke
  obtain ⟨g, hg⟩ : ∃ g, g = w.heap.size := ⟨_, rfl⟩
  have hbx := Dk.Box.new w Ke Be AXe lxe cXe AKe lke cKe
  have HB0 : Hid (But [] w (w.alloc (.cells #[.int .i64 Ke, .int .i64 Be, .slice AXe lxe cXe, .slice AKe lke cKe] 31))) := (But.refl _ _).alloc _
  go_enter Try.func6, Try.ntmps6
  go_upto_region 2 with fail
  rw [← hg] at hbx ⊢
  generalize w.alloc (.cells #[.int .i64 Ke, .int .i64 Be, .slice AXe lxe cXe, .slice AKe lke cKe] 31) = wq at hbx HB0 ⊢
  have HBQ : Hid (Dk.Box wq g Ke Be AXe lxe cXe AKe lke cKe) := hbx
  clear hbx hg
  go_wp2_with fail
  refine (Dk.flush_nil _).mono ?_
  rintro e w1 ⟨rfl, rfl⟩
  have hcb := HBQ.out.b
  go_wp2_with fail
  refine (Dk.read_nil Be _).mono ?_
  rintro e w2 ⟨rfl, k2⟩
  have hz := Dk.zData
  obtain ⟨g2, hg2⟩ : ∃ g2, g2 = w2.heap.size := ⟨_, rfl⟩
  have hnr := new_range w2 (Dk.dv Dk.d0) 34
  have HB2 : Hid (But [] wq (w2.alloc (.cells (Dk.dv Dk.d0).toArray 34))) := k2.alloc _
  rw [← hg2] at hnr
  clear hcb k2
  go_upto_region 4 with (refine Dk.wpList_store_new rfl 34 _ _ rfl (Dk.dv Dk.d0).toArray (Dk.dv Dk.d0).toArray rfl rfl (Dk.iData' _) rfl (Dk.dv_all _) ?_)
  rw [← hg2]
  generalize w2.alloc (.cells (Dk.dv Dk.d0).toArray 34) = w3 at hnr HB2 ⊢
  have HNR : Hid (w3.rangeAt g2 0 (Dk.dv Dk.d0)) := hnr
  have hcc : w3.rangeAt g2 0 (Dk.dv Dk.d0) ∧ w3.cell? ⟨g, 1, none⟩ = some (.int .i64 Be) ∧ w3.cell? ⟨g, 3, none⟩ = some (.slice AKe lke cKe) := ⟨hnr, cell_keep HBQ.out.b HB2.out (by simp), cell_keep HBQ.out.p HB2.out (by simp)⟩
  clear hnr hg2
  have hu34 := Try.underlying34
  have hi34 := Dk.iData Dk.d0
  have heq := Dk.eqData Dk.d0 Dk.d0
  rw [Dk.eqD_self] at heq
  go_wp2
  go_region_held3 (fun w' => w'.rangeAt g2 0 (Dk.dv Dk.d0) ∧ w'.cell? ⟨g, 1, none⟩ = some (.int .i64 Be) ∧ w'.cell? ⟨g, 3, none⟩ = some (.slice AKe lke cKe))
    (first | assumption | exact Dk.n_keep hcc (But.refl [] w3).drew | exact hS4)
    (first
      | (go_at_call 17; refine (Dk.write_nil Be Dk.d0 _).mono ?_; rintro e w4 ⟨rfl, k4⟩; have hS4 := Dk.n_keep (Dk.n_keep hcc (But.refl [] w3).drew) k4; have HB4 : Hid (But [] wq w4) := (HB2.out.trans (But.refl [] w3).drew).trans k4; clear k4)
      | (go_at_call 21; refine (Dk.len_nil _).mono ?_; rintro e w5 ⟨rfl, rfl⟩)
      | (go_at_call 20; refine (Dk.waiting_nil _).mono ?_; rintro e w6 ⟨rfl, rfl⟩)
      | (go_at_call 19; refine (Dk.crash_nil AKe cKe lke _).mono ?_; rintro e w7 ⟨rfl, rfl⟩)
      | (go_at_call 16; refine (Dk.twin_nil _).mono ?_; rintro e w8 ⟨rfl, rfl⟩))
  have HBA : Hid (But [] w w4) := HB0.out.trans HB4.out
  clear hcc hS4 hu34 hi34 heq hz
  by_cases h1 : a0 < 1
  · go_wp2_with fail
    refine (Dk.new_no a0 _ (.inl h1)).mono ?_
    rintro e w5 ⟨rfl, rfl⟩
    go_wp2_with fail
    refine (Dk.awake_c _).mono ?_
    rintro e w6 ⟨rfl, k6⟩
    go_wp2
    go_ret
    exact ⟨rfl, (HBA.out.trans k6).below (Nat.le_refl _) (by simp)⟩
  · by_cases h2 : 512 < a0
    · have h1' : decide (a0 < 1) = false := decide_eq_false h1
      go_wp2_with fail
      refine (Dk.new_no a0 _ (.inr h2)).mono ?_
      rintro e w5 ⟨rfl, rfl⟩
      go_wp2_with fail
      refine (Dk.awake_c _).mono ?_
      rintro e w6 ⟨rfl, k6⟩
      go_wp2
      go_ret
      exact ⟨rfl, (HBA.out.trans k6).below (Nat.le_refl _) (by simp)⟩
    · obtain ⟨nn, rfl⟩ : ∃ nn : Nat, a0 = nn := ⟨a0.toNat, by omega⟩
      have h1' : decide ((nn : Int) < 1) = false := decide_eq_false h1
      have h2' : decide ((512 : Int) < (nn : Int)) = false := decide_eq_false h2
      go_wp2_with fail
      refine (Dk.new_c nn _ (by omega) (by omega)).mono ?_
      rintro e w5 ⟨b, bl, rfl, -, k5⟩
      go_wp2_with fail
      refine (Dk.awake_c _).mono ?_
      rintro e w6 ⟨rfl, k6⟩
      go_wp2
      go_ret
      exact ⟨rfl, ((HBA.out.trans k5).trans k6).below (Nat.le_refl _) (by simp)⟩

set_option maxRecDepth 100000 in
theorem lifted (os : Os) (started : os.Started) (H : Type) (enc : TypeId × Value → H) :
    ReturnsInHanded {} Try.checked os 6 .any (Rows.diskNoneSpec.pre6 enc Try.prog Try.f6 Rows.diskNoneRow.domain false) (Rows.diskNoneSpec.post enc Try.prog Try.f6 false true false false) := by
  refine returnsInHanded_of_change (C := Try.checked) own started (by kernel_rfl) Try.func6
    (ChangeSpec.witness6 (enc := enc) (C := Try.checked) false ⟨#[], #[.int .i64 0, .agg #[.int .i64 0, .int .i64 0, .slice none 0 0, .slice none 0 0]], []⟩ 8 (by kernel_rfl) (by kernel_rfl) (by kernel_rfl) (by kernel_rfl)) ?_
  intro W base args ds gs before hval0 hW hcnd _
  have hval : ∀ (j : Nat) t v, Try.f6.params[j]? = some t → args[j]? = some v → Value.okWide Try.prog W .any base t v := hval0
  have hW' := hW
  obtain ⟨p, q, hA0, hV, rfl, hfz, hnd⟩ := hW
  have hA : DataW.TrodAll enc Try.prog W 0 (fun _ => true) true Try.f6.params.toList args.toList ds p := hA0
  rw [Try.params6] at hA hval
  obtain ⟨v0, vs0, d0, ds0, p0, q0, hargs, rfl, rfl, h0, t0⟩ := trodAll_cons hA
  obtain ⟨v1, vs1, d1, ds1, p1, q1, rfl, rfl, rfl, h1, t1⟩ := trodAll_cons t0
  obtain ⟨rfl, rfl, rfl⟩ := trodAll_nil t1
  obtain rfl : args = #[v0, v1] := by cases args; simp_all
  obtain ⟨rfl, rfl⟩ := trodVars_none hV
  have k0 := h0
  have lt0 : ∀ x ∈ p0, x.block < W.heap.size := by obtain ⟨m, hm⟩ := k0; exact DataW.trod_lt m _ _ _ hm
  have k1 := h1
  have lt1 : ∀ x ∈ p1, x.block < W.heap.size := by obtain ⟨m, hm⟩ := k1; exact DataW.trod_lt m _ _ _ hm
  obtain ⟨a0, rfl, rfl, rfl, w0⟩ := open_int Try.underlying3 (hval 0 3 v0 rfl rfl) h0
  obtain ⟨c1, rfl, -⟩ := okWide_struct Try.underlying31 (hval 1 31 v1 rfl rfl)
  have f1 := Dk.deed_open h1
  clear hA0 hval0
  refine (walk W a0 w0 c1 f1).mono fun e W' ⟨he, hg⟩ => ?_
  subst he
  exact ⟨_, rfl, _, _, _, [], _, [], hW', (trodAll_cons_mk (shut_bool Try.underlying4 _) trodAll_mk0), (trodAll_cons_mk (Below.trod laidOut (by kernel_rfl) (of_decide_eq_true (by kernel_rfl)) k0 hg lt0) (trodAll_cons_mk (Below.trod laidOut (by kernel_rfl) (of_decide_eq_true (by kernel_rfl)) k1 hg lt1) trodAll_mk0)), rfl, hg.frame _, (fun h => by cases h)⟩

theorem over : Rows.diskNoneRow.holds Try.pinned (OpenSpec.ofChange Rows.diskNoneSpec) :=
  OpenClaim.holds_of_wide 6 Try.f6 rfl rfl rfl rfl rfl rfl rfl ⟨rfl, rfl, rfl, rfl, rfl⟩ rfl rfl rfl rfl rfl (by kernel_rfl) Try.func6 (by kernel_rfl)
    (of_decide_eq_true (by kernel_rfl)) (by unfold Func.isWrapper; first | (rw [if_pos (by decide +kernel)]; kernel_rfl) | (rw [if_neg (by decide +kernel)]; exact ⟨rfl, rfl⟩))
    (fun os started H enc _ => lifted os started H enc)
end Go.Proofs.Ytnjnplepecmfaaa.diskNone
namespace Go.Proofs.Ytnjnplepecmfaaa
/-- The statement, by its short name. -/
theorem diskNone_holds : Rows.DiskNoneSaid := diskNone.over
#print axioms diskNone_holds
end Go.Proofs.Ytnjnplepecmfaaa
