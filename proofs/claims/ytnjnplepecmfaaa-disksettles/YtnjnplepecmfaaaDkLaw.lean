/-
  Layer 8 (disk): the two disks side by side; contracts of what the statements call (Same, awake), over the translated program.
-/
import Derived.Test.YtnjnplepecmfaaaDkRef2
import Derived.Test.YtnjnplepecmfaaaDkRead
import Derived.ChangeKeysEq
import Derived.WalkMore
import Derived.Deep.RegionHeld3
namespace Go.Proofs.Ytnjnplepecmfaaa.Dk
open Go.ChangeShapes Go.WideShapes Go.ChangeAt Go.RowKit
set_option linter.unusedVariables false
set_option maxRecDepth 20000

/-- The program's disk and the document's, side by side: the same, and apart. -/
structure St (w : World) (lo b bl cl : Nat) (v : Value) (b' bl' cl' : Nat) (v' : Value) (n : Nat) (L : Nat → Dat) (W : List Wr) : Prop where
  d : DkAt tP w lo b bl cl n v L W
  x : DkAt tR w lo b' bl' cl' n v' L W
  ap : ∀ k ∈ fp b bl v, k ∉ fp b' bl' v'
section
variable {w w' : World} {lo b bl cl : Nat} {v : Value} {b' bl' cl' : Nat} {v' : Value} {n : Nat} {L : Nat → Dat} {W : List Wr}
theorem St.keep0 (h : St w lo b bl cl v b' bl' cl' v' n L W) (hk : But [] w w') : St w' lo b bl cl v b' bl' cl' v' n L W := ⟨h.d.keep0 hk, h.x.keep0 hk, h.ap⟩
theorem St.lo_le (h : St w lo b bl cl v b' bl' cl' v' n L W) : lo ≤ w.heap.size := by
  have h1 := h.d.lob
  have h2 := h.d.lt fp_b
  omega
theorem St.pa (h : St w lo b bl cl v b' bl' cl' v' n L W) : ∀ k ∈ fp b' bl' v', k ∉ fp b bl v := fun k h1 h2 => h.ap k h2 h1
/-- The program's disk has turned. -/
theorem St.turnD (h : St w lo b bl cl v b' bl' cl' v' n L W) {u : Value} {L' : Nat → Dat} {W' : List Wr} {u' : Value} {b2 bl2 cl2 : Nat} {L2 : Nat → Dat} {W2 : List Wr} {w2 : World} (hx : DkAt tR w2 lo b2 bl2 cl2 n u' L2 W2)
    (hd : DkAt tP w' lo b bl cl n u L' W') (hf : ∀ g ∈ fp b bl u, g ∈ fp b bl v ∨ w.heap.size ≤ g) (h2 : ∀ g ∈ fp b2 bl2 u', g ∈ fp b' bl' v') : ∀ k ∈ fp b bl u, k ∉ fp b2 bl2 u' := fun k hk hm => by
  rcases hf k hk with h1 | h1
  · exact h.ap k h1 (h2 k hm)
  · have := h.x.lt (h2 k hm)
    omega
end
theorem run_eqItems_u8 {P : Program} {w : World} {e : TypeId} (hu : P.underlying e = some (.int .u8)) (hp : P.plainKey e = true) (X Y : Array Value) (f g : Nat → Int) (d : Nat) : ∀ (is : List Nat), (∀ i ∈ is, X[i * 1]? = some (.int .u8 (f i))) → (∀ i ∈ is, Y[i * 1]? = some (.int .u8 (g i))) →
    (Op.eqItems (d + 1) e 1 X Y is).run P w = .ok (decide (∀ i ∈ is, f i = g i)) w
  | [], _, _ => by simp [Op.eqItems]
  | i :: is, hX, hY => by
    have ih := run_eqItems_u8 hu hp X Y f g d is (fun j hj => hX j (by simp [hj])) (fun j hj => hY j (by simp [hj])) (w := w)
    simp only [Op.eqItems, Sem.run_bind, run_part_plain w hp (hX i (by simp)), run_part_plain w hp (hY i (by simp)), Result.andThen_ok, run_equalIn_int w d e .u8 .u8 (f i) (g i) hu]
    by_cases hfg : f i = g i
    · simp [hfg, ih]
    · simp [hfg]
/-- Are data the same? -/
def eqD (x y : Dat) : Bool := decide (∀ i ∈ List.range 64, x i = y i)
theorem eqD_self (x : Dat) : eqD x x = true := by simp [eqD]
theorem eqData (x y : Dat) (w : World) : (Op.equalIn 10000 34 (.agg (dv x).toArray) (.agg (dv y).toArray)).run Try.prog w = .ok (eqD x y) w := by
  obtain ⟨i0, hi⟩ : ∃ i0, Try.prog.info? 5 = some i0 := Option.isSome_iff_exists.1 (by kernel_rfl)
  rw [run_equalIn_array w 9999 (dv x).toArray (dv y).toArray Try.underlying34 hi, show Try.prog.cellsOf 5 = 1 by kernel_rfl,
    run_eqItems_u8 Try.underlying5 (by kernel_rfl) _ _ x y 9998 (List.range 64) (fun i hi => by rw [Nat.mul_one]; simpa using dv_get x i (List.mem_range.1 hi)) (fun i hi => by rw [Nat.mul_one]; simpa using dv_get y i (List.mem_range.1 hi))]
  rfl
section
variable {w : World} {lo b bl cl : Nat} {v : Value} {b' bl' cl' : Nat} {v' : Value} {n : Nat} {L : Nat → Dat} {W : List Wr}
set_option maxHeartbeats 2000000 in
theorem same_c (h : St w lo b bl cl v b' bl' cl' v' n L W) (hW : W.length ≤ 1000) :
    Calls Try.prog 11 #[.pointer (some ⟨b, 0, none⟩), .pointer (some ⟨b', 0, none⟩)] w fun e w' => e = .returned (.bool true) ∧ But [] w w' := by
  have H : Hid (St w lo b bl cl v b' bl' cl' v' n L W) := h
  have HW : Hid (W.length ≤ 1000) := hW
  obtain ⟨A, c, hv, -, -, h3, -⟩ := h.x.ws
  have HK : Hid (Ws w lo A W) := h3
  obtain ⟨m, hm⟩ : ∃ m, m = W.length := ⟨_, rfl⟩
  have HM : Hid (m = W.length) := hm
  have hx0 := h.x.c0
  have hx1 := h.x.c1
  have hmost := h.x.most
  rw [hv, ← hm] at hx1
  rw [← hm] at hW
  have HX0 : Hid (w.cell? ⟨b', 0, none⟩ = some (.slice (some ⟨bl', 0, none⟩) n cl')) := hx0
  have HX1 : Hid (w.cell? ⟨b', 1, none⟩ = some (.slice A m c)) := hx1
  have hzd := zData
  clear h h3 hv hm hx0 hx1
  go_enter Try.func11, Try.ntmps11
  go_wp2_with fail
  refine (waiting_c H.out.d HW.out).mono ?_
  rintro e w1 ⟨u, rfl, hu, hb1⟩
  obtain ⟨AU, cu, hue, hmu, huc, hum, hrd⟩ := Rd.of_own hu
  rw [← HM.out] at hue
  subst hue
  have HRD : Hid (Rd .i64 w1 w.heap.size w1.heap.size AU (bks W)) := hrd
  have HB1 : Hid (But [] w w1) := hb1
  have hx0 := cell_keep HX0.out hb1 (by simp)
  have hx1 := cell_keep HX1.out hb1 (by simp)
  have hcc : w1.cell? ⟨b', 0, none⟩ = some (.slice (some ⟨bl', 0, none⟩) n cl') ∧ w1.cell? ⟨b', 1, none⟩ = some (.slice A m c) := ⟨hx0, hx1⟩
  clear hu hmu huc hum hrd hb1
  go_wp2
  go_region_held3 (fun w' => w'.cell? ⟨b', 0, none⟩ = some (.slice (some ⟨bl', 0, none⟩) n cl') ∧ w'.cell? ⟨b', 1, none⟩ = some (.slice A m c))
    (first | assumption | exact t_keep hcc (But.refl [] w1).drew)
    (first
      | (go_at_call 21; refine (len_c ((H.out.d.keep0 HB1.out).keep0 (But.refl [] w1).drew)).mono ?_; rintro e w2 ⟨rfl, rfl⟩))
  clear hx0 hx1 hcc
  go_wp2
  go_loopg [6] m (fun g0 i wx => ∃ j : Nat, j + g0 = m ∧ i = .int .i64 j ∧ Hid (But [] w1 wx))
  case atStart => exact ⟨0, by omega, rfl, (But.refl [] w1).drew⟩
  case round =>
    obtain ⟨j, hjg, rfl, HX⟩ := hrel
    by_cases hlt : j < m
    · have hjK : j < W.length := by have := HM.out; omega
      have hjb : j < (bks W).length := by rw [bks_len]; exact hjK
      obtain ⟨gw, hAg, -, hgl, hrows⟩ := HK.out.at_ hjK
      obtain ⟨gu, ou, hAu, -, hgu, hcu⟩ := HRD.out.at_ hjb
      rcases hp : W.getD j w0 with ⟨pk, px⟩
      have hr0 := range_keep (range_keep (hrows j hjK) HB1.out (by simp)) HX.out (by simp)
      rw [hp] at hr0
      obtain ⟨hcp, -⟩ := wv_parts hr0
      have hcu1 := cell_keep (hcu j hjb) HX.out (by simp)
      rw [bks_get W j hjK, hp] at hcu1
      have hx1 := cell_keep (cell_keep HX1.out HB1.out (by simp)) HX.out (by simp)
      have hjm' : (j : Int) < (m : Int) := by omega
      subst hAg
      subst hAu
      clear hrows hr0 hcu hp hgl hgu
      go_wp2
      go_quiet (fail)
      go_wp2
      go_roundg (m - (j + 1))
      case measure => omega
      case rel => exact ⟨j + 1, by omega, by go_num, HX.out.drewN _⟩
    · obtain rfl : j = m := by omega
      go_wp2
      go_loopg [7] n (fun g0 i wx => ∃ q : Nat, q + g0 = n ∧ i = .int .i64 q ∧ Hid (But [] w wx))
      case atStart => exact ⟨0, by omega, rfl, HB1.out.trans HX.out⟩
      case round =>
        obtain ⟨q, hqg, rfl, HY⟩ := hrel
        go_wp2_with fail
        refine (len_c (H.out.d.keep0 HY.out)).mono ?_
        rintro e w2 ⟨rfl, rfl⟩
        by_cases hqn : q < n
        · have hqn' : (q : Int) < (n : Int) := by omega
          go_wp2_with fail
          refine (read_c q (H.out.d.keep0 HY.out) hqn HW.out).mono ?_
          rintro e w2 ⟨rfl, hb2⟩
          obtain ⟨y, hy⟩ : ∃ y, y = setAll L W q := ⟨_, rfl⟩
          rw [← hy]
          have HYE : Hid (setAll L W q = y) := hy.symm
          have HB2 : Hid (But [] w w2) := HY.out.trans hb2
          obtain ⟨gq, hgq⟩ : ∃ gq, gq = w2.heap.size := ⟨_, rfl⟩
          have hnr := new_range w2 (dv y) 34
          have HB3 : Hid (But [] w (w2.alloc (.cells (dv y).toArray 34))) := HB2.out.alloc _
          rw [← hgq] at hnr
          clear hy hb2
          go_upto_region 13 with (refine wpList_store_new rfl 34 _ _ rfl (dv d0).toArray (dv y).toArray rfl rfl (iData' _) (by rw [dvs, dvs]) (dv_all _) ?_)
          rw [← hgq]
          generalize w2.alloc (.cells (dv y).toArray 34) = w3 at hnr HB3 ⊢
          have HNR : Hid (w3.rangeAt gq 0 (dv y)) := hnr
          clear hnr hgq
          have hu34 := Try.underlying34
          have hi34 := iData y
          have heq := eqData y y
          rw [eqD_self] at heq
          go_wp2
          go_region_held3 (fun w' => w'.rangeAt gq 0 (dv y))
            (first | assumption | exact range_keep HNR.out (But.refl [] w3).drew (by simp) | exact hS4)
            (first
              | (go_at_call 26
                 refine (rread_c q ((H.out.x.keep0 HB3.out).keep0 (But.refl [] w3).drew) hqn HW.out).mono ?_
                 rintro e w4 ⟨rfl, hb4⟩
                 rw [HYE.out]
                 have hS4 := range_keep (range_keep HNR.out (But.refl [] w3).drew (by simp)) hb4 (by simp)
                 have HB4 : Hid (But [] w w4) := (HB3.out.trans (But.refl [] w3).drew).trans hb4
                 clear hb4))
          clear hS4 hu34 hi34 heq
          go_wp2
          go_roundg (n - (q + 1))
          case measure => omega
          case rel => exact ⟨q + 1, by omega, by go_num, HB4⟩
        · obtain rfl : q = n := by omega
          go_wp2
          go_ret
          exact ⟨rfl, HY.out⟩
end
end Go.Proofs.Ytnjnplepecmfaaa.Dk
