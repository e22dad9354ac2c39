/-
  Layer 11 (names): contracts of Add and Drop, over the translated program.
-/
import Derived.Test.YtfjkbfcfceckgaaNmFind
import Derived.Test.YtfjkbfcfceckgaaNmThru
namespace Go.Proofs.Ytfjkbfcfceckgaa.Nm
open Go.ChangeShapes Go.WideShapes Go.ChangeAt Go.RowKit
open Wh Sn
set_option linter.unusedVariables false
set_option maxRecDepth 20000

theorem box_two (w : World) (T : Tf) (t : TypeId) :
    Tb ((w.alloc (.cells (tv T).toArray t)).alloc (.cells (tv t0).toArray t)) w.heap.size T ∧ ((w.alloc (.cells (tv T).toArray t)).alloc (.cells (tv t0).toArray t)).there (w.heap.size + 1) 0 512 ∧
      ((w.alloc (.cells (tv T).toArray t)).alloc (.cells (tv t0).toArray t)).heap.size = w.heap.size + 2 := by
  have s1 : (w.alloc (.cells (tv T).toArray t)).heap.size = w.heap.size + 1 := by simp
  have h1 : Tb _ _ _ := tv_new w T t
  have h2 := there_new (w.alloc (.cells (tv T).toArray t)) (tv t0).toArray t 512 (tvs t0)
  rw [s1] at h2
  exact ⟨h1.keep (l := []) ((But.refl [] _).alloc _) (by simp), h2, by simp⟩
theorem least0_c (b : Nat) (T : Tf) (hT : Ok T) (w : World) (h : w.rangeAt b 0 (tv T)) :
    Calls Try.prog 30 #[.pointer (some ⟨b, 0, none⟩), .int .u16 0] w fun e w' => e = .returned (Pr (ix T (-1))) ∧ But [] w w' := by
  have := least_c b T hT (-1) w h
  rwa [show (-1 : Int) + 1 = 0 by decide] at this
theorem Tb.none {w : World} {b k : Nat} {T : Tf} (h : Tb w b T) : Tb (w.setCell ⟨b, k, Option.none⟩ (.int .u16 0)) b (upd T k (-1)) := by
  have := h.set (k := k) (v := -1) (U := upd T k (-1)) (fun q _ => rfl)
  rwa [show (-1 : Int) + 1 = 0 by decide] at this
/-- A result that is a struct in memory, and two beside it. -/
theorem results_range3 {P : Program} {fn : Func} {p u v : Tmp} {ty : TypeId} (h : fn.results = #[.cell p ty, .tmp u, .tmp v]) (tmps : Array Value) (w : World) (b o : Nat) (cs : List Value) (d : TypeDesc)
    (hp : tmps.getD p undef = .pointer (some ⟨b, o, none⟩)) (hc : w.rangeAt b o cs) (hu : P.underlying ty = some d) (hd : d.isRow = true) (hi : (P.info? ty).map (·.size) = some cs.length) :
    (results fn tmps).run P w = .ok (.tuple #[.agg cs.toArray, tmps.getD u undef, tmps.getD v undef]) w := by
  have hp' : tmps[p]?.getD undef = .pointer (some ⟨b, o, none⟩) := by simpa using hp
  simp [results, h, hp', asAddr, run_loadVar_mid w b o ty cs d hc hu hd hi]
set_option maxHeartbeats 2000000 in
theorem add_lo (T : Tf) (hT : Ok T) (n : Int) (h0 : n < 0) (w : World) :
    Calls Try.prog 9 #[.agg (tv T).toArray, .int .i64 n] w fun e w' => e = .returned (.tuple #[.agg (tv T).toArray, .int .i64 0, .bool false]) ∧ But [] w w' := by
  have hz := zTab
  obtain ⟨b, hb⟩ : ∃ b, b = w.heap.size := ⟨_, rfl⟩
  obtain ⟨w0, hw0⟩ : ∃ w0, w0 = (w.alloc (.cells (tv T).toArray 28)).alloc (.cells (tv t0).toArray 28) := ⟨_, rfl⟩
  have HB0 : Hid (But [] w w0) := by show But _ _ _; rw [hw0]; exact ((But.refl [] w).alloc _).alloc _
  obtain ⟨t1, t2, t3⟩ := box_two w T 28
  rw [← hw0, ← hb] at t1 t2 t3
  have HV0 := hid t1
  have HR0 := hid t1.range
  have HT0 : Hid (w0.there (b + 1) 0 (tv T).toArray.size) := by show World.there _ _ _ _; rw [tvs]; exact t2
  have HS0 := hid t3
  have HBW := hid hb
  have HO := hid hT
  clear t1 t2 t3 hT
  go_enter Try.func9, Try.ntmps9
  go_upto_region 1 with fail
  rw [← hw0, ← hb]
  clear hw0 hb hz
  go_wp2_with (first
    | (refine wpList_load_mid rfl 28 _ rfl b 0 rfl (tv T) _ HR0.out Try.underlying28 rfl (iTab _) ?_)
    | (refine wpList_store_mid rfl 28 _ _ rfl (b + 1) 0 (tv T).toArray rfl rfl ?ht (iTab' _) (tv_all _) ?_; case ht => exact HT0.out))
  refine bodyPost_ret (results_range3 rfl _ _ (b + 1) 0 (tv (T)) _ rfl (World.rangeAt_setCells_same _ _ _ _ (by have := HT0.out; rwa [tvs, ← tv_len (T)] at this)) Try.underlying28 rfl (iTab _)) rfl ?_
  have hbw := HBW.out
  have hk0 := (But.refl [] w0)
  exact ⟨rfl, but_own (but_own HB0.out hk0 (fun i hi => by simp at hi; try omega)) ((But.refl [b + 1] _).setCells (by simp) _ _) (fun i hi => by simp at hi; omega)⟩
set_option maxHeartbeats 2000000 in
theorem add_hi (T : Tf) (hT : Ok T) (n : Int) (h0 : 0 ≤ n) (h5 : 1023 < n) (w : World) :
    Calls Try.prog 9 #[.agg (tv T).toArray, .int .i64 n] w fun e w' => e = .returned (.tuple #[.agg (tv T).toArray, .int .i64 0, .bool false]) ∧ But [] w w' := by
  have hz := zTab
  obtain ⟨b, hb⟩ : ∃ b, b = w.heap.size := ⟨_, rfl⟩
  obtain ⟨w0, hw0⟩ : ∃ w0, w0 = (w.alloc (.cells (tv T).toArray 28)).alloc (.cells (tv t0).toArray 28) := ⟨_, rfl⟩
  have HB0 : Hid (But [] w w0) := by show But _ _ _; rw [hw0]; exact ((But.refl [] w).alloc _).alloc _
  obtain ⟨t1, t2, t3⟩ := box_two w T 28
  rw [← hw0, ← hb] at t1 t2 t3
  have HV0 := hid t1
  have HR0 := hid t1.range
  have HT0 : Hid (w0.there (b + 1) 0 (tv T).toArray.size) := by show World.there _ _ _ _; rw [tvs]; exact t2
  have HS0 := hid t3
  have HBW := hid hb
  have HO := hid hT
  clear t1 t2 t3 hT
  go_enter Try.func9, Try.ntmps9
  go_upto_region 1 with fail
  rw [← hw0, ← hb]
  clear hw0 hb hz
  go_wp2_with (first
    | (refine wpList_load_mid rfl 28 _ rfl b 0 rfl (tv T) _ HR0.out Try.underlying28 rfl (iTab _) ?_)
    | (refine wpList_store_mid rfl 28 _ _ rfl (b + 1) 0 (tv T).toArray rfl rfl ?ht (iTab' _) (tv_all _) ?_; case ht => exact HT0.out))
  refine bodyPost_ret (results_range3 rfl _ _ (b + 1) 0 (tv (T)) _ rfl (World.rangeAt_setCells_same _ _ _ _ (by have := HT0.out; rwa [tvs, ← tv_len (T)] at this)) Try.underlying28 rfl (iTab _)) rfl ?_
  have hbw := HBW.out
  have hk0 := (But.refl [] w0)
  exact ⟨rfl, but_own (but_own HB0.out hk0 (fun i hi => by simp at hi; try omega)) ((But.refl [b + 1] _).setCells (by simp) _ _) (fun i hi => by simp at hi; omega)⟩
set_option maxHeartbeats 2000000 in
theorem add_there (T : Tf) (hT : Ok T) (n : Int) (h0 : 0 ≤ n) (h5 : n ≤ 1023) (hf : 0 ≤ fnT T n) (w : World) :
    Calls Try.prog 9 #[.agg (tv T).toArray, .int .i64 n] w fun e w' => e = .returned (.tuple #[.agg (tv T).toArray, .int .i64 0, .bool false]) ∧ But [] w w' := by
  have hz := zTab
  obtain ⟨b, hb⟩ : ∃ b, b = w.heap.size := ⟨_, rfl⟩
  obtain ⟨w0, hw0⟩ : ∃ w0, w0 = (w.alloc (.cells (tv T).toArray 28)).alloc (.cells (tv t0).toArray 28) := ⟨_, rfl⟩
  have HB0 : Hid (But [] w w0) := by show But _ _ _; rw [hw0]; exact ((But.refl [] w).alloc _).alloc _
  obtain ⟨t1, t2, t3⟩ := box_two w T 28
  rw [← hw0, ← hb] at t1 t2 t3
  have HV0 := hid t1
  have HR0 := hid t1.range
  have HT0 : Hid (w0.there (b + 1) 0 (tv T).toArray.size) := by show World.there _ _ _ _; rw [tvs]; exact t2
  have HS0 := hid t3
  have HBW := hid hb
  have HO := hid hT
  clear t1 t2 t3 hT
  go_enter Try.func9, Try.ntmps9
  go_upto_region 1 with fail
  rw [← hw0, ← hb]
  clear hw0 hb hz
  go_wp2_with (first
    | (refine wpList_load_mid rfl 28 _ rfl b 0 rfl (tv T) _ HR0.out Try.underlying28 rfl (iTab _) ?_))
  refine (find_c T HO.out n _).mono ?_
  rintro e w1 ⟨rfl, k1⟩
  rw [Pr_yes hf]
  have HR1 := hid (range_keep HR0.out k1 (by simp))
  have HT1 := hid (there_keep HT0.out k1 (by have := HS0.out; omega) (by simp))
  have HK1 := hid k1
  generalize fnT T n = x at *
  clear k1 hf
  go_wp2_with (first
    | (refine wpList_load_mid rfl 28 _ rfl b 0 rfl (tv T) _ HR1.out Try.underlying28 rfl (iTab _) ?_)
    | (refine wpList_store_mid rfl 28 _ _ rfl (b + 1) 0 (tv T).toArray rfl rfl ?ht (iTab' _) (tv_all _) ?_; case ht => exact HT1.out))
  refine bodyPost_ret (results_range3 rfl _ _ (b + 1) 0 (tv (T)) _ rfl (World.rangeAt_setCells_same _ _ _ _ (by have := HT1.out; rwa [tvs, ← tv_len (T)] at this)) Try.underlying28 rfl (iTab _)) rfl ?_
  have hbw := HBW.out
  have hk0 := HK1.out
  exact ⟨rfl, but_own (but_own HB0.out hk0 (fun i hi => by simp at hi; try omega)) ((But.refl [b + 1] _).setCells (by simp) _ _) (fun i hi => by simp at hi; omega)⟩
set_option maxHeartbeats 2000000 in
theorem add_full (T : Tf) (hT : Ok T) (n : Int) (h0 : 0 ≤ n) (h5 : n ≤ 1023) (hf : fnT T n < 0) (hx : ix T (-1) < 0) (w : World) :
    Calls Try.prog 9 #[.agg (tv T).toArray, .int .i64 n] w fun e w' => e = .returned (.tuple #[.agg (tv T).toArray, .int .i64 0, .bool false]) ∧ But [] w w' := by
  have HX := hid hx
  clear hx
  have hz := zTab
  obtain ⟨b, hb⟩ : ∃ b, b = w.heap.size := ⟨_, rfl⟩
  obtain ⟨w0, hw0⟩ : ∃ w0, w0 = (w.alloc (.cells (tv T).toArray 28)).alloc (.cells (tv t0).toArray 28) := ⟨_, rfl⟩
  have HB0 : Hid (But [] w w0) := by show But _ _ _; rw [hw0]; exact ((But.refl [] w).alloc _).alloc _
  obtain ⟨t1, t2, t3⟩ := box_two w T 28
  rw [← hw0, ← hb] at t1 t2 t3
  have HV0 := hid t1
  have HR0 := hid t1.range
  have HT0 : Hid (w0.there (b + 1) 0 (tv T).toArray.size) := by show World.there _ _ _ _; rw [tvs]; exact t2
  have HS0 := hid t3
  have HBW := hid hb
  have HO := hid hT
  clear t1 t2 t3 hT
  go_enter Try.func9, Try.ntmps9
  go_upto_region 1 with fail
  rw [← hw0, ← hb]
  clear hw0 hb hz
  go_wp2_with (first
    | (refine wpList_load_mid rfl 28 _ rfl b 0 rfl (tv T) _ HR0.out Try.underlying28 rfl (iTab _) ?_))
  refine (find_c T HO.out n _).mono ?_
  rintro e w1 ⟨rfl, k1⟩
  rw [Pr_no hf]
  have HR1 := hid (range_keep HR0.out k1 (by simp))
  have HT1 := hid (there_keep HT0.out k1 (by have := HS0.out; omega) (by simp))
  have HK1 := hid k1
  clear k1 hf
  go_wp2_with fail
  refine (least0_c b T HO.out _ HR1.out).mono ?_
  rintro e w2 ⟨rfl, k2⟩
  rw [Pr_no HX.out]
  have HR2 := hid (range_keep HR1.out k2 (by simp))
  have HT2 := hid (there_keep HT1.out k2 (lt_of_there HT1.out (by rw [tvs]; omega)) (by simp))
  have HK2 := hid (HK1.out.trans k2)
  clear k2
  go_wp2_with (first
    | (refine wpList_load_mid rfl 28 _ rfl b 0 rfl (tv T) _ HR2.out Try.underlying28 rfl (iTab _) ?_)
    | (refine wpList_store_mid rfl 28 _ _ rfl (b + 1) 0 (tv T).toArray rfl rfl ?ht (iTab' _) (tv_all _) ?_; case ht => exact HT2.out))
  refine bodyPost_ret (results_range3 rfl _ _ (b + 1) 0 (tv (T)) _ rfl (World.rangeAt_setCells_same _ _ _ _ (by have := HT2.out; rwa [tvs, ← tv_len (T)] at this)) Try.underlying28 rfl (iTab _)) rfl ?_
  have hbw := HBW.out
  have hk0 := HK2.out
  exact ⟨rfl, but_own (but_own HB0.out hk0 (fun i hi => by simp at hi; try omega)) ((But.refl [b + 1] _).setCells (by simp) _ _) (fun i hi => by simp at hi; omega)⟩
set_option maxHeartbeats 2000000 in
theorem add_new (T : Tf) (hT : Ok T) (n : Int) (k : Nat) (h0 : 0 ≤ n) (h5 : n ≤ 1023) (hf : fnT T n < 0) (hx : ix T (-1) = k) (w : World) :
    Calls Try.prog 9 #[.agg (tv T).toArray, .int .i64 n] w fun e w' => e = .returned (.tuple #[.agg (tv (upd T k n)).toArray, .int .i64 k, .bool true]) ∧ But [] w w' := by
  have hk5 : k < 512 := by have := ix_lt T (-1); omega
  have HX := hid hx
  clear hx
  have hz := zTab
  obtain ⟨b, hb⟩ : ∃ b, b = w.heap.size := ⟨_, rfl⟩
  obtain ⟨w0, hw0⟩ : ∃ w0, w0 = (w.alloc (.cells (tv T).toArray 28)).alloc (.cells (tv t0).toArray 28) := ⟨_, rfl⟩
  have HB0 : Hid (But [] w w0) := by show But _ _ _; rw [hw0]; exact ((But.refl [] w).alloc _).alloc _
  obtain ⟨t1, t2, t3⟩ := box_two w T 28
  rw [← hw0, ← hb] at t1 t2 t3
  have HV0 := hid t1
  have HR0 := hid t1.range
  have HT0 : Hid (w0.there (b + 1) 0 (tv T).toArray.size) := by show World.there _ _ _ _; rw [tvs]; exact t2
  have HS0 := hid t3
  have HBW := hid hb
  have HO := hid hT
  clear t1 t2 t3 hT
  go_enter Try.func9, Try.ntmps9
  go_upto_region 1 with fail
  rw [← hw0, ← hb]
  clear hw0 hb hz
  go_wp2_with (first
    | (refine wpList_load_mid rfl 28 _ rfl b 0 rfl (tv T) _ HR0.out Try.underlying28 rfl (iTab _) ?_))
  refine (find_c T HO.out n _).mono ?_
  rintro e w1 ⟨rfl, k1⟩
  rw [Pr_no hf]
  have HR1 := hid (range_keep HR0.out k1 (by simp))
  have HT1 := hid (there_keep HT0.out k1 (by have := HS0.out; omega) (by simp))
  have HK1 := hid k1
  clear k1 hf
  go_wp2_with fail
  refine (least0_c b T HO.out _ HR1.out).mono ?_
  rintro e w2 ⟨rfl, k2⟩
  rw [HX.out, Pr_yes (by omega)]
  have HR2 := hid (range_keep HR1.out k2 (by simp))
  have HT2 := hid (there_keep HT1.out k2 (lt_of_there HT1.out (by rw [tvs]; omega)) (by simp))
  have HK2 := hid (HK1.out.trans k2)
  have HV2 := hid ((HV0.out.keep HK1.out (by simp)).keep k2 (by simp))
  obtain ⟨hcv, hfv⟩ := HV2.out k hk5
  have HV3 : Hid (Tb (w2.setCell ⟨b, k, none⟩ (.int .u16 (n + 1))) b (upd T k n)) := HV2.out.set (k := k) (fun q _ => rfl)
  have HR3 := hid HV3.out.range
  have hk3 : But [b] w2 (w2.setCell ⟨b, k, none⟩ (.int .u16 (n + 1))) := (But.refl [b] _).setCell (by simp) _
  have HT3 : Hid ((w2.setCell ⟨b, k, none⟩ (.int .u16 (n + 1))).there (b + 1) 0 (tv (upd T k n)).toArray.size) := by
    show World.there _ _ _ _
    have := HT2.out
    rw [tvs] at this ⊢
    exact there_keep this hk3 (lt_of_there this (by omega)) (by simp)
  have HK3 := hid ((HK2.out.any [b]).trans hk3)
  clear k2 HV2 hk3
  go_wp2_with fail
  refine (mark_c n h0 h5 _).mono ?_
  rintro e w3 ⟨rfl, rfl⟩
  go_wp2_with (first
    | (refine wpList_load_mid rfl 28 _ rfl b 0 rfl (tv (upd T k n)) _ HR3.out Try.underlying28 rfl (iTab _) ?_)
    | (refine wpList_store_mid rfl 28 _ _ rfl (b + 1) 0 (tv (upd T k n)).toArray rfl rfl ?ht (iTab' _) (tv_all _) ?_; case ht => exact HT3.out))
  refine bodyPost_ret (results_range3 rfl _ _ (b + 1) 0 (tv (upd T k n)) _ rfl (World.rangeAt_setCells_same _ _ _ _ (by have := HT3.out; rwa [tvs, ← tv_len (upd T k n)] at this)) Try.underlying28 rfl (iTab _)) rfl ?_
  have hbw := HBW.out
  have hk0 := HK3.out
  exact ⟨rfl, but_own (but_own HB0.out hk0 (fun i hi => by simp at hi; try omega)) ((But.refl [b + 1] _).setCells (by simp) _ _) (fun i hi => by simp at hi; omega)⟩
set_option maxHeartbeats 2000000 in
theorem drop_no (T : Tf) (hT : Ok T) (n : Int) (hg : getT T n < 0) (w : World) :
    Calls Try.prog 11 #[.agg (tv T).toArray, .int .i64 n] w fun e w' => e = .returned (.tuple #[.agg (tv T).toArray, .bool false]) ∧ But [] w w' := by
  have hz := zTab
  obtain ⟨b, hb⟩ : ∃ b, b = w.heap.size := ⟨_, rfl⟩
  obtain ⟨w0, hw0⟩ : ∃ w0, w0 = (w.alloc (.cells (tv T).toArray 28)).alloc (.cells (tv t0).toArray 28) := ⟨_, rfl⟩
  have HB0 : Hid (But [] w w0) := by show But _ _ _; rw [hw0]; exact ((But.refl [] w).alloc _).alloc _
  obtain ⟨t1, t2, t3⟩ := box_two w T 28
  rw [← hw0, ← hb] at t1 t2 t3
  have HV0 := hid t1
  have HR0 := hid t1.range
  have HT0 : Hid (w0.there (b + 1) 0 (tv T).toArray.size) := by show World.there _ _ _ _; rw [tvs]; exact t2
  have HS0 := hid t3
  have HBW := hid hb
  have HO := hid hT
  clear t1 t2 t3 hT
  go_enter Try.func11, Try.ntmps11
  go_upto_region 1 with fail
  rw [← hw0, ← hb]
  clear hw0 hb hz
  go_wp2_with (first
    | (refine wpList_load_mid rfl 28 _ rfl b 0 rfl (tv T) _ HR0.out Try.underlying28 rfl (iTab _) ?_))
  refine (get_c T HO.out n _).mono ?_
  rintro e w1 ⟨rfl, k1⟩
  rw [Pr_no hg]
  have HR1 := hid (range_keep HR0.out k1 (by simp))
  have HT1 := hid (there_keep HT0.out k1 (by have := HS0.out; omega) (by simp))
  have HK1 := hid k1
  clear k1 hg
  go_wp2_with (first
    | (refine wpList_load_mid rfl 28 _ rfl b 0 rfl (tv T) _ HR1.out Try.underlying28 rfl (iTab _) ?_)
    | (refine wpList_store_mid rfl 28 _ _ rfl (b + 1) 0 (tv T).toArray rfl rfl ?ht (iTab' _) (tv_all _) ?_; case ht => exact HT1.out))
  refine bodyPost_ret (results_range rfl _ _ (b + 1) 0 (tv (T)) _ rfl (World.rangeAt_setCells_same _ _ _ _ (by have := HT1.out; rwa [tvs, ← tv_len (T)] at this)) Try.underlying28 rfl (iTab _)) rfl ?_
  have hbw := HBW.out
  have hk0 := HK1.out
  exact ⟨rfl, but_own (but_own HB0.out hk0 (fun i hi => by simp at hi; try omega)) ((But.refl [b + 1] _).setCells (by simp) _ _) (fun i hi => by simp at hi; omega)⟩
set_option maxHeartbeats 2000000 in
theorem drop_yes (T : Tf) (hT : Ok T) (k : Nat) (hk5 : k < 512) (hg : 0 ≤ getT T k) (w : World) :
    Calls Try.prog 11 #[.agg (tv T).toArray, .int .i64 k] w fun e w' => e = .returned (.tuple #[.agg (tv (upd T k (-1))).toArray, .bool true]) ∧ But [] w w' := by
  have hz := zTab
  obtain ⟨b, hb⟩ : ∃ b, b = w.heap.size := ⟨_, rfl⟩
  obtain ⟨w0, hw0⟩ : ∃ w0, w0 = (w.alloc (.cells (tv T).toArray 28)).alloc (.cells (tv t0).toArray 28) := ⟨_, rfl⟩
  have HB0 : Hid (But [] w w0) := by show But _ _ _; rw [hw0]; exact ((But.refl [] w).alloc _).alloc _
  obtain ⟨t1, t2, t3⟩ := box_two w T 28
  rw [← hw0, ← hb] at t1 t2 t3
  have HV0 := hid t1
  have HR0 := hid t1.range
  have HT0 : Hid (w0.there (b + 1) 0 (tv T).toArray.size) := by show World.there _ _ _ _; rw [tvs]; exact t2
  have HS0 := hid t3
  have HBW := hid hb
  have HO := hid hT
  clear t1 t2 t3 hT
  go_enter Try.func11, Try.ntmps11
  go_upto_region 1 with fail
  rw [← hw0, ← hb]
  clear hw0 hb hz
  go_wp2_with (first
    | (refine wpList_load_mid rfl 28 _ rfl b 0 rfl (tv T) _ HR0.out Try.underlying28 rfl (iTab _) ?_))
  refine (get_c T HO.out k _).mono ?_
  rintro e w1 ⟨rfl, k1⟩
  rw [Pr_yes hg]
  have HR1 := hid (range_keep HR0.out k1 (by simp))
  have HT1 := hid (there_keep HT0.out k1 (by have := HS0.out; omega) (by simp))
  have HK1 := hid k1
  have HV2 := hid (HV0.out.keep HK1.out (by simp))
  obtain ⟨hcv, hfv⟩ := HV2.out k hk5
  have HV3 : Hid (Tb (w1.setCell ⟨b, k, none⟩ (.int .u16 0)) b (upd T k (-1))) := HV2.out.none
  have HR3 := hid HV3.out.range
  have hk3 : But [b] w1 (w1.setCell ⟨b, k, none⟩ (.int .u16 0)) := (But.refl [b] _).setCell (by simp) _
  have HT3 : Hid ((w1.setCell ⟨b, k, none⟩ (.int .u16 0)).there (b + 1) 0 (tv (upd T k (-1))).toArray.size) := by
    show World.there _ _ _ _
    have := HT1.out
    rw [tvs] at this ⊢
    exact there_keep this hk3 (lt_of_there this (by omega)) (by simp)
  have HK3 := hid ((HK1.out.any [b]).trans hk3)
  generalize getT T _ = x at *
  have hkI : (k : Int) < 512 := by omega
  clear k1 hg HV2 hk3
  go_wp2_with (first
    | (refine wpList_load_mid rfl 28 _ rfl b 0 rfl (tv (upd T k (-1))) _ HR3.out Try.underlying28 rfl (iTab _) ?_)
    | (refine wpList_store_mid rfl 28 _ _ rfl (b + 1) 0 (tv (upd T k (-1))).toArray rfl rfl ?ht (iTab' _) (tv_all _) ?_; case ht => exact HT3.out))
  refine bodyPost_ret (results_range rfl _ _ (b + 1) 0 (tv (upd T k (-1))) _ rfl (World.rangeAt_setCells_same _ _ _ _ (by have := HT3.out; rwa [tvs, ← tv_len (upd T k (-1))] at this)) Try.underlying28 rfl (iTab _)) rfl ?_
  have hbw := HBW.out
  have hk0 := HK3.out
  exact ⟨rfl, but_own (but_own HB0.out hk0 (fun i hi => by simp at hi; try omega)) ((But.refl [b + 1] _).setCells (by simp) _ _) (fun i hi => by simp at hi; omega)⟩
/-- The name that a number gets; -1, if none. -/
def adk (T : Tf) (n : Int) : Int := if 0 ≤ n ∧ n ≤ 1023 ∧ fnT T n < 0 then ix T (-1) else -1
/-- The table behind that. -/
def adT (T : Tf) (n : Int) : Tf := if adk T n < 0 then T else upd T (adk T n).toNat n
def Pr3 (T : Tf) (r : Int) : Value := .tuple #[.agg (tv T).toArray, .int .i64 (sg r), .bool (decide (0 ≤ r))]
theorem Pr3_no {T : Tf} {r : Int} (h : r < 0) : Pr3 T r = .tuple #[.agg (tv T).toArray, .int .i64 0, .bool false] := by unfold Pr3 sg; rw [if_pos h, decide_eq_false (by omega)]
theorem Pr3_yes {T : Tf} {r : Int} (h : 0 ≤ r) : Pr3 T r = .tuple #[.agg (tv T).toArray, .int .i64 r, .bool true] := by unfold Pr3 sg; rw [if_neg (by omega), decide_eq_true h]
theorem add_c (T : Tf) (hT : Ok T) (n : Int) (w : World) :
    Calls Try.prog 9 #[.agg (tv T).toArray, .int .i64 n] w fun e w' => e = .returned (Pr3 (adT T n) (adk T n)) ∧ But [] w w' := by
  by_cases h : 0 ≤ n ∧ n ≤ 1023 ∧ fnT T n < 0
  · have e1 : adk T n = ix T (-1) := if_pos h
    by_cases hx : ix T (-1) < 0
    · have e2 : adT T n = T := by unfold adT; rw [e1, if_pos hx]
      rw [e1, e2, Pr3_no hx]
      exact add_full T hT n h.1 h.2.1 h.2.2 hx w
    · obtain ⟨k, hk⟩ : ∃ k : Nat, ix T (-1) = k := ⟨(ix T (-1)).toNat, by omega⟩
      have e2 : adT T n = upd T k n := by unfold adT; rw [e1, if_neg hx, hk]; rfl
      rw [e1, e2, hk, Pr3_yes (by omega)]
      exact add_new T hT n k h.1 h.2.1 h.2.2 hk w
  · have e1 : adk T n = -1 := if_neg h
    have e2 : adT T n = T := by unfold adT; rw [e1, if_pos (by decide)]
    rw [e1, e2, Pr3_no (by decide)]
    by_cases h0 : n < 0
    · exact add_lo T hT n h0 w
    · by_cases h5 : 1023 < n
      · exact add_hi T hT n (by omega) h5 w
      · exact add_there T hT n (by omega) (by omega) (by omega) w
/-- The table in which a name means nothing. -/
def drT (T : Tf) (n : Int) : Tf := if 0 ≤ getT T n then upd T n.toNat (-1) else T
theorem drop_c (T : Tf) (hT : Ok T) (n : Int) (w : World) :
    Calls Try.prog 11 #[.agg (tv T).toArray, .int .i64 n] w fun e w' => e = .returned (.tuple #[.agg (tv (drT T n)).toArray, .bool (decide (0 ≤ getT T n))]) ∧ But [] w w' := by
  by_cases h : 0 ≤ getT T n
  · have hn : 0 ≤ n ∧ n < 512 := by
      by_cases hn : 0 ≤ n ∧ n < 512
      · exact hn
      · unfold getT at h; rw [if_neg hn] at h; omega
    obtain ⟨k, rfl⟩ : ∃ k : Nat, n = k := ⟨n.toNat, by omega⟩
    have e : drT T k = upd T k (-1) := if_pos h
    rw [e, decide_eq_true h]
    exact drop_yes T hT k (by omega) h w
  · have e : drT T n = T := if_neg h
    rw [e, decide_eq_false h]
    exact drop_no T hT n (by omega) w
attribute [irreducible] adk adT drT
end Go.Proofs.Ytfjkbfcfceckgaa.Nm
