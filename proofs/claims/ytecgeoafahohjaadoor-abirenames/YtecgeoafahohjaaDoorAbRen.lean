/-
  Layer 14 (abi): the contract of Renamed, over the translated program.
-/
import Derived.Test.YtecgeoafahohjaaDoorAbTold
import Derived.Test.YtecgeoafahohjaaDoorAbCheck
import Derived.Test.YtecgeoafahohjaaDoorAbLawN
import Derived.Deep.RegionHeld3
namespace Go.Proofs.YtecgeoafahohjaaDoor.Ab
open Go.ChangeShapes Go.WideShapes Go.ChangeAt Go.RowKit
open Wh
set_option linter.unusedVariables false
set_option maxRecDepth 20000

/-- The call that is answered. -/
def rnA (ok : Bool) (x : Int) (h : Nat → Int) (r : List Int) : List Value := if ok = true then cv x h r else cv 0 z0 (zs 33)
theorem szName : (Tryd.prog.info? 39).map (·.size) = some 2 := by kernel_rfl
theorem take_snoc {L : List Nm} {m : Nat} {p : Nm} (h : L[m]? = some p) : L.take (m + 1) = L.take m ++ [p] := by rw [List.take_add_one, h]; rfl
theorem okL_take {b : Int → Int → Bool} {g : Nat → Int} {L : List Nm} {m : Nat} {p : Nm} (hp : L[m]? = some p) (h : okL b g (L.take m) = true) (h1 : b p.2 (g p.1) = true) : okL b g (L.take (m + 1)) = true := by
  rw [take_snoc hp, okL_snoc, h, h1]; rfl
set_option maxHeartbeats 4000000 in
theorem renamed_c (v : Value) (f : Int → Int → Int) (bb : Int → Int → Bool) (x : Int) (g : Nat → Int) (r : List Int) (w : World) (h : NumOk w) (hr : r.length = 33)
    (hT : ∀ wx : World, But [] w wx → ∀ k n : Int, 0 ≤ k ∧ k ≤ 3 → Calls Tryd.prog 24 #[v, .int .i64 k, .int .i64 n] wx fun e w' => e = .returned (.tuple #[.int .i64 (f k n), .bool (bb k n)]) ∧ But [] wx w') :
    Calls Tryd.prog 17 #[.agg (cv x g r).toArray, v] w fun e w' => e = .returned (.tuple #[.agg (rnA (okL bb g (nms (lt x))) x (upL f g (nms (lt x))) r).toArray, .bool (okL bb g (nms (lt x)))]) ∧ But [] w w' := by
  have HT := hid hT
  have HR := hid hr
  obtain ⟨b, hb⟩ : ∃ b, b = w.heap.size := ⟨_, rfl⟩
  obtain ⟨w0, hw0⟩ : ∃ w0, w0 = (w.alloc (.cells (cv x g r).toArray 29)).alloc (.cells (cv 0 z0 (zs 33)).toArray 29) := ⟨_, rfl⟩
  have hc := (call_new w x g hr 29).keep0 ((But.refl [] _).alloc (.cells (cv 0 z0 (zs 33)).toArray 29))
  have hd := call_new (w.alloc (.cells (cv x g r).toArray 29)) 0 z0 (zs_len 33) 29
  rw [show (w.alloc (.cells (cv x g r).toArray 29)).heap.size = w.heap.size + 1 by simp] at hd
  rw [← hw0, ← hb] at hc hd
  have HC := hid hc
  have HD := hid hd
  have HB : Hid (But [] w w0) := by show But _ _ _; rw [hw0]; exact ((But.refl [] w).alloc _).alloc _
  have HSZ : Hid (w0.heap.size = b + 2) := by show _ = _; rw [hw0, hb]; simp
  have HBW := hid hb
  have HO : Hid (NumOk w0) := h.keep0 HB.out
  obtain ⟨L, hL⟩ : ∃ L, L = nms (lt x) := ⟨_, rfl⟩
  have HL : Hid (L = nms (lt x)) := hL
  have HNX : Hid (∀ (m : Nat) (p : Nm), L[m]? = some p → upL f g (L.take m) p.1 = g p.1) := fun m p hp => by rw [hL] at hp ⊢; exact upL_next f g (lt x) m p hp
  have HIN : Hid (∀ (m : Nat) (p : Nm), L[m]? = some p → p.1 < 4 ∧ 0 ≤ p.2 ∧ p.2 ≤ 3) := fun m p hp => by
    rw [hL] at hp
    have := nmN_lt (lt x) (lt x).length p (List.mem_of_getElem? hp)
    have := lt_four x
    omega
  have hop := hc.op
  have hz := zCall
  clear h hc hd hr hT hL
  go_enter Tryd.func17, Tryd.ntmps17
  go_upto_region 1 with fail
  rw [← hw0, ← hb]
  clear hw0 hb hz
  go_wp2_with fail
  refine (names_c x _ HO.out).mono ?_
  rw [← HL.out]
  rintro e w1 ⟨A, n, c, rfl, hq, k1⟩
  have hnL : n = L.length := by have := hq.1; rw [nc_len] at this; omega
  have hq' : Que w1 (b + 2) 2 (.slice A n c) n (nc L) := by rw [← HSZ.out]; exact hq
  have HQ := hid hq'
  have HC1 := hid (HC.out.keep0 k1)
  have HD1 := hid (HD.out.keep0 k1)
  have HB1 := hid (HB.out.trans k1)
  have hn4 : n ≤ 4 := by
    have h1 := nmN_len (lt x) (lt x).length
    have h2 := lt_four x
    have h3 : L = nmN (lt x) (lt x).length := HL.out
    rw [hnL, h3]
    omega
  have HNL := hid hnL
  clear hq hq' k1 hop hnL
  go_wp2
  go_loopg [14] (n + 1) (fun g0 i wx => ∃ m : Nat, m + g0 = n + 1 ∧ m ≤ n ∧ i = .int .i64 m ∧ Hid (CallAt wx b x (upL f g (L.take m)) r) ∧ Hid (CallAt wx (b + 1) 0 z0 (zs 33)) ∧ Hid (Que wx (b + 2) 2 (.slice A n c) n (nc L)) ∧ Hid (okL bb g (L.take m) = true) ∧ Hid (But [] w wx))
  case atStart => exact ⟨0, by omega, by omega, rfl, HC1, HD1, HQ, rfl, HB1⟩
  case round =>
    obtain ⟨m, hmg, hm, rfl, HCm, HDm, HQm, HKm, HBm⟩ := hrel
    by_cases hlt : m < n
    · obtain ⟨-, g1, o1, p, rfl, hp, c1, c2⟩ := que_name HQm.out hlt
      have hmI : (m : Int) < (n : Int) := by omega
      have HP := hid hp
      obtain ⟨hi4, hk0, hk3⟩ := HIN.out m p hp
      have HGX : Hid (upL f g (L.take m) p.1 = g p.1) := HNX.out m p hp
      obtain ⟨ca, cz⟩ := HCm.out.arg p.1 hi4
      rw [HGX.out] at ca
      obtain ⟨ia, ik⟩ := p
      simp only at c1 c2 hi4 hk0 hk3 ca cz
      obtain ⟨a, ha⟩ : ∃ a, a = g ia := ⟨_, rfl⟩
      rw [← ha] at ca
      have HGA := hid ha
      obtain ⟨q, hq⟩ : ∃ q, q = wr.heap.size := ⟨_, rfl⟩
      have HQQ := hid hq
      have hrn := new_range wr [.int .i64 (ia : Int), .int .i64 ik] 39
      rw [← hq] at hrn
      have HKN : Hid (But [] wr (wr.alloc (.cells #[.int .i64 (ia : Int), .int .i64 ik] 39))) := (But.refl [] wr).alloc _
      have hi4' : (ia : Int) < 4 := by omega
      clear hp ha cz
      go_upto_region 4 with (first
        | (refine wpList_store_new rfl 39 _ _ rfl #[.int .i64 0, .int .i64 0] #[.int .i64 (ia : Int), .int .i64 ik] rfl rfl szName rfl rfl ?_))
      rw [← hq]
      have HS0 : Hid (But [] wr (wr.alloc (.cells #[.int .i64 (ia : Int), .int .i64 ik] 39))) := HKN.out
      have hrn0 : (wr.alloc (.cells #[.int .i64 (ia : Int), .int .i64 ik] 39)).cell? ⟨q, 0, none⟩ = some (.int .i64 (ia : Int)) := hrn 0 _ rfl
      have hrn1 : (wr.alloc (.cells #[.int .i64 (ia : Int), .int .i64 ik] 39)).cell? ⟨q, 1, none⟩ = some (.int .i64 ik) := hrn 1 _ rfl
      have ca2 := cell_keep ca HKN.out (by simp)
      clear hrn hq ca c1 c2
      generalize wr.alloc (.cells #[.int .i64 (ia : Int), .int .i64 ik] 39) = w2 at *
      have HC2 : Hid (CallAt w2 b x (upL f g (L.take m)) r) := HCm.out.keep0 HKN.out
      have HD2 := hid (HDm.out.keep0 HKN.out)
      have HQ2 := hid (HQm.out.keep0 HKN.out)
      have HB2 := hid (HBm.out.trans HKN.out)
      have HSX : Hid (∀ w' : World, But [] w2 w' → w'.cell? ⟨q, 1, none⟩ = some (.int .i64 ik) ∧ w'.cell? ⟨q, 0, none⟩ = some (.int .i64 (ia : Int)) ∧ w'.cell? ⟨b, 1 + ia, none⟩ = some (.int .i64 a)) := fun w' h => ⟨cell_keep hrn1 h (by simp), cell_keep hrn0 h (by simp), cell_keep ca2 h (by simp)⟩
      have hd0 : But [] w2 w2.drew := (But.refl [] w2).drew
      have hS0 := HSX.out _ hd0
      obtain ⟨z, hz⟩ : ∃ z, z = bb ik a := ⟨_, rfl⟩
      have HZ := hid hz
      have HTK : Hid (∀ wx : World, But [] w2 wx → Calls Tryd.prog 24 #[v, .int .i64 ik, .int .i64 a] wx fun e w' => e = .returned (.tuple #[.int .i64 (f ik a), .bool z]) ∧ But [] wx w') := fun wx h => by rw [hz]; exact HT.out wx (HB2.out.trans h) ik a ⟨hk0, hk3⟩
      obtain ⟨y, hy⟩ : ∃ y, y = f ik a := ⟨_, rfl⟩
      rw [← hy] at HTK
      have HY := hid hy
      clear hrn0 hrn1 ca2 HKN HS0 hz hy
      go_wp2
      go_region_held3 (fun w' => w'.cell? ⟨q, 1, none⟩ = some (.int .i64 ik) ∧ w'.cell? ⟨q, 0, none⟩ = some (.int .i64 (ia : Int)) ∧ w'.cell? ⟨b, 1 + ia, none⟩ = some (.int .i64 a))
        (first | assumption | exact HSX.out _ (by assumption))
        (first
          | (go_at_call 24; refine (HTK.out _ hd0).mono ?_; rintro e w3 ⟨rfl, k3⟩; have K3 := hd0.trans k3; clear k3))
      have HC3 : Hid (CallAt w3 b x (upL f g (L.take m)) r) := HC2.out.keep0 K3
      have HD3 := hid (HD2.out.keep0 K3)
      have HQ3 := hid (HQ2.out.keep0 K3)
      have HB3 := hid (HB2.out.trans K3)
      have hS3 := HSX.out _ K3
      clear hS0 hd0
      cases z with
      | true =>
        obtain ⟨ca3, cz3⟩ := HC3.out.arg ia hi4
        obtain ⟨hq1, hq0, -⟩ := hS3
        have HC4 : Hid (CallAt (w3.setCell ⟨b, 1 + ia, none⟩ (.int .i64 y)) b x (upL f g (L.take (m + 1))) r) := by
          show CallAt _ _ _ _ _
          rw [take_snoc HP.out, upL_snoc]
          show CallAt _ _ _ (upd (upL f g (L.take m)) ia (f ik (g ia))) _
          rw [← HGA.out, ← HY.out]
          exact HC3.out.set ia hi4 y
        have K4 : But [b] w3 (w3.setCell ⟨b, 1 + ia, none⟩ (.int .i64 y)) := (But.refl [b] w3).setCell (by simp) _
        have HD4 := hid (HD3.out.keep K4 (by simp))
        have HQ4 := hid (HQ3.out.keep K4 (fun k hk => by have := (HQ3.out.lt k hk).1; simp; omega))
        have HB4 : Hid (But [] w (w3.setCell ⟨b, 1 + ia, none⟩ (.int .i64 y))) := but_own HB3.out K4 (by have := HBW.out; simp; omega)
        have HK4 : Hid (okL bb g (L.take (m + 1)) = true) := okL_take HP.out HKm.out (by show bb ik (g ia) = true; rw [← HGA.out, ← HZ.out])
        clear K4 K3
        go_wp2
        go_roundg (n + 1 - (m + 1))
        case measure => omega
        case rel => exact ⟨m + 1, by omega, by omega, by go_num, HC4.out, HD4.out, HQ4.out, HK4.out, HB4.out⟩
      | false =>
        have HOF : Hid (okL bb g L = false) := okL_false (List.mem_of_getElem? HP.out) (by show bb ik (g ia) = false; rw [← HGA.out, ← HZ.out])
        have HT3 : Hid (w3.there (b + 1) 0 (cv 0 z0 (zs 33)).toArray.size) := by show World.there _ _ _ _; rw [List.size_toArray, cv_len _ _ (zs_len 33)]; exact HD3.out.there
        have K4 : But [b + 1] w3 (w3.setCells (b + 1) 0 (cv 0 z0 (zs 33))) := (But.refl _ w3).setCells (by simp) _ _
        have HB4 : Hid (But [] w (w3.setCells (b + 1) 0 (cv 0 z0 (zs 33)))) := but_own HB3.out K4 (by have := HBW.out; simp; omega)
        have HR4 : Hid ((w3.setCells (b + 1) 0 (cv 0 z0 (zs 33))).rangeAt (b + 1) 0 (cv 0 z0 (zs 33))) := (CallAt.sets (x := 0) (g := z0) (r := zs 33) HD3.out.there (zs_len 33)).all
        clear hS3 K3 K4
        go_wp2_with (first
          | (refine wpList_build' rfl 29 [] rfl (cv 0 z0 (zs 33)).toArray bCall ?_)
          | (refine wpList_store_mid rfl 29 _ _ rfl (b + 1) 0 (cv 0 z0 (zs 33)).toArray rfl rfl HT3.out (iCall' 0 z0 (zs_len 33)) (all_oneCell_toArray (cv_one 0 z0 (zs 33))) ?_))
        refine bodyPost_ret (results_range rfl _ _ (b + 1) 0 (cv 0 z0 (zs 33)) _ rfl HR4.out Tryd.underlying29 rfl (iCall 0 z0 (zs_len 33))) rfl ?_
        refine ⟨?_, HB4.out⟩
        rw [← HL.out, HOF.out]
        rfl
    · obtain rfl : m = n := by omega
      have hall : L.take m = L := List.take_of_length_le (by have := HNL.out; omega)
      have HCe : Hid (CallAt wr b x (upL f g L) r) := by have := HCm.out; rw [hall] at this; exact this
      have HKe : Hid (okL bb g L = true) := by have := HKm.out; rw [hall] at this; exact this
      have HT3 : Hid (wr.there (b + 1) 0 (cv x (upL f g L) r).toArray.size) := by show World.there _ _ _ _; rw [List.size_toArray, cv_len _ _ HR.out]; exact HDm.out.there
      have K4 : But [b + 1] wr (wr.setCells (b + 1) 0 (cv x (upL f g L) r)) := (But.refl _ wr).setCells (by simp) _ _
      have HB4 : Hid (But [] w (wr.setCells (b + 1) 0 (cv x (upL f g L) r))) := but_own HBm.out K4 (by have := HBW.out; simp; omega)
      have HR4 : Hid ((wr.setCells (b + 1) 0 (cv x (upL f g L) r)).rangeAt (b + 1) 0 (cv x (upL f g L) r)) := (CallAt.sets HDm.out.there HR.out).all
      clear hall K4
      go_wp2_with (first
        | (refine wpList_load_mid rfl 29 _ rfl b 0 rfl (cv x (upL f g L) r) _ HCe.out.all Tryd.underlying29 rfl (iCall x _ HR.out) ?_)
        | (refine wpList_store_mid rfl 29 _ _ rfl (b + 1) 0 (cv x (upL f g L) r).toArray rfl rfl HT3.out (iCall' x _ HR.out) (all_oneCell_toArray (cv_one x _ r)) ?_))
      refine bodyPost_ret (results_range rfl _ _ (b + 1) 0 (cv x (upL f g L) r) _ rfl HR4.out Tryd.underlying29 rfl (iCall x _ HR.out)) rfl ?_
      refine ⟨?_, HB4.out⟩
      rw [← HL.out, HKe.out]
      rfl
end Go.Proofs.YtecgeoafahohjaaDoor.Ab
