/-
  Layer 6 (cpu): the contract of store, over the translated program.
-/
import Derived.Test.YtjlcncdhlcpklaaCpLdBase
namespace Go.Proofs.Ytjlcncdhlcpklaa.Cp
open Go.ChangeShapes Go.WideShapes Go.ChangeAt Go.RowKit
open Fr (MemAt Blk hasW hasF) 
open Tl (En TlbAt Ens getE misE ansE en0)
set_option linter.unusedVariables false
set_option maxRecDepth 20000

set_option maxHeartbeats 4000000 in
theorem store_c (bd bc bm bp n : Nat) (xs : List Int) (bt : Nat) (l : List En) (m : Nat) (op : Int) (a b : Nat) (i : Int) (c : List Int) (s : Int) (w : World) (h : DoAt w bd bc op a b i c s) (hC : CpuAt w bc bm bp n xs bt l m) (hA : Ap bd bc bm bp bt) (hm : m < 4611686018427387904)
    (t1 t2 : Int) (t3 : Bool) (t4 f q : Int) (hF : fndW l s (adr c b i) true = ⟨⟨t1, t2, t3, t4⟩, f, q⟩) :
    Calls Try.prog 42 #[.pointer (some ⟨bd, 0, none⟩)] w fun e w' => ∃ m', e = .returned (.agg (Tr.mk t1 t2 t3 t4).vs.toArray) ∧ m' ≤ m + 1 ∧ DoAt w' bd bc op a b i (selC t1 (c) c) s ∧ CpuAt w' bc bm bp n (selC t1 (putW n xs f q (c.getD a 0)) xs) bt l m' ∧ But [bd, bt, bp] w w' := by
  obtain ⟨g, hg⟩ : ∃ g, g = w.heap.size := ⟨_, rfl⟩
  have hT := there_new w #[.int .i64 0, .int .i64 0, .bool false, .int .i64 0] 37 4 rfl
  have hB0 : But [] w (w.alloc (.cells #[.int .i64 0, .int .i64 0, .bool false, .int .i64 0] 37)) := (But.refl [] w).alloc _
  have HGS : Hid (w.heap.size ≤ g) := by show _ ≤ g; omega
  have hbl := h.lt
  have HL0 : Hid (bc < w.heap.size ∧ bm < w.heap.size ∧ bp < w.heap.size ∧ bt < w.heap.size) := hC.lt
  have hgd : ¬ g = bd := by omega
  go_enter Try.func42, Try.ntmps42
  go_upto_region 1 with fail
  rw [← hg] at hT ⊢
  generalize w.alloc (.cells #[.int .i64 0, .int .i64 0, .bool false, .int .i64 0] 37) = w1 at hT hB0 ⊢
  have HT : Hid (w1.there g 0 4) := hT
  have HB : Hid (But [] w w1) := hB0
  have H1 : Hid (DoAt w1 bd bc op a b i c s) := h.keep hB0 (by simp)
  have HC1 : Hid (CpuAt w1 bc bm bp n xs bt l m) := hC.keep0 hB0
  have hb1 : bd < w1.heap.size := H1.out.lt
  have hn0 : w1.heap.size ∉ [bt] := by have := HC1.out.lt; simp; omega
  have hn1 : w1.heap.size + 1 ∉ [bt] := by have := HC1.out.lt; simp; omega
  have HAP : Hid (Ap bd bc bm bp bt) := hA
  have hbt : ¬ bd = bt := hA.t
  have HF : Hid (fndW l s (adr c b i) true = ⟨⟨t1, t2, t3, t4⟩, f, q⟩) := hF
  have S0 : w1.drew.cell? ⟨bd, 0, none⟩ = some (.pointer (some ⟨bc, 0, none⟩)) ∧ w1.drew.cell? ⟨bd, 22, none⟩ = some (.int .i64 s) := ⟨H1.out.cpu, H1.out.s22⟩
  have S1 : w1.cell? ⟨bd, 0, none⟩ = some (.pointer (some ⟨bc, 0, none⟩)) ∧ w1.cell? ⟨bd, 22, none⟩ = some (.int .i64 s) := ⟨H1.out.cpu, H1.out.s22⟩
  clear h hg hT hB0 hC hA hF
  go_cut [3, 4] (fun s3 s4 wx => ∃ (b3 b4 : Nat), s3 = .pointer (some ⟨b3, 0, none⟩) ∧ s4 = .pointer (some ⟨b4, 0, none⟩) ∧ LdR w1 bc bm bp n xs bt l m f q t1 t2 t3 t4 b3 b4 wx)
  case first =>
    -- ⟪slow⟫
    have hal : ∀ (w : World) (n : Nat) (o : Obj), (w.drewN n).alloc o = (w.alloc o).drewN n := fun _ _ _ => rfl
    go_region_held3 (fun w' => w'.cell? ⟨bd, 0, none⟩ = some (.pointer (some ⟨bc, 0, none⟩)) ∧ w'.cell? ⟨bd, 22, none⟩ = some (.int .i64 s))
      (first
        | with_reducible exact S0
        | (refine two_but (k := [w1.heap.size, w1.heap.size + 1]) hS4 ?_ (by simp; omega); repeat (first | with_reducible exact But.refl _ _ | with_reducible refine But.drew ?_ | with_reducible refine But.alloc ?_ _ | with_reducible refine But.drewN ?_ _ | with_reducible refine But.setCell ?_ (.inl (by simp)) _))
        | (refine two_but (k := []) S1 ?_ (by simp); repeat (first | with_reducible exact But.refl _ _ | with_reducible refine But.drew ?_ | with_reducible refine But.alloc ?_ _ | with_reducible refine But.drewN ?_ _ | with_reducible refine But.setCell ?_ (.inl (by simp)) _)))
      (first
        | (go_at_call 60; refine (address_c bd bc op a b i c s _ ?_).mono ?_; (refine H1.out.keep (k := []) ?_ (by simp); repeat (first | with_reducible exact But.refl _ _ | with_reducible refine But.drew ?_ | with_reducible refine But.alloc ?_ _ | with_reducible refine But.drewN ?_ _ | with_reducible refine But.setCell ?_ (.inl (by simp)) _)); rintro e w3 ⟨rfl, k3, rfl⟩)
        | (go_at_call 38; refine (findWord_c bc bm bp n xs bt l m s _ true _ ?_ hm (adr_bd c b i).1 (adr_bd c b i).2).mono ?_; (refine HC1.out.keep0 ?_; repeat (first | with_reducible exact But.refl _ _ | with_reducible refine But.drew ?_ | with_reducible refine But.alloc ?_ _ | with_reducible refine But.drewN ?_ _ | with_reducible refine But.setCell ?_ (.inl (by simp)) _)); rintro e w4 ⟨m', rfl, hm', hC4, k4⟩; have hB4 : But [bt] w1 w4 := by
            refine But.trans (But.any ?_ _) k4
            repeat (first | with_reducible exact But.refl _ _ | with_reducible refine But.drew ?_ | with_reducible refine But.alloc ?_ _ | with_reducible refine But.drewN ?_ _ | with_reducible refine But.setCell ?_ (.inl (by simp)) _)
           have hS4 : w4.cell? ⟨bd, 0, none⟩ = some (.pointer (some ⟨bc, 0, none⟩)) ∧ w4.cell? ⟨bd, 22, none⟩ = some (.int .i64 s) := two_but S1 hB4 (by simpa using hbt)
           have e0 := fun (h : w1.heap.size < _) (o : Nat) => k4.cell (p := ⟨w1.heap.size, o, none⟩) h hn0
           have e1 := fun (h : w1.heap.size + 1 < _) (o : Nat) => k4.cell (p := ⟨w1.heap.size + 1, o, none⟩) h hn1
           have e2 := fun (h : w1.heap.size < _) (o : Nat) => k4.frozen (p := ⟨w1.heap.size, o, none⟩) h hn0
           have e3 := fun (h : w1.heap.size + 1 < _) (o : Nat) => k4.frozen (p := ⟨w1.heap.size + 1, o, none⟩) h hn1
           have e4 := k4.size
           simp at e0 e1 e2 e3 e4
           try (have e5 : w1.heap.size < w4.heap.size := by omega)
           try (have e6 : w1.heap.size + 1 < w4.heap.size := by omega)
           clear e4
           rw [HF.out]; simp only [Fd.ans, Tr.vs]))
    all_goals (go_wp2_with fail; go_meet)
    all_goals (have hz4 := hB4.size)
    all_goals exact ⟨_, _, rfl, rfl, LdR.of HC1.out.lt hC4 hB4 hm' (by repeat (first | with_reducible exact But.refl _ _ | with_reducible refine But.drew ?_ | with_reducible refine But.alloc ?_ _ | with_reducible refine But.drewN ?_ _ | with_reducible refine But.setCell ?_ (.inl (by simp)) _)) (by omega) (by omega) (by first | (go_simp; done) | (go_simp; refine setCell_some ?_; go_simp)) (by first | (go_simp; done) | (go_simp; refine setCell_some ?_; go_simp)) (by first | (go_simp; done) | (go_simp; refine setCell_some ?_; go_simp)) (by first | (go_simp; done) | (go_simp; refine setCell_some ?_; go_simp)) (by first | (go_simp; done) | (go_simp; refine setCell_some ?_; go_simp)) (by first | (go_simp; done) | (go_simp; refine setCell_some ?_; go_simp))⟩
    -- ⟪/slow⟫
  case rest =>
    obtain ⟨b3, b4, rfl, rfl, hR⟩ := hcut
    obtain ⟨f0, f1, c0, c1, c2, c3, n3, n4, ⟨m', hm', hC'⟩, hB'⟩ := hR
    have HC : Hid (CpuAt wc bc bm bp n xs bt l m') := hC'
    have HB' : Hid (But [bt] w1 wc) := hB'
    have HD : Hid (DoAt wc bd bc op a b i c s) := H1.out.keep hB' (by simpa using hbt)
    have hgt : ¬ bc = g ∧ ¬ bm = g ∧ ¬ bp = g ∧ ¬ bt = g := by have := HL0.out; have := HGS.out; omega
    have HT' : Hid (wc.there g 0 4) := there_keep HT.out hB' (by simp; omega)
    have HZ : Hid (w1.heap.size ≤ wc.heap.size) := hB'.size
    have hg1 : g < w1.heap.size := lt_of_there HT.out (by omega)
    have hbb : ¬ b4 = bd := by omega
    have hb3 : ¬ b3 = bd := by omega
    have hbp : ¬ bd = bp ∧ ¬ b3 = bp ∧ ¬ b4 = bp ∧ ¬ g = bp := by have := HAP.out.p; have := HC1.out.lt; omega
    clear hB' hC' S0 S1 HT
    by_cases ht : t1 = 0
    · subst ht
      have S3 : wc.drew.cell? ⟨bd, 0, none⟩ = some (.pointer (some ⟨bc, 0, none⟩)) ∧ wc.drew.cell? ⟨bd, 2, none⟩ = some (.int .i64 a) ∧ wc.drew.cell? ⟨bd, 5 + a, none⟩ = some (.int .u32 (c.getD a 0)) ∧ wc.drew.cell? ⟨b3, 0, none⟩ = some (.int .i64 f) ∧ wc.drew.cell? ⟨b3, 1, none⟩ = some (.int .i64 q) := ⟨HD.out.cpu, HD.out.a2, (HD.out.reg a (by have := HD.out.ha; omega)).1, f0, f1⟩
      have ha16 : (a : Int) < 16 := by have := HD.out.ha; omega
      have ha0 : (0 : Int) ≤ (a : Int) := by omega
      obtain ⟨hv0, hv1⟩ := getW_bd (n := n) HC.out.u f q
      obtain ⟨hy0, hy1⟩ := HD.out.u a
      go_wp2
      have hbd := byt_bd (getW n xs f q) (adr c b i % 4)
      go_region_held3 (fun w' => w'.cell? ⟨bd, 0, none⟩ = some (.pointer (some ⟨bc, 0, none⟩)) ∧ w'.cell? ⟨bd, 2, none⟩ = some (.int .i64 a) ∧ w'.cell? ⟨bd, 5 + a, none⟩ = some (.int .u32 (c.getD a 0)) ∧ w'.cell? ⟨b3, 0, none⟩ = some (.int .i64 f) ∧ w'.cell? ⟨b3, 1, none⟩ = some (.int .i64 q))
        (first
          | with_reducible exact S3
          | with_reducible exact hS6)
        (first
          | (go_at_call 61; refine (put_c bc bm bp n xs bt l m' f q (c.getD a 0) _ (HC.out.keep0 (But.refl _ _).drew) hy0 hy1).mono ?_; rintro e w6 ⟨rfl, hC6, k6⟩; have hS6 := five_but S3 k6 (by simpa using hbp.1) (by simpa using hbp.2.1)))
      have HC6 : Hid (CpuAt w6 bc bm bp n (putW n xs f q (c.getD a 0)) bt l m') := hC6
      have HK6 : Hid (But [bp] wc w6) := ((But.refl [bp] wc).drew).trans k6
      have HS : Hid (DoAt w6 bd bc op a b i c s) := HD.out.keep HK6.out (by simpa using hbp.1)
      have d0 := cell_keep c0 HK6.out (by simp; omega)
      have d1 := cell_keep c1 HK6.out (by simp; omega)
      have d2 := cell_keep c2 HK6.out (by simp; omega)
      have d3 := cell_keep c3 HK6.out (by simp; omega)
      have HT6 : Hid (w6.there g 0 4) := there_keep HT'.out HK6.out (by simp; omega)
      have HB6 : Hid (But [bd, bt, bp] w w6) := ((HB.out.any _).trans (HB'.out.wider (by simp))).trans (HK6.out.wider (by simp))
      clear c0 c1 c2 c3 f0 f1
      go_wp2_with (first
        | (refine wpList_store_mid rfl 37 _ _ rfl g 0 #[.int .i64 0, .int .i64 t2, .bool t3, .int .i64 t4] rfl rfl ?ht Try.sizeTrap (Tr.vs_all ⟨0, t2, t3, t4⟩) ?_; case ht => exact HT6.out))
      refine bodyPost_ret (results_range1 rfl _ _ g 0 [.int .i64 0, .int .i64 t2, .bool t3, .int .i64 t4] _ rfl (World.rangeAt_setCells_same _ _ _ _ HT6.out) Try.underlying37 rfl Try.sizeTrap) rfl ?_
      have hK : But [g] w6 (w6.setCells g 0 [.int .i64 0, .int .i64 t2, .bool t3, .int .i64 t4]) := (But.refl _ _).setCells (by simp) _ _
      refine ⟨m', rfl, hm', by rw [selC_pos]; exact HS.out.keep hK (by simp; omega), by rw [selC_pos]; exact HC6.out.keep hK (by simpa using hgt.1) (by simpa using hgt.2.1) (by simpa using hgt.2.2.1) (by simpa using hgt.2.2.2), ?_⟩
      exact but_fresh HB6.out hK (by have := HGS.out; simp; omega)
    · have HSN : Hid (selC t1 (c) c = c) := selC_neg ht _ _
      have HSM : Hid (selC t1 (putW n xs f q (c.getD a 0)) xs = xs) := selC_neg ht _ _
      have htb : (t1 == 0) = false := by simp [ht]
      go_wp2_with (first
        | (refine wpList_store_mid rfl 37 _ _ rfl g 0 #[.int .i64 t1, .int .i64 t2, .bool t3, .int .i64 t4] rfl rfl ?ht Try.sizeTrap (Tr.vs_all ⟨t1, t2, t3, t4⟩) ?_; case ht => exact HT'.out))
      refine bodyPost_ret (results_range1 rfl _ _ g 0 [.int .i64 t1, .int .i64 t2, .bool t3, .int .i64 t4] _ rfl (World.rangeAt_setCells_same _ _ _ _ HT'.out) Try.underlying37 rfl Try.sizeTrap) rfl ?_
      have hK : But [g] wc (wc.setCells g 0 [.int .i64 t1, .int .i64 t2, .bool t3, .int .i64 t4]) := (But.refl _ _).setCells (by simp) _ _
      refine ⟨m', rfl, hm', by rw [HSN.out]; exact HD.out.keep hK (by simp; omega), by rw [HSM.out]; exact HC.out.keep hK (by simpa using hgt.1) (by simpa using hgt.2.1) (by simpa using hgt.2.2.1) (by simpa using hgt.2.2.2), ?_⟩
      exact but_fresh ((HB.out.any _).trans (HB'.out.wider (by simp))) hK (by have := HGS.out; simp; omega)
end Go.Proofs.Ytjlcncdhlcpklaa.Cp
