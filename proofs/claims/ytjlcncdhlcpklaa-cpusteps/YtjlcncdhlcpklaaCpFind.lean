/-
  Layer 6 (cpu): contracts of findWord, get, put, fetch, over the translated program.
-/
import Derived.Test.YtjlcncdhlcpklaaCpBase
namespace Go.Proofs.Ytjlcncdhlcpklaa.Cp
open Go.ChangeShapes Go.WideShapes Go.ChangeAt Go.RowKit
open Fr (MemAt Blk hasW hasF) 
open Tl (En TlbAt Ens getE misE ansE en0)
set_option linter.unusedVariables false
set_option maxRecDepth 20000

theorem two_range (w : World) (cs ds : List Value) (t t' : TypeId) :
    ((w.alloc (.cells cs.toArray t)).alloc (.cells ds.toArray t')).rangeAt w.heap.size 0 cs ∧ ((w.alloc (.cells cs.toArray t)).alloc (.cells ds.toArray t')).rangeAt (w.heap.size + 1) 0 ds := by
  refine ⟨range_keep (new_range w cs t) ((But.refl [] _).alloc _) (by simp), ?_⟩
  have h := new_range (w.alloc (.cells cs.toArray t)) ds t'
  rwa [show (w.alloc (.cells cs.toArray t)).heap.size = w.heap.size + 1 by simp] at h
set_option maxHeartbeats 1000000 in
theorem findWord_c (bc bm bp n : Nat) (xs : List Int) (bt : Nat) (l : List En) (m : Nat) (s addr : Int) (wr : Bool) (w : World) (h : CpuAt w bc bm bp n xs bt l m) (hm : m < 4611686018427387904) (h0 : 0 ≤ addr) (h1 : addr ≤ 4294967295) :
    Calls Try.prog 38 #[.pointer (some ⟨bc, 0, none⟩), .int .i64 s, .int .u32 addr, .bool wr] w fun e w' => ∃ m', e = .returned (fndW l s addr wr).ans ∧ m' ≤ m + 1 ∧ CpuAt w' bc bm bp n xs bt l m' ∧ But [bt] w w' := by
  have H : Hid (CpuAt w bc bm bp n xs bt l m) := h
  have HL : Hid (bc < w.heap.size ∧ bm < w.heap.size ∧ bp < w.heap.size ∧ bt < w.heap.size) := h.lt
  clear h
  obtain ⟨g, hg⟩ : ∃ g, g = w.heap.size := ⟨_, rfl⟩
  obtain ⟨hT1, hT2⟩ := two_new w #[.int .i64 0, .int .i64 0] #[.int .i64 0, .int .i64 0, .bool false, .int .i64 0] 114 37 2 4 rfl rfl
  have HT1 : Hid (World.there _ _ _ _) := hT1
  have HT2 : Hid (World.there _ _ _ _) := hT2
  have HGS : Hid (w.heap.size ≤ g) := by show _ ≤ g; omega
  clear hT1 hT2
  have hEnd : ∀ (w1 : World) (m' : Nat) (cs ds : List Value), CpuAt w1 bc bm bp n xs bt l m' → But [bt] w w1 → w1.there g 0 2 → w1.there (g + 1) 0 4 → cs.length = 2 → ds.length = 4 →
      ((w1.setCells g 0 cs).setCells (g + 1) 0 ds).rangeAt g 0 cs ∧ ((w1.setCells g 0 cs).setCells (g + 1) 0 ds).rangeAt (g + 1) 0 ds ∧ CpuAt ((w1.setCells g 0 cs).setCells (g + 1) 0 ds) bc bm bp n xs bt l m' ∧ But [bt] w ((w1.setCells g 0 cs).setCells (g + 1) 0 ds) := by
    intro w1 m' cs ds hC hB hT1 hT2 hcs hds
    obtain ⟨q1, q2⟩ := two_laid w1 g (g + 1) cs ds (by rw [hcs]; exact hT1) (by rw [hds]; exact hT2) (by omega)
    have hb2 : But [g, g + 1] w1 ((w1.setCells g 0 cs).setCells (g + 1) 0 ds) := ((But.refl [g, g + 1] w1).setCells (by simp) _ _).setCells (by simp) _ _
    have hl := HL.out
    have hg0 := HGS.out
    exact ⟨q1, q2, hC.keep hb2 (by simp; omega) (by simp; omega) (by simp; omega) (by simp; omega), but_fresh hB hb2 (by simp; omega)⟩
  have HE : Hid (∀ (w1 : World) (m' : Nat) (cs ds : List Value), CpuAt w1 bc bm bp n xs bt l m' → But [bt] w w1 → w1.there g 0 2 → w1.there (g + 1) 0 4 → cs.length = 2 → ds.length = 4 →
      ((w1.setCells g 0 cs).setCells (g + 1) 0 ds).rangeAt g 0 cs ∧ ((w1.setCells g 0 cs).setCells (g + 1) 0 ds).rangeAt (g + 1) 0 ds ∧ CpuAt ((w1.setCells g 0 cs).setCells (g + 1) 0 ds) bc bm bp n xs bt l m' ∧ But [bt] w ((w1.setCells g 0 cs).setCells (g + 1) 0 ds)) := hEnd
  clear hEnd
  have HW : Hid (CpuAt ((w.alloc (.cells #[.int .i64 0, .int .i64 0] 114)).alloc (.cells #[.int .i64 0, .int .i64 0, .bool false, .int .i64 0] 37)) bc bm bp n xs bt l m) := H.out.keep0 (((But.refl [] w).alloc _).alloc _)
  have HB0 : Hid (But [bt] w ((w.alloc (.cells #[.int .i64 0, .int .i64 0] 114)).alloc (.cells #[.int .i64 0, .int .i64 0, .bool false, .int .i64 0] 37))) := ((But.refl _ w).alloc _).alloc _
  go_enter Try.func38, Try.ntmps38
  by_cases hal : addr % 4 = 0
  · have HF : Hid (fndW l s addr wr = fnd l s addr wr) := by show _ = _; simp [fndW, hal]
    go_wp2_with fail
    refine (find_c bc bm bp n xs bt l m s addr wr _ HW.out hm h0 h1).mono ?_
    rintro e w1 ⟨m', rfl, hm', hC1, k1⟩
    rw [← hg] at HT1 HT2 ⊢
    have hbt := HL.out.2.2.2
    have HT1' : Hid (w1.there g 0 2) := there_keep HT1.out k1 (by simp; omega)
    have HT2' : Hid (w1.there (g + 1) 0 4) := there_keep HT2.out k1 (by simp; omega)
    have HT3' : Hid (∀ cs : List Value, (w1.setCells g 0 cs).there (g + 1) 0 4) := fun cs => World.there_setCells HT2'.out g 0 cs
    have HC : Hid (CpuAt w1 bc bm bp n xs bt l m') := hC1
    have HB : Hid (But [bt] w w1) := HB0.out.trans k1
    rcases hr : fnd l s addr wr with ⟨⟨t1, t2, t3, t4⟩, f, a⟩
    have HR : Hid (fnd l s addr wr = ⟨⟨t1, t2, t3, t4⟩, f, a⟩) := hr
    clear hC1 k1 hg hbt HT1 HT2 H HW HB0 hr
    simp only [Fd.ans, Tr.vs]
    go_wp2_with (first
      | (refine wpList_store_mid rfl 114 _ _ rfl g 0 #[.int .i64 f, .int .i64 a] rfl rfl ?ht Try.sizePlace (pl_all _ _) ?_; case ht => exact HT1'.out)
      | (refine wpList_store_mid rfl 37 _ _ rfl (g + 1) 0 #[.int .i64 t1, .int .i64 t2, .bool t3, .int .i64 t4] rfl rfl ?ht Try.sizeTrap (Tr.vs_all ⟨t1, t2, t3, t4⟩) ?_; case ht => exact HT3'.out _))
    obtain ⟨q1, q2, q3, q4⟩ := HE.out w1 m' [.int .i64 f, .int .i64 a] [.int .i64 t1, .int .i64 t2, .bool t3, .int .i64 t4] HC.out HB.out HT1'.out HT2'.out rfl rfl
    refine bodyPost_ret (results_two rfl _ _ g 0 (g + 1) 0 _ _ _ _ rfl q1 Try.underlying114 rfl Try.sizePlace rfl q2 Try.underlying37 rfl Try.sizeTrap) rfl ?_
    exact ⟨m', by rw [HF.out, HR.out]; rfl, hm', q3, q4⟩
  · have HF : Hid (fndW l s addr wr = ⟨⟨5, 0, false, 0⟩, 0, 0⟩) := by show _ = _; simp [fndW, hal]
    have hne : (addr % 4 != 0) = true := by simp [hal]
    go_wp2
    obtain ⟨q1, q2⟩ := two_range w [.int .i64 0, .int .i64 0] [.int .i64 5, .int .i64 0, .bool false, .int .i64 0] 114 37
    refine bodyPost_ret (results_two rfl _ _ w.heap.size 0 (w.heap.size + 1) 0 _ _ _ _ rfl q1 Try.underlying114 rfl Try.sizePlace rfl q2 Try.underlying37 rfl Try.sizeTrap) rfl ?_
    exact ⟨m, by rw [HF.out]; rfl, Nat.le_succ _, H.out.keep0 (((But.refl [] w).alloc _).alloc _), ((But.refl _ w).alloc _).alloc _⟩

theorem quiet_same {P : Program} {f : FuncId} {args : Array Value} {w : World} {n : Nat} {v : Value}
    (h : Calls P f args (w.drewN n) fun e w' => e = .returned v ∧ w.drewN n = w') : Calls P f args (w.drewN n) fun e w'' => e = .returned v ∧ ∃ m, w'' = w.drewN m :=
  h.mono fun _ _ ⟨he, hm⟩ => ⟨he, n, hm.symm⟩
theorem fget_no (bm bp n : Nat) (f a : Int) (xs : List Int) (w : World) (h : MemAt w bm bp n xs) (hn : hasW n f a = false) :
    Calls Try.prog 31 #[.pointer (some ⟨bm, 0, none⟩), .int .i64 f, .int .i64 a] w fun e w' => e = .returned (.tuple #[.int .u32 0, .bool false]) ∧ w = w' := by
  have H : Hid (MemAt w bm bp n xs) := h
  have HW : Hid (hasW n f a = false) := hn
  clear h hn
  go_enter Try.func31, Try.ntmps31
  go_wp2_with fail
  refine (Fr.hasWord_c bm bp n xs _ _ _ H.out).mono ?_
  rintro e w1 ⟨rfl, rfl⟩
  rw [HW.out]
  go_wp2
  go_ret2
  exact ⟨rfl, rfl⟩
theorem hasW_nat {n : Nat} {f a : Int} (h : hasW n f a = true) : ∃ f' a' : Nat, f = f' ∧ a = a' ∧ f' < n ∧ a' < 16 := by
  simp only [hasW, decide_eq_true_eq] at h
  exact ⟨f.toNat, a.toNat, by omega, by omega, by omega, by omega⟩
theorem fget_c (bm bp n : Nat) (f a : Int) (xs : List Int) (w : World) (h : MemAt w bm bp n xs) :
    Calls Try.prog 31 #[.pointer (some ⟨bm, 0, none⟩), .int .i64 f, .int .i64 a] w fun e w' => e = .returned (.tuple #[.int .u32 (getW n xs f a), .bool (hasW n f a)]) ∧ w = w' := by
  cases hw : hasW n f a with
  | false =>
    rw [show getW n xs f a = 0 by simp [getW, hw]]
    exact fget_no bm bp n f a xs w h hw
  | true =>
    obtain ⟨f', a', rfl, rfl, hf, ha⟩ := hasW_nat hw
    rw [show getW n xs (f' : Int) (a' : Int) = xs.getD (f' * 16 + a') 0 by simp [getW, hw]]
    exact Fr.get_c bm bp n f' a' xs w h hf ha
theorem fput_c (bm bp n : Nat) (f a v : Int) (xs : List Int) (w : World) (h : MemAt w bm bp n xs) :
    Calls Try.prog 18 #[.pointer (some ⟨bm, 0, none⟩), .int .i64 f, .int .i64 a, .int .u32 v] w fun e w' => e = .returned (.bool (hasW n f a)) ∧ MemAt w' bm bp n (putW n xs f a v) ∧ But [bp] w w' := by
  cases hw : hasW n f a with
  | false =>
    rw [show putW n xs f a v = xs by simp [putW, hw]]
    refine (Fr.put_no bm bp n f a v xs w h hw).mono ?_
    rintro e w1 ⟨rfl, rfl⟩
    exact ⟨rfl, h, But.refl _ _⟩
  | true =>
    obtain ⟨f', a', rfl, rfl, hf, ha⟩ := hasW_nat hw
    rw [show putW n xs (f' : Int) (a' : Int) v = xs.set (f' * 16 + a') v by simp [putW, hw]]
    exact Fr.put_c bm bp n f' a' v xs w h hf ha

theorem get_c (bc bm bp n : Nat) (xs : List Int) (bt : Nat) (l : List En) (m : Nat) (f a : Int) (w : World) (h : CpuAt w bc bm bp n xs bt l m) :
    Calls Try.prog 40 #[.pointer (some ⟨bc, 0, none⟩), .agg #[.int .i64 f, .int .i64 a]] w fun e w' => e = .returned (.int .u32 (getW n xs f a)) ∧ But [] w w' := by
  have H : Hid (CpuAt w bc bm bp n xs bt l m) := h
  have hc0 := h.c0
  have hbc := h.lt.1
  clear h
  obtain ⟨g, hg⟩ : ∃ g, g = w.heap.size := ⟨_, rfl⟩
  go_enter Try.func40, Try.ntmps40
  go_wp2
  have hR := new_range w [.int .i64 f, .int .i64 a] 114
  have HB : Hid (But [] w (w.alloc (.cells #[.int .i64 f, .int .i64 a] 114))) := (But.refl [] w).alloc _
  rw [← hg] at hR ⊢
  generalize w.alloc (.cells #[.int .i64 f, .int .i64 a] 114) = w1 at HB hR ⊢
  have hx0 : w1.cell? ⟨g, 0, none⟩ = some (.int .i64 f) := hR 0 _ rfl
  have hx1 : w1.cell? ⟨g, 1, none⟩ = some (.int .i64 a) := hR 1 _ rfl
  have hx2 : w1.cell? ⟨bc, 0, none⟩ = some (.pointer (some ⟨bm, 0, none⟩)) := cell_keep hc0 HB.out (by simp)
  have HQ : Hid (∀ k, MemAt (w1.drewN k) bm bp n xs) := fun k => H.out.mem.keep (HB.out.drewN k) (by simp) (by simp)
  clear hR hg hc0 hbc
  go_quiet (first | (go_at_call 31; refine quiet_same (fget_c bm bp n f a xs _ (HQ.out _))))
  go_wp2
  go_ret
  exact ⟨rfl, HB.out.drewN _⟩

theorem put_c (bc bm bp n : Nat) (xs : List Int) (bt : Nat) (l : List En) (m : Nat) (f a v : Int) (w : World) (h : CpuAt w bc bm bp n xs bt l m) (h0 : 0 ≤ v) (h1 : v ≤ 4294967295) :
    Calls Try.prog 61 #[.pointer (some ⟨bc, 0, none⟩), .agg #[.int .i64 f, .int .i64 a], .int .u32 v] w fun e w' => e = .returned (.tuple #[]) ∧ CpuAt w' bc bm bp n (putW n xs f a v) bt l m ∧ But [bp] w w' := by
  have H : Hid (CpuAt w bc bm bp n xs bt l m) := h
  have hc0 := h.c0
  have hbc := h.lt.1
  clear h
  obtain ⟨g, hg⟩ : ∃ g, g = w.heap.size := ⟨_, rfl⟩
  go_enter Try.func61, Try.ntmps61
  go_wp2
  have hR := new_range w [.int .i64 f, .int .i64 a] 114
  have HB : Hid (But [] w (w.alloc (.cells #[.int .i64 f, .int .i64 a] 114))) := (But.refl [] w).alloc _
  rw [← hg] at hR ⊢
  generalize w.alloc (.cells #[.int .i64 f, .int .i64 a] 114) = w0 at HB hR ⊢
  have hx0 : w0.drew.cell? ⟨g, 0, none⟩ = some (.int .i64 f) := hR 0 _ rfl
  have hx1 : w0.drew.cell? ⟨g, 1, none⟩ = some (.int .i64 a) := hR 1 _ rfl
  have hx2 : w0.drew.cell? ⟨bc, 0, none⟩ = some (.pointer (some ⟨bm, 0, none⟩)) := cell_keep hc0 HB.out.drew (by simp)
  have H1 : Hid (CpuAt w0.drew bc bm bp n xs bt l m) := H.out.keep0 HB.out.drew
  have HB1 : Hid (But [] w w0.drew) := HB.out.drew
  clear hR hg hc0 hbc HB
  refine wp_region_still_tail 9 (by kernel_rfl) (by kernel_rfl) ?_
  simp only [List.take_succ_cons, List.take_zero, List.drop_succ_cons, List.drop_zero]
  change wpStill _ _ w0.drew _ _ _
  repeat still_step
  refine wpStill_nil ?_
  change wpList _ _ _ _ _ w0.drew
  generalize w0.drew = w1 at hx0 hx1 hx2 H1 HB1 ⊢
  go_wp2_with fail
  refine (fput_c bm bp n f a v xs _ H1.out.mem).mono ?_
  rintro e w2 ⟨rfl, hm2, k2⟩
  have H2 : Hid (CpuAt w2 bc bm bp n (putW n xs f a v) bt l m) := H1.out.memed hm2 (H1.out.u.putW f a h0 h1) k2
  have HB2 : Hid (But [bp] w w2) := (HB1.out.any _).trans k2
  clear hm2 k2
  go_wp2
  go_end0
  exact ⟨rfl, H2.out, HB2.out⟩
end Go.Proofs.Ytjlcncdhlcpklaa.Cp
