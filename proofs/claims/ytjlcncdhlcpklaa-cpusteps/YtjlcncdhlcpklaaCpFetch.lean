/-
  Layer 6 (cpu): the contract of fetch, over the translated program.
-/
import Derived.Test.YtjlcncdhlcpklaaCpLdBase
namespace Go.Proofs.Ytjlcncdhlcpklaa.Cp
open Go.ChangeShapes Go.WideShapes Go.ChangeAt Go.RowKit
open Fr (MemAt Blk hasW hasF) 
open Tl (En TlbAt Ens getE misE ansE en0)
set_option linter.unusedVariables false
set_option maxRecDepth 20000

theorem Try.sizeInstr : (Try.prog.info? 67).map (·.size) = some 4 := by kernel_rfl
/-- The four numbers of an instruction, as cells. -/
def ivs (o a b i : Int) : List Value := [.int .i64 o, .int .i64 a, .int .i64 b, .int .i64 i]
theorem ivs_all (o a b i : Int) : (#[Value.int .i64 o, .int .i64 a, .int .i64 b, .int .i64 i] : Array Value).all (·.oneCell') = true := all_oneCell_toArray (cs := ivs o a b i) (by
  intro v hv
  simp only [ivs, List.mem_cons, List.not_mem_nil, or_false] at hv
  rcases hv with rfl | rfl | rfl | rfl <;> rfl)
theorem there4 {w : World} {b : Nat} (h : w.there b 0 4) : (∃ v, w.cell? ⟨b, 0, none⟩ = some v) ∧ (∃ v, w.cell? ⟨b, 1, none⟩ = some v) ∧ (∃ v, w.cell? ⟨b, 2, none⟩ = some v) ∧ (∃ v, w.cell? ⟨b, 3, none⟩ = some v) ∧
    w.frozen? ⟨b, 0, none⟩ = false ∧ w.frozen? ⟨b, 1, none⟩ = false ∧ w.frozen? ⟨b, 2, none⟩ = false ∧ w.frozen? ⟨b, 3, none⟩ = false := by
  have h0 := h 0 (by omega)
  have h1 := h 1 (by omega)
  have h2 := h 2 (by omega)
  have h3 := h 3 (by omega)
  simp only [Nat.zero_add] at h0 h1 h2 h3
  exact ⟨Option.isSome_iff_exists.1 h0.1, Option.isSome_iff_exists.1 h1.1, Option.isSome_iff_exists.1 h2.1, Option.isSome_iff_exists.1 h3.1, h0.2, h1.2, h2.2, h3.2⟩
theorem pair_but {k : List Nat} {w w' : World} {b : Nat} {v0 v1 : Value} (h : w.cell? ⟨b, 0, none⟩ = some v0 ∧ w.cell? ⟨b, 1, none⟩ = some v1) (hk : But k w w') (hn : b ∉ k) :
    w'.cell? ⟨b, 0, none⟩ = some v0 ∧ w'.cell? ⟨b, 1, none⟩ = some v1 := ⟨cell_keep h.1 hk hn, cell_keep h.2 hk hn⟩
/-- An instruction was decoded, into a new box; the machine is as it was but for its table. -/
structure FtR (w3 : World) (bc bm bp n : Nat) (xs : List Int) (bt : Nat) (l : List En) (m : Nat) (o a b i : Int) (b10 : Nat) (wx : World) : Prop where
  i0 : wx.cell? ⟨b10, 0, none⟩ = some (.int .i64 o)
  i1 : wx.cell? ⟨b10, 1, none⟩ = some (.int .i64 a)
  i2 : wx.cell? ⟨b10, 2, none⟩ = some (.int .i64 b)
  i3 : wx.cell? ⟨b10, 3, none⟩ = some (.int .i64 i)
  mach : CpuAt wx bc bm bp n xs bt l m
  but : But [bc] w3 wx
theorem FtR.of {w3 w4 w5 wx : World} {bc bm bp n : Nat} {xs : List Int} {bt : Nat} {l : List En} {m : Nat} {o a b i : Int} {b10 : Nat}
    (hl : bc < w3.heap.size ∧ bm < w3.heap.size ∧ bp < w3.heap.size ∧ bt < w3.heap.size) (hC5 : CpuAt w5 bc bm bp n xs bt l m) (hB5 : But [bc] w3 w5) (hz : w3.heap.size ≤ w4.heap.size) (hk : But [w3.heap.size, w4.heap.size] w5 wx)
    (h0 : wx.cell? ⟨b10, 0, none⟩ = some (.int .i64 o)) (h1 : wx.cell? ⟨b10, 1, none⟩ = some (.int .i64 a)) (h2 : wx.cell? ⟨b10, 2, none⟩ = some (.int .i64 b)) (h3 : wx.cell? ⟨b10, 3, none⟩ = some (.int .i64 i)) :
    FtR w3 bc bm bp n xs bt l m o a b i b10 wx :=
  ⟨h0, h1, h2, h3, hC5.keep hk (by simp; omega) (by simp; omega) (by simp; omega) (by simp; omega), but_fresh hB5 hk (by simp; omega)⟩
/-- What is fetched: an instruction (by its word), or a trap. -/
structure Ft where
  t : Tr
  o : Int
  a : Int
  b : Int
  i : Int
def ftc (n : Nat) (xs : List Int) (l : List En) (s addr : Int) : Ft :=
  let r := fndW l s addr false
  if r.t.cause = 0 then (if vldD (getW n xs r.f r.a) = true then ⟨tr0, doR (getW n xs r.f r.a), daR (getW n xs r.f r.a), dbR (getW n xs r.f r.a), diR (getW n xs r.f r.a)⟩ else ⟨⟨3, 0, false, 0⟩, 0, 0, 0, 0⟩) else ⟨r.t, 0, 0, 0, 0⟩
def Ft.ans (r : Ft) : Value := .tuple #[.agg #[.int .i64 r.o, .int .i64 r.a, .int .i64 r.b, .int .i64 r.i], .agg r.t.vs.toArray]

set_option maxHeartbeats 4000000 in
theorem fetch_c (bc bm bp n : Nat) (xs : List Int) (bt : Nat) (l : List En) (m : Nat) (s addr : Int) (w : World) (hC : CpuAt w bc bm bp n xs bt l m) (hm : m < 4611686018427387904) (h0 : 0 ≤ addr) (h1 : addr ≤ 4294967295) :
    Calls Try.prog 22 #[.pointer (some ⟨bc, 0, none⟩), .int .i64 s, .int .u32 addr] w fun e w' => ∃ m', e = .returned (ftc n xs l s addr).ans ∧ m' ≤ m + 1 ∧ CpuAt w' bc bm bp n xs bt l m' ∧ But [bt, bc] w w' := by
  rcases hF : fndW l s addr false with ⟨⟨t1, t2, t3, t4⟩, f, q⟩
  have HF : Hid (fndW l s addr false = ⟨⟨t1, t2, t3, t4⟩, f, q⟩) := hF
  obtain ⟨g, hg⟩ : ∃ g, g = w.heap.size := ⟨_, rfl⟩
  obtain ⟨hT1, hT2⟩ := two_new w #[.int .i64 0, .int .i64 0, .int .i64 0, .int .i64 0] #[.int .i64 0, .int .i64 0, .bool false, .int .i64 0] 67 37 4 4 rfl rfl
  have HGS : Hid (w.heap.size ≤ g) := by show _ ≤ g; omega
  have HL0 : Hid (bc < w.heap.size ∧ bm < w.heap.size ∧ bp < w.heap.size ∧ bt < w.heap.size) := hC.lt
  have hgt : (¬ bc = g ∧ ¬ bm = g ∧ ¬ bp = g ∧ ¬ bt = g) ∧ (¬ bc = g + 1 ∧ ¬ bm = g + 1 ∧ ¬ bp = g + 1 ∧ ¬ bt = g + 1) := by have := hC.lt; omega
  have hB0 : But [] w ((w.alloc (.cells #[.int .i64 0, .int .i64 0, .int .i64 0, .int .i64 0] 67)).alloc (.cells #[.int .i64 0, .int .i64 0, .bool false, .int .i64 0] 37)) := ((But.refl [] w).alloc _).alloc _
  go_enter Try.func22, Try.ntmps22
  go_wp2_with fail
  rw [← hg] at hT1 hT2 ⊢
  generalize (w.alloc (.cells #[.int .i64 0, .int .i64 0, .int .i64 0, .int .i64 0] 67)).alloc (.cells #[.int .i64 0, .int .i64 0, .bool false, .int .i64 0] 37) = w1 at hT1 hT2 hB0 ⊢
  refine (findWord_c bc bm bp n xs bt l m s addr false _ (hC.keep0 hB0) hm h0 h1).mono ?_
  rintro e w2 ⟨m', rfl, hm', hC2, k2⟩
  rw [HF.out]
  simp only [Fd.ans, Tr.vs]
  have HT1 : Hid (w2.there g 0 4) := there_keep hT1 k2 (by simp; omega)
  have HT2 : Hid (w2.there (g + 1) 0 4) := there_keep hT2 k2 (by simp; omega)
  have HC : Hid (CpuAt w2 bc bm bp n xs bt l m') := hC2
  have HB : Hid (But [bt] w w2) := (hB0.any _).trans k2
  have hg2 : g + 1 < w2.heap.size := lt_of_there HT2.out (by omega)
  have hbl2 : bc < w2.heap.size := hC2.lt.1
  clear hT1 hT2 hB0 hg hC hC2 k2 hF
  -- two boxes more: the place, the trap
  have hEnd : ∀ (w5 wx : World) (cs ds : List Value), CpuAt w5 bc bm bp n xs bt l m' → But [bt, bc] w w5 → w5.there g 0 4 → w5.there (g + 1) 0 4 → cs.length = 4 → ds.length = 4 → wx = (w5.setCells g 0 cs).setCells (g + 1) 0 ds →
      wx.rangeAt g 0 cs ∧ wx.rangeAt (g + 1) 0 ds ∧ CpuAt wx bc bm bp n xs bt l m' ∧ But [bt, bc] w wx := by
    intro w5 wx cs ds h5 hb5 hx1 hx2 hcs hds rfl
    obtain ⟨q1, q2⟩ := two_laid w5 g (g + 1) cs ds (by rw [hcs]; exact hx1) (by rw [hds]; exact hx2) (by omega)
    have hb2 : But [g, g + 1] w5 ((w5.setCells g 0 cs).setCells (g + 1) 0 ds) := ((But.refl [g, g + 1] w5).setCells (by simp) _ _).setCells (by simp) _ _
    have hg0 := HGS.out
    exact ⟨q1, q2, h5.keep hb2 (by simp; omega) (by simp; omega) (by simp; omega) (by simp; omega), but_fresh hb5 hb2 (by simp; omega)⟩
  have HE : Hid (∀ (w5 wx : World) (cs ds : List Value), CpuAt w5 bc bm bp n xs bt l m' → But [bt, bc] w w5 → w5.there g 0 4 → w5.there (g + 1) 0 4 → cs.length = 4 → ds.length = 4 → wx = (w5.setCells g 0 cs).setCells (g + 1) 0 ds →
      wx.rangeAt g 0 cs ∧ wx.rangeAt (g + 1) 0 ds ∧ CpuAt wx bc bm bp n xs bt l m' ∧ But [bt, bc] w wx) := hEnd
  clear hEnd
  obtain ⟨r1, r2⟩ := two_range w2 [.int .i64 f, .int .i64 q] [.int .i64 t1, .int .i64 t2, .bool t3, .int .i64 t4] 114 37
  have K3 : But [] w2 ((w2.alloc (.cells #[.int .i64 f, .int .i64 q] 114)).alloc (.cells #[.int .i64 t1, .int .i64 t2, .bool t3, .int .i64 t4] 37)) := ((But.refl [] w2).alloc _).alloc _
  go_upto_if 21 with fail
  generalize (w2.alloc (.cells #[.int .i64 f, .int .i64 q] 114)).alloc (.cells #[.int .i64 t1, .int .i64 t2, .bool t3, .int .i64 t4] 37) = w3 at r1 r2 K3 ⊢
  obtain ⟨b8, hb8⟩ : ∃ b8, b8 = w2.heap.size := ⟨_, rfl⟩
  have hge : g + 1 < b8 := by omega
  have hcb : bc < b8 := by omega
  rw [← hb8] at r1 r2 ⊢
  have HT1' : Hid (w3.there g 0 4) := there_keep HT1.out K3 (by simp)
  have HT2' : Hid (w3.there (g + 1) 0 4) := there_keep HT2.out K3 (by simp)
  have HC' : Hid (CpuAt w3 bc bm bp n xs bt l m') := HC.out.keep0 K3
  have HB' : Hid (But [bt] w w3) := HB.out.trans (K3.any _)
  have p0 : w3.cell? ⟨b8, 0, none⟩ = some (.int .i64 f) := r1 0 _ rfl
  have p1 : w3.cell? ⟨b8, 1, none⟩ = some (.int .i64 q) := r1 1 _ rfl
  have q0 : w3.cell? ⟨b8 + 1, 0, none⟩ = some (.int .i64 t1) := r2 0 _ rfl
  have q1 : w3.cell? ⟨b8 + 1, 1, none⟩ = some (.int .i64 t2) := r2 1 _ rfl
  have q2 : w3.cell? ⟨b8 + 1, 2, none⟩ = some (.bool t3) := r2 2 _ rfl
  have q3 : w3.cell? ⟨b8 + 1, 3, none⟩ = some (.int .i64 t4) := r2 3 _ rfl
  clear r1 r2 K3 HC HB HT1 HT2 hg2 hbl2 hb8
  by_cases ht : t1 = 0
  · subst ht
    have HR : Hid (ftc n xs l s addr = if vldD (getW n xs f q) = true then ⟨tr0, doR (getW n xs f q), daR (getW n xs f q), dbR (getW n xs f q), diR (getW n xs f q)⟩ else ⟨⟨3, 0, false, 0⟩, 0, 0, 0, 0⟩) := by
      show _ = _
      unfold ftc
      rw [HF.out]
      rfl
    obtain ⟨x, hx⟩ : ∃ x, x = getW n xs f q := ⟨_, rfl⟩
    obtain ⟨hv0, hv1⟩ := getW_bd (n := n) HC'.out.u f q
    rw [← hx] at hv0 hv1 HR
    have HX : Hid (getW n xs f q = x) := hx.symm
    have hb3 : b8 + 1 < w3.heap.size := lt_of_cell q0
    clear hx q0 q1 q2 q3
    go_upto_region 4 with fail
    have S0 : w3.drew.cell? ⟨b8, 0, none⟩ = some (.int .i64 f) ∧ w3.drew.cell? ⟨b8, 1, none⟩ = some (.int .i64 q) := ⟨p0, p1⟩
    have S1 : w3.cell? ⟨b8, 0, none⟩ = some (.int .i64 f) ∧ w3.cell? ⟨b8, 1, none⟩ = some (.int .i64 q) := ⟨p0, p1⟩
    have hn0 : w3.heap.size ∉ [bc] := by have := HC'.out.lt; simp; omega
    have hbcl : Hid (bc < w3.heap.size ∧ bm < w3.heap.size ∧ bp < w3.heap.size ∧ bt < w3.heap.size) := HC'.out.lt
    go_cut [10, 11] (fun s10 s11 wx => ∃ (b10 : Nat), s10 = .pointer (some ⟨b10, 0, none⟩) ∧ s11 = .bool (vldD x) ∧ FtR w3 bc bm bp n xs bt l m' (doR x) (daR x) (dbR x) (diR x) b10 wx)
    case first =>
      -- ⟪slow⟫
      go_region_held3 (fun w' => w'.cell? ⟨b8, 0, none⟩ = some (.int .i64 f) ∧ w'.cell? ⟨b8, 1, none⟩ = some (.int .i64 q))
        (first
          | with_reducible exact S0
          | (refine pair_but (k := [w3.heap.size, w4.heap.size]) hS5 ?_ (by simp; omega); repeat (first | with_reducible exact But.refl _ _ | with_reducible refine But.drew ?_ | with_reducible refine But.alloc ?_ _ | with_reducible refine But.drewN ?_ _ | with_reducible refine But.setCell ?_ (.inl (by simp)) _))
          | (refine pair_but (k := [w3.heap.size, w4.heap.size]) hS4 ?_ (by simp; omega); repeat (first | with_reducible exact But.refl _ _ | with_reducible refine But.drew ?_ | with_reducible refine But.alloc ?_ _ | with_reducible refine But.drewN ?_ _ | with_reducible refine But.setCell ?_ (.inl (by simp)) _))
          | (refine pair_but (k := []) S1 ?_ (by simp); repeat (first | with_reducible exact But.refl _ _ | with_reducible refine But.drew ?_ | with_reducible refine But.alloc ?_ _ | with_reducible refine But.drewN ?_ _ | with_reducible refine But.setCell ?_ (.inl (by simp)) _)))
        (first
          | (go_at_call 40; refine (get_c bc bm bp n xs bt l m' f q _ ?_).mono ?_; (refine HC'.out.keep0 ?_; repeat (first | with_reducible exact But.refl _ _ | with_reducible refine But.drew ?_ | with_reducible refine But.alloc ?_ _ | with_reducible refine But.drewN ?_ _ | with_reducible refine But.setCell ?_ (.inl (by simp)) _)); rintro e w4 ⟨rfl, k4⟩; have hB4 : But [] w3 w4 := by
              refine But.trans ?_ k4
              repeat (first | with_reducible exact But.refl _ _ | with_reducible refine But.drew ?_ | with_reducible refine But.alloc ?_ _ | with_reducible refine But.drewN ?_ _ | with_reducible refine But.setCell ?_ (.inl (by simp)) _)
             have hS4 : w4.cell? ⟨b8, 0, none⟩ = some (.int .i64 f) ∧ w4.cell? ⟨b8, 1, none⟩ = some (.int .i64 q) := pair_but S1 hB4 (by simp)
             have e0 := fun (h : w3.heap.size < _) (o : Nat) => k4.cell (p := ⟨w3.heap.size, o, none⟩) h (by simp)
             have e2 := fun (h : w3.heap.size < _) (o : Nat) => k4.frozen (p := ⟨w3.heap.size, o, none⟩) h (by simp)
             have e4 := k4.size
             have hz4 := hB4.size
             have hn4 : w4.heap.size ∉ [bc] := by have := hbcl.out; simp; omega
             simp at e0 e2 e4
             try (have e5 : w3.heap.size < w4.heap.size := by omega)
             clear e4
             rw [HX.out])
          | (go_at_call 39; refine (decode_c bc 2 x _ ?_ hv0 hv1).mono ?_; (refine (HC'.out.keep0 (But.trans hB4 ?_)).tab; repeat (first | with_reducible exact But.refl _ _ | with_reducible refine But.drew ?_ | with_reducible refine But.alloc ?_ _ | with_reducible refine But.drewN ?_ _ | with_reducible refine But.setCell ?_ (.inl (by simp)) _)); rintro e w5 ⟨rfl, hT5, k5'⟩; have k5 := k5'.toBut; have hC5 : CpuAt w5 bc bm bp n xs bt l m' := (HC'.out.keep0 (But.trans hB4 (by repeat (first | with_reducible exact But.refl _ _ | with_reducible refine But.drew ?_ | with_reducible refine But.alloc ?_ _ | with_reducible refine But.drewN ?_ _ | with_reducible refine But.setCell ?_ (.inl (by simp)) _)))).tabbed hT5 k5'; have hB5 : But [bc] w3 w5 := by
              refine But.trans (But.any (But.trans hB4 ?_) _) k5
              repeat (first | with_reducible exact But.refl _ _ | with_reducible refine But.drew ?_ | with_reducible refine But.alloc ?_ _ | with_reducible refine But.drewN ?_ _ | with_reducible refine But.setCell ?_ (.inl (by simp)) _)
             have hS5 : w5.cell? ⟨b8, 0, none⟩ = some (.int .i64 f) ∧ w5.cell? ⟨b8, 1, none⟩ = some (.int .i64 q) := pair_but S1 hB5 (by simp; omega)
             have g0 := fun (h : w3.heap.size < _) (o : Nat) => k5.cell (p := ⟨w3.heap.size, o, none⟩) h hn0
             have g2 := fun (h : w3.heap.size < _) (o : Nat) => k5.frozen (p := ⟨w3.heap.size, o, none⟩) h hn0
             have g1 := fun (h : w4.heap.size < _) (o : Nat) => k5.cell (p := ⟨w4.heap.size, o, none⟩) h hn4
             have g3 := fun (h : w4.heap.size < _) (o : Nat) => k5.frozen (p := ⟨w4.heap.size, o, none⟩) h hn4
             have g4 := k5.size
             simp at g0 g1 g2 g3 g4
             try (have e6 : w3.heap.size < w5.heap.size := by omega)
             try (have e7 : w4.heap.size < w5.heap.size := by omega)
             clear g4))
      all_goals (go_wp2_with fail; go_meet)
      all_goals exact ⟨_, rfl, rfl, FtR.of hbcl.out hC5 hB5 hz4 (by repeat (first | with_reducible exact But.refl _ _ | with_reducible refine But.drew ?_ | with_reducible refine But.alloc ?_ _ | with_reducible refine But.drewN ?_ _ | with_reducible refine But.setCell ?_ (.inl (by simp)) _)) (by first | (go_simp; done) | (go_simp; refine setCell_some ?_; go_simp)) (by first | (go_simp; done) | (go_simp; refine setCell_some ?_; go_simp)) (by first | (go_simp; done) | (go_simp; refine setCell_some ?_; go_simp)) (by first | (go_simp; done) | (go_simp; refine setCell_some ?_; go_simp))⟩
      -- ⟪/slow⟫
    case rest =>
      obtain ⟨b10, rfl, rfl, hi0, hi1, hi2, hi3, hC6, hB6⟩ := hcut
      have HC6 : Hid (CpuAt wc bc bm bp n xs bt l m') := hC6
      have HB6 : Hid (But [bt, bc] w wc) := (HB'.out.wider (by simp)).trans (hB6.wider (by simp))
      have HT6 : Hid (wc.there g 0 4) := there_keep HT1'.out hB6 (by simp; omega)
      have HT7 : Hid (wc.there (g + 1) 0 4) := there_keep HT2'.out hB6 (by simp; omega)
      have HT8 : Hid (∀ cs : List Value, (wc.setCells g 0 cs).there (g + 1) 0 4) := fun cs => World.there_setCells HT7.out g 0 cs
      clear hC6 hB6 S0 S1 p0 p1
      cases hv : vldD x with
      | true =>
        have HR2 : Hid (ftc n xs l s addr = ⟨tr0, doR x, daR x, dbR x, diR x⟩) := by
          show _ = _
          rw [HR.out, hv]
          rfl
        clear hv
        go_wp2_with (first
          | (refine wpList_store_mid rfl 67 _ _ rfl g 0 #[.int .i64 (doR x), .int .i64 (daR x), .int .i64 (dbR x), .int .i64 (diR x)] rfl rfl ?ht Try.sizeInstr (ivs_all _ _ _ _) ?_; case ht => exact HT6.out)
          | (refine wpList_store_mid rfl 37 _ _ rfl (g + 1) 0 #[.int .i64 0, .int .i64 0, .bool false, .int .i64 0] rfl rfl ?ht Try.sizeTrap (Tr.vs_all tr0) ?_; case ht => exact HT8.out _))
        obtain ⟨v1, v2, v3, v4⟩ := HE.out wc _ [.int .i64 (doR x), .int .i64 (daR x), .int .i64 (dbR x), .int .i64 (diR x)] [.int .i64 0, .int .i64 0, .bool false, .int .i64 0] HC6.out HB6.out HT6.out HT7.out rfl rfl rfl
        refine bodyPost_ret (results_two rfl _ _ g 0 (g + 1) 0 _ _ _ _ rfl v1 Try.underlying67 rfl Try.sizeInstr rfl v2 Try.underlying37 rfl Try.sizeTrap) rfl ?_
        exact ⟨m', by rw [HR2.out]; rfl, hm', v3, v4⟩
      | false =>
        have HR2 : Hid (ftc n xs l s addr = ⟨⟨3, 0, false, 0⟩, 0, 0, 0, 0⟩) := by
          show _ = _
          rw [HR.out, hv]
          rfl
        clear hv
        go_wp2_with (first
          | (refine wpList_store_mid rfl 67 _ _ rfl g 0 #[.int .i64 0, .int .i64 0, .int .i64 0, .int .i64 0] rfl rfl ?ht Try.sizeInstr (ivs_all _ _ _ _) ?_; case ht => exact HT6.out)
          | (refine wpList_store_mid rfl 37 _ _ rfl (g + 1) 0 #[.int .i64 3, .int .i64 0, .bool false, .int .i64 0] rfl rfl ?ht Try.sizeTrap (Tr.vs_all ⟨3, 0, false, 0⟩) ?_; case ht => exact HT8.out _))
        obtain ⟨v1, v2, v3, v4⟩ := HE.out wc _ [.int .i64 0, .int .i64 0, .int .i64 0, .int .i64 0] [.int .i64 3, .int .i64 0, .bool false, .int .i64 0] HC6.out HB6.out HT6.out HT7.out rfl rfl rfl
        refine bodyPost_ret (results_two rfl _ _ g 0 (g + 1) 0 _ _ _ _ rfl v1 Try.underlying67 rfl Try.sizeInstr rfl v2 Try.underlying37 rfl Try.sizeTrap) rfl ?_
        exact ⟨m', by rw [HR2.out]; rfl, hm', v3, v4⟩
  · have HR : Hid (ftc n xs l s addr = ⟨⟨t1, t2, t3, t4⟩, 0, 0, 0, 0⟩) := by
      show _ = _
      unfold ftc
      rw [HF.out]
      exact if_neg ht
    have htb : (t1 != 0) = true := by simp [ht]
    obtain ⟨⟨x0, hx0⟩, ⟨x1, hx1⟩, ⟨x2, hx2⟩, ⟨x3, hx3⟩, z0, z1, z2, z3⟩ := there4 HT1'.out
    obtain ⟨⟨y0, hy0⟩, ⟨y1, hy1⟩, ⟨y2, hy2⟩, ⟨y3, hy3⟩, o0, o1, o2, o3⟩ := there4 HT2'.out
    go_wp2
    go_region
    all_goals go_wp2
    all_goals (obtain ⟨v1, v2, v3, v4⟩ := HE.out w3 _ [.int .i64 0, .int .i64 0, .int .i64 0, .int .i64 0] [.int .i64 t1, .int .i64 t2, .bool t3, .int .i64 t4] HC'.out (HB'.out.wider (by simp)) HT1'.out HT2'.out rfl rfl rfl)
    all_goals change bodyPost _ _ _ _ _ ((w3.setCells g 0 [.int .i64 0, .int .i64 0, .int .i64 0, .int .i64 0]).setCells (g + 1) 0 [.int .i64 t1, .int .i64 t2, .bool t3, .int .i64 t4]).drew
    all_goals generalize ((w3.setCells g 0 [.int .i64 0, .int .i64 0, .int .i64 0, .int .i64 0]).setCells (g + 1) 0 [.int .i64 t1, .int .i64 t2, .bool t3, .int .i64 t4]) = w9 at v1 v2 v3 v4 ⊢
    all_goals refine bodyPost_ret (results_two rfl _ _ g 0 (g + 1) 0 _ _ _ _ rfl ((World.rangeAt_drew _ _ _ _).2 v1) Try.underlying67 rfl Try.sizeInstr rfl ((World.rangeAt_drew _ _ _ _).2 v2) Try.underlying37 rfl Try.sizeTrap) rfl ?_
    all_goals exact ⟨m', by rw [HR.out]; rfl, hm', v3.keep0 (But.refl _ _).drew, v4.drew⟩
end Go.Proofs.Ytjlcncdhlcpklaa.Cp
