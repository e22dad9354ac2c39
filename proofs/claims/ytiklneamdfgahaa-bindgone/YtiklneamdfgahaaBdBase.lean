/-
  Layer 15 (bind): how a table lies in the machine's memory; contracts of all, below, Len, Get, New, over the translated program.
-/
import Derived.Test.YtiklneamdfgahaaBdMap
import Derived.Deep.CutBlock
import Derived.Deep.CutRange
import Derived.Deep.LoopGhost
import Derived.Deep.RegionHeld3
namespace Go.Proofs.Ytiklneamdfgahaa.Bd
open Go.ChangeShapes Go.WideShapes Go.ChangeAt Go.RowKit
set_option linter.unusedVariables false
set_option maxRecDepth 20000

/-- Block b is a table with these bindings, which stand in the map mo. -/
structure TbAt (w : World) (b : Nat) (mo : Option Nat) (T : Tb) : Prop where
  cell : w.cell? ⟨b, 0, none⟩ = some (.map mo)
  free : w.frozen? ⟨b, 0, none⟩ = false
  map : Mo w mo T
  ok : Ok T
  ne : ∀ m, mo = some m → m ≠ b
theorem TbAt.lt {w : World} {b : Nat} {mo : Option Nat} {T : Tb} (h : TbAt w b mo T) : b < w.heap.size := lt_of_cell h.cell
theorem TbAt.keep {l : List Nat} {w w' : World} {b : Nat} {mo : Option Nat} {T : Tb} (h : TbAt w b mo T) (k : But l w w') (hb : b ∉ l) (hm : ∀ m, mo = some m → m ∉ l) : TbAt w' b mo T :=
  ⟨cell_keep h.cell k hb, (k.frozen (p := ⟨b, 0, none⟩) h.lt hb).trans h.free, h.map.keep k hm, h.ok, h.ne⟩
theorem TbAt.keep0 {w w' : World} {b : Nat} {mo : Option Nat} {T : Tb} (h : TbAt w b mo T) (k : But [] w w') : TbAt w' b mo T := h.keep k (by simp) (fun _ _ => by simp)
/-- A pointer to a table, nil too. -/
def Tv (w : World) (v : Option Addr) (mo : Option Nat) (T : Tb) : Prop := (v = none ∧ mo = none ∧ T = no) ∨ ∃ b, v = some ⟨b, 0, none⟩ ∧ TbAt w b mo T
theorem Tv.nil (w : World) : Tv w none none no := .inl ⟨rfl, rfl, rfl⟩
theorem Tv.at_ {w : World} {b : Nat} {mo : Option Nat} {T : Tb} (h : TbAt w b mo T) : Tv w (some ⟨b, 0, none⟩) mo T := .inr ⟨b, rfl, h⟩
theorem Tv.keep0 {w w' : World} {v : Option Addr} {mo : Option Nat} {T : Tb} (h : Tv w v mo T) (k : But [] w w') : Tv w' v mo T := by
  rcases h with h | ⟨b, rfl, h⟩
  · exact .inl h
  · exact .inr ⟨b, rfl, h.keep0 k⟩
theorem Tv.mo {w : World} {v : Option Addr} {mo : Option Nat} {T : Tb} (h : Tv w v mo T) : Mo w mo T := by
  rcases h with ⟨_, rfl, rfl⟩ | ⟨b, rfl, h⟩
  · rfl
  · exact h.map
theorem Tv.ok {w : World} {v : Option Addr} {mo : Option Nat} {T : Tb} (h : Tv w v mo T) : Ok T := by
  rcases h with ⟨_, rfl, rfl⟩ | ⟨b, rfl, h⟩
  · exact Ok.no
  · exact h.ok
theorem all_c (v : Option Addr) (mo : Option Nat) (T : Tb) (w : World) (h : Tv w v mo T) :
    Calls Try.prog 23 #[.pointer v] w fun r w' => r = .returned (.map mo) ∧ w = w' := by
  rcases h with ⟨rfl, rfl, rfl⟩ | ⟨b, rfl, h⟩
  · go_enter Try.func23, Try.ntmps23
    go_wp2
    go_ret
    exact ⟨rfl, rfl⟩
  · have hc := h.cell
    clear h
    go_enter Try.func23, Try.ntmps23
    go_wp2
    go_ret
    exact ⟨rfl, rfl⟩
theorem below_yes (x n : Int) (w : World) (h0 : 0 ≤ x) (h1 : x < n) : Calls Try.prog 30 #[.int .i64 x, .int .i64 n] w fun r w' => r = .returned (.bool true) ∧ w = w' := by
  go_enter Try.func30, Try.ntmps30
  go_wp2
  go_ret
  exact ⟨rfl, rfl⟩
theorem below_no (x n : Int) (w : World) (h : ¬ (0 ≤ x ∧ x < n)) : Calls Try.prog 30 #[.int .i64 x, .int .i64 n] w fun r w' => r = .returned (.bool false) ∧ w = w' := by
  by_cases h0 : 0 ≤ x
  · have h1 : decide (x < n) = false := decide_eq_false (fun hh => h ⟨h0, hh⟩)
    clear h
    go_enter Try.func30, Try.ntmps30
    go_wp2
    go_ret
    exact ⟨rfl, rfl⟩
  · have h1 : decide (0 ≤ x) = false := decide_eq_false h0
    clear h
    go_enter Try.func30, Try.ntmps30
    go_wp2
    go_ret
    exact ⟨rfl, rfl⟩
/-- Is the number one of the first n? -/
def blB (x n : Int) : Bool := decide (0 ≤ x ∧ x < n)
theorem below_c (x n : Int) (w : World) : Calls Try.prog 30 #[.int .i64 x, .int .i64 n] w fun r w' => r = .returned (.bool (blB x n)) ∧ w = w' := by
  by_cases h : 0 ≤ x ∧ x < n
  · rw [show blB x n = true from decide_eq_true h]
    exact below_yes x n w h.1 h.2
  · rw [show blB x n = false from decide_eq_false h]
    exact below_no x n w h
theorem len_c (v : Option Addr) (mo : Option Nat) (T : Tb) (w : World) (h : Tv w v mo T) :
    Calls Try.prog 15 #[.pointer v] w fun r w' => r = .returned (.int .i64 (cn T 2048 : Nat)) ∧ w = w' := by
  have HA := hid (all_c v mo T w h)
  have hl := fun ty => len_run h.mo ty
  clear h
  generalize cn T 2048 = N at *
  go_enter Try.func15, Try.ntmps15
  go_wp2_with (refine HA.out.mono ?_; rintro r w1 ⟨rfl, rfl⟩)
  go_ret
  exact ⟨rfl, rfl⟩
theorem infoBind : (Try.prog.info? 36).map (·.size) = some 2 := by kernel_rfl
theorem get_c (v : Option Addr) (mo : Option Nat) (T : Tb) (s p : Int) (w : World) (h : Tv w v mo T) (h1 : I64 s) (h2 : I64 p) :
    Calls Try.prog 8 #[.pointer v, .int .i64 s, .int .i64 p] w fun r w' => r = .returned (.tuple #[.agg #[.int .i64 (gtv T s p).1, .bool (gtv T s p).2], .bool (gtb T s p)]) ∧ But [] w w' := by
  have HT := hid h
  have HI := hid (And.intro h1 h2)
  have hz := zBind
  clear h h1 h2
  generalize hx : gtv T s p = x
  generalize hy : gtb T s p = y
  have HX := hid hx
  have HY := hid hy
  clear hx hy
  obtain ⟨f, u⟩ := x
  go_enter Try.func8, Try.ntmps8
  go_upto_region 1 with fail
  have H1 := hid (HT.out.keep0 ((But.refl [] w).alloc (.cells #[.int .i64 0, .bool false] 36)))
  have hlk := look_run H1.out.mo HI.out.1 HI.out.2
  rw [HX.out, HY.out] at hlk
  go_wp2_with (refine (all_c v mo T _ H1.out).mono ?_; rintro r w1 ⟨rfl, rfl⟩)
  have hR := range_keep (l := []) (new_range w [.int .i64 f, .bool u] 36) ((But.refl [] _).alloc (.cells #[.int .i64 f, .bool u] 36)) (by simp)
  refine bodyPost_ret (results_range rfl _ _ w.heap.size 0 [.int .i64 f, .bool u] _ rfl hR Try.underlying36 rfl infoBind) rfl ?_
  exact ⟨rfl, ((But.refl [] w).alloc _).alloc _⟩
theorem new_c (w : World) : Calls Try.prog 6 #[] w fun r w' => r = .returned (.pointer (some ⟨w.heap.size, 0, none⟩)) ∧ TbAt w' w.heap.size none no ∧ But [] w w' := by
  go_enter Try.func6, Try.ntmps6
  go_wp2
  go_ret
  have hV := VB.new w #[.map none] 56 1 rfl (fun _ => .map none) (fun j hj => by
    obtain rfl : j = 0 := by omega
    rfl)
  exact ⟨rfl, ⟨(hV 0 (by omega)).1, (hV 0 (by omega)).2, rfl, Ok.no, fun m hm => by cases hm⟩, (But.refl [] w).alloc _⟩
/-- What a call leaves that may write a table. -/
def Lf (b : Nat) (mo : Option Nat) (T' : Tb) (w w' : World) : Prop := ∃ mo', TbAt w' b mo' T' ∧ But (b :: mo.toList) w w' ∧ ∀ m, mo' = some m → mo = some m ∨ w.heap.size ≤ m
set_option maxHeartbeats 1000000 in
theorem put_no (v : Option Addr) (s p f : Int) (u : Bool) (w : World) (h : v = none ∨ ¬ ptP s p f) :
    Calls Try.prog 18 #[.pointer v, .int .i64 s, .int .i64 p, .agg #[.int .i64 f, .bool u]] w fun r w' => r = .returned (.bool false) ∧ But [] w w' := by
  have HK : Hid (But [] w (w.alloc (.cells #[.int .i64 f, .bool u] 36))) := (But.refl [] w).alloc _
  cases v with
  | none =>
    clear h
    go_enter Try.func18, Try.ntmps18
    go_wp2
    go_ret
    exact ⟨rfl, HK.out⟩
  | some a =>
    by_cases hs : 0 ≤ s ∧ s < 64
    · have HS : Hid (blB s 64 = true) := decide_eq_true hs
      by_cases hp : 0 ≤ p ∧ p < 32
      · have HP : Hid (blB p 32 = true) := decide_eq_true hp
        have HF : Hid (blB f 512 = false) := decide_eq_false (fun hf => by
          rcases h with h | h
          · cases h
          · exact h ⟨⟨hs, hp⟩, hf⟩)
        clear h hs hp
        go_enter Try.func18, Try.ntmps18
        go_wp2_with fail
        refine (below_c s 64 _).mono ?_
        rw [HS.out]
        rintro r w1 ⟨rfl, rfl⟩
        go_wp2_with fail
        refine (below_c p 32 _).mono ?_
        rw [HP.out]
        rintro r w1 ⟨rfl, rfl⟩
        go_wp2_with fail
        refine (below_c f 512 _).mono ?_
        rw [HF.out]
        rintro r w1 ⟨rfl, rfl⟩
        go_wp2
        go_ret
        exact ⟨rfl, HK.out⟩
      · have HP : Hid (blB p 32 = false) := decide_eq_false hp
        clear h hs hp
        go_enter Try.func18, Try.ntmps18
        go_wp2_with fail
        refine (below_c s 64 _).mono ?_
        rw [HS.out]
        rintro r w1 ⟨rfl, rfl⟩
        go_wp2_with fail
        refine (below_c p 32 _).mono ?_
        rw [HP.out]
        rintro r w1 ⟨rfl, rfl⟩
        go_wp2
        go_ret
        exact ⟨rfl, HK.out⟩
    · have HS : Hid (blB s 64 = false) := decide_eq_false hs
      clear h hs
      go_enter Try.func18, Try.ntmps18
      go_wp2_with fail
      refine (below_c s 64 _).mono ?_
      rw [HS.out]
      rintro r w1 ⟨rfl, rfl⟩
      go_wp2
      go_ret
      exact ⟨rfl, HK.out⟩
theorem eqMapNone (w : World) : Sem.run Try.prog (binOp .eql mT (.map none) (.map none)) w = .ok (.bool true) w := by kernel_rfl
theorem eqMapSome (m : Nat) (w : World) : Sem.run Try.prog (binOp .eql mT (.map (some m)) (.map none)) w = .ok (.bool false) w := by kernel_rfl
set_option maxHeartbeats 1000000 in
theorem put_yes (b : Nat) (mo : Option Nat) (T : Tb) (s p f : Int) (u : Bool) (w : World) (ht : TbAt w b mo T) (h : ptP s p f) :
    Calls Try.prog 18 #[.pointer (some ⟨b, 0, none⟩), .int .i64 s, .int .i64 p, .agg #[.int .i64 f, .bool u]] w fun r w' => r = .returned (.bool true) ∧ Lf b mo (up T (pl s p) (some (f, u))) w w' := by
  have HH := hid h
  obtain ⟨⟨hs, hp⟩, hf⟩ := h
  have HS : Hid (blB s 64 = true) := decide_eq_true hs
  have HP : Hid (blB p 32 = true) := decide_eq_true hp
  have HF : Hid (blB f 512 = true) := decide_eq_true hf
  obtain ⟨g, hg⟩ : ∃ g, g = w.heap.size := ⟨_, rfl⟩
  have HB := hid (new_range w [.int .i64 f, .bool u] 36)
  rw [← hg] at HB
  have HG : Hid (g = w.heap.size ∧ b < g) := by have := ht.lt; exact ⟨hg, by omega⟩
  have HT := hid (ht.keep0 ((But.refl [] w).alloc (.cells #[.int .i64 f, .bool u] 36)))
  have HM : Hid (∀ m, mo = some m → m < g) := fun m hm => by have := ht.map.lt m hm; omega
  have HK : Hid (But [] w (w.alloc (.cells #[.int .i64 f, .bool u] 36))) := (But.refl [] w).alloc _
  clear hs hp hf ht
  go_enter Try.func18, Try.ntmps18
  go_upto_region 1 with fail
  rw [← hg]
  clear hg
  generalize w.alloc (.cells #[.int .i64 f, .bool u] 36) = w0 at *
  have hc0 := range_cells HB.out 0 _ rfl
  go_wp2_with fail
  refine (below_c s 64 _).mono ?_
  rw [HS.out]
  rintro r w1 ⟨rfl, rfl⟩
  go_wp2_with fail
  refine (below_c p 32 _).mono ?_
  rw [HP.out]
  rintro r w1 ⟨rfl, rfl⟩
  go_wp2_with fail
  refine (below_c f 512 _).mono ?_
  rw [HF.out]
  rintro r w1 ⟨rfl, rfl⟩
  go_upto_region 3 with fail
  have hcell := HT.out.cell
  have hfree := HT.out.free
  have he := eqMapNone
  have he1 := eqMapSome
  have hmm := @run_makeMap Try.prog
  clear HS HP HF hc0
  cases mo with
  | some mb =>
    go_upto_region 5 with fail
    have HTd := hid (HT.out.keep0 (But.refl [] w0).drew)
    have hBd := (World.rangeAt_drew _ _ _ _).2 HB.out
    obtain ⟨w2, hrun, hmp, hbut⟩ := put_run HTd.out.map HH.out.1 (f, u)
    have HRUN := hid hrun
    have HW : Hid (Lf b (some mb) (up T (pl s p) (some (f, u))) w w2) := by
      have hk := HK.out.trans ((But.refl [] w0).drew)
      have hok := HT.out.ok.put s p (f, u)
      rw [show pt T s p (f, u) = up T (pl s p) (some (f, u)) from if_pos HH.out] at hok
      have hne := HT.out.ne mb rfl
      refine ⟨some mb, ⟨?_, ?_, hmp, hok, HT.out.ne⟩, ?_, fun m hm => .inl hm⟩
      · exact cell_keep HTd.out.cell hbut (by simpa using hne.symm)
      · exact (hbut.frozen (p := ⟨b, 0, none⟩) HTd.out.lt (by simpa using hne.symm)).trans HTd.out.free
      · exact (hk.any _).trans (hbut.wider (by simp))
    clear hrun hmp hbut
    refine wp_region_still_tail 8 (by kernel_rfl) (by kernel_rfl) ?_
    simp only [List.take_succ_cons, List.take_zero, List.drop_succ_cons, List.drop_zero]
    change wpStill _ _ w0.drew _ _ _
    repeat (first
      | (refine wpStill_load_mid rfl 36 _ rfl g 0 rfl [.int .i64 f, .bool u] _ hBd Try.underlying36 rfl infoBind ?_)
      | still_step)
    refine wpStill_nil ?_
    change wpList _ _ _ _ _ w0.drew
    go_wp2_with (first
      | (refine wpList_mapUpdate_known _ rfl _ _ _ 54 rfl _ _ _ rfl rfl rfl HRUN.out ?_))
    go_ret
    exact ⟨rfl, HW.out⟩
  | none =>
    obtain rfl : T = no := HT.out.map
    obtain ⟨B, hB⟩ : ∃ B, B = w0.heap.size := ⟨_, rfl⟩
    have hbl := HT.out.lt
    have hgl : g < w0.heap.size := lt_of_cell (range_cells HB.out 0 _ rfl)
    have k0 : But [] w0 (w0.alloc (.map #[] 0)) := (But.refl [] w0).alloc _
    have k1 : But [b] w0 (w0.setCell ⟨b, 0, none⟩ (.map (some B))) := (But.refl [b] w0).setCell (.inl (by simp)) _
    have k2 : But [b] w0 ((w0.setCell ⟨b, 0, none⟩ (.map (some B))).alloc (.map #[] 0)) := k1.alloc _
    have k3 : But [] (w0.setCell ⟨b, 0, none⟩ (.map (some B))) ((w0.setCell ⟨b, 0, none⟩ (.map (some B))).alloc (.map #[] 0)) := (But.refl [] _).alloc _
    have hBn : B ≠ b := by omega
    have hsz : (w0.setCell ⟨b, 0, none⟩ (.map (some B))).heap.size = B := by rw [hB]; simp [World.setCell]
    have HM : Hid (MpAt ((w0.setCell ⟨b, 0, none⟩ (.map (some B))).alloc (.map #[] 0)) B no) := by
      have := made_run (w0.setCell ⟨b, 0, none⟩ (.map (some B)))
      rwa [hsz] at this
    have HC : Hid (((w0.setCell ⟨b, 0, none⟩ (.map (some B))).alloc (.map #[] 0)).cell? ⟨b, 0, none⟩ = some (.map (some B))) :=
      cell_keep (World.cell?_setCell_same _ _ _ HT.out.cell) k3 (by simp)
    have HF : Hid (((w0.setCell ⟨b, 0, none⟩ (.map (some B))).alloc (.map #[] 0)).frozen? ⟨b, 0, none⟩ = false) :=
      (k3.frozen (p := ⟨b, 0, none⟩) (by rw [hsz]; show b < B; omega) (by simp)).trans (by rw [World.frozen?_setCell]; exact HT.out.free)
    have HB2 := hid (range_keep HB.out k2 (by simp; have := HG.out.2; omega))
    have HK2 := hid ((HK.out.any _).trans k2)
    have HBN : Hid (B ≠ b ∧ w.heap.size ≤ B) := ⟨hBn, by have := HK.out.size; omega⟩
    have hkk := HT.out.keep0 k0
    have hc1 := hkk.cell
    have hf1 := hkk.free
    clear k0 k1 k2 k3 hBn HT hkk hsz
    go_upto_region 5 with fail
    rw [← hB]
    clear hB
    generalize (w0.setCell ⟨b, 0, none⟩ (.map (some B))).alloc (.map #[] 0) = w1 at *
    clear hcell hfree hc1 hf1 he he1 hmm HB HK
    have hcell : w1.drew.cell? ⟨b, 0, none⟩ = some (.map (some B)) := HC.out
    obtain ⟨w2, hrun, hmp, hbut⟩ := put_run (HM.out.keep (But.refl [] w1).drew (by simp)) HH.out.1 (f, u)
    have hBd := (World.rangeAt_drew _ _ _ _).2 HB2.out
    have HRUN := hid hrun
    have HW : Hid (Lf b none (up no (pl s p) (some (f, u))) w w2) := by
      have hok := Ok.no.put s p (f, u)
      rw [show pt no s p (f, u) = up no (pl s p) (some (f, u)) from if_pos HH.out] at hok
      have hne := HBN.out.1
      have hlt : b < w1.drew.heap.size := lt_of_cell hcell
      refine ⟨some B, ⟨?_, ?_, hmp, hok, fun m hm => by injection hm with hm; rw [← hm]; exact hne⟩, ?_, fun m hm => .inr (by injection hm with hm; rw [← hm]; exact HBN.out.2)⟩
      · exact cell_keep hcell hbut (by simpa using hne.symm)
      · exact (hbut.frozen (p := ⟨b, 0, none⟩) hlt (by simpa using hne.symm)).trans HF.out
      · exact ((HK2.out.wider (l' := [b, B]) (by simp)).trans ((But.refl _ w1).drew.trans (hbut.wider (by simp)))).strike (fun k hk hkl => by
          simp at hk
          rcases hk with rfl | rfl
          · simp
          · have := HBN.out.2; omega)
    clear hrun hmp hbut
    refine wp_region_still_tail 8 (by kernel_rfl) (by kernel_rfl) ?_
    simp only [List.take_succ_cons, List.take_zero, List.drop_succ_cons, List.drop_zero]
    change wpStill _ _ w1.drew _ _ _
    repeat (first
      | (refine wpStill_load_mid rfl 36 _ rfl g 0 rfl [.int .i64 f, .bool u] _ hBd Try.underlying36 rfl infoBind ?_)
      | still_step)
    refine wpStill_nil ?_
    change wpList _ _ _ _ _ w1.drew
    go_wp2_with (first
      | (refine wpList_mapUpdate_known _ rfl _ _ _ 54 rfl _ _ _ rfl rfl rfl HRUN.out ?_))
    go_ret
    exact ⟨rfl, HW.out⟩
/-- Put, of whatever numbers, into a table that is there. -/
def ptB (s p f : Int) : Bool := decide (ptP s p f)
theorem Lf.same {b : Nat} {mo : Option Nat} {T : Tb} {w w' : World} (h : TbAt w b mo T) (k : But [] w w') : Lf b mo T w w' := ⟨mo, h.keep0 k, k.any _, fun m hm => .inl hm⟩
theorem put_c (b : Nat) (mo : Option Nat) (T : Tb) (s p f : Int) (u : Bool) (w : World) (ht : TbAt w b mo T) :
    Calls Try.prog 18 #[.pointer (some ⟨b, 0, none⟩), .int .i64 s, .int .i64 p, .agg #[.int .i64 f, .bool u]] w fun r w' => r = .returned (.bool (ptB s p f)) ∧ Lf b mo (pt T s p (f, u)) w w' := by
  by_cases h : ptP s p f
  · rw [show ptB s p f = true from decide_eq_true h, show pt T s p (f, u) = up T (pl s p) (some (f, u)) from if_pos h]
    exact put_yes b mo T s p f u w ht h
  · rw [show ptB s p f = false from decide_eq_false h, show pt T s p (f, u) = T from if_neg h]
    refine (put_no _ s p f u w (.inr h)).mono ?_
    rintro r w' ⟨rfl, k⟩
    exact ⟨rfl, Lf.same ht k⟩
end Go.Proofs.Ytiklneamdfgahaa.Bd
