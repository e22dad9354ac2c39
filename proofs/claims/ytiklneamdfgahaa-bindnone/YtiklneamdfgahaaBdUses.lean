/-
  Layer 15 (bind): the contract of Uses, over the translated program.
-/
import Derived.Test.YtiklneamdfgahaaBdSort
namespace Go.Proofs.Ytiklneamdfgahaa.Bd
open Go.ChangeShapes Go.WideShapes Go.ChangeAt Go.RowKit
open Wh
set_option linter.unusedVariables false
set_option maxRecDepth 20000

theorem infoPair : (Try.prog.info? 45).map (fun i => (i.zero, i.size, i.bytes)) = some (some (.agg #[.int .i64 0, .int .i64 0]), 2, 16) := by kernel_rfl
theorem Que.base {w : World} {base base' size n : Nat} {v : Value} {xs : List Value} (h : Que w base size v n xs) (hb : base' ≤ base) : Que w base' size v n xs := by
  refine ⟨h.1, ?_⟩
  rcases h.2 with h0 | ⟨g, off, cap, e, hg, rest⟩
  · exact .inl h0
  · exact .inr ⟨g, off, cap, e, Nat.le_trans hb hg, rest⟩
theorem two_one (a b : Int) : ∀ u ∈ [Value.int .i64 a, .int .i64 b], u.oneCell' = true := by
  intro v hv
  simp only [List.mem_cons, List.not_mem_nil, or_false] at hv
  rcases hv with rfl | rfl <;> rfl
/-- How far the search is: L are the places found among those that have come. -/
structure Us (w : World) (mb r : Nat) (T : Tb) (f : Int) (wr : World) (left : Lit → Bool) (cnt : Nat) (D : DataW Unit) (L : List Nat) : Prop where
  rg : wr.ranges Try.prog pT rdB mb r 2048 D left cnt
  rp : Rp D T
  sub : ∀ l, left l = true → Maps.has D l = true
  nd : L.Nodup
  mem : ∀ k, k ∈ L ↔ k < 2048 ∧ isF T f k = true ∧ left (klk k) = false
  le : L.length + cnt ≤ 2048
  kp : But [] w wr
  hr : w.heap.size ≤ r
  hm : mb < r
section
variable {w wr : World} {mb r cnt : Nat} {T : Tb} {f : Int} {left : Lit → Bool} {D : DataW Unit} {L : List Nat}
theorem Us.keep (h : Us w mb r T f wr left cnt D L) {w' : World} {l : List Nat} (k : But l wr w') (hl : ∀ i, i ∈ l → r < i) : Us w mb r T f w' left cnt D L := by
  have hm := h.hm
  have hb : mb ∉ l := fun hh => by have := hl mb hh; omega
  have hrr : r ∉ l := fun hh => by have := hl r hh; omega
  have hlt := h.rg.owns.lt
  have hlr := h.rg.lt
  have hkp : But [] w w' := but_own h.kp k (fun i hi => by have := hl i hi; have := h.hr; omega)
  obtain ⟨es, clock, since, seen, c0, hbb, F, hs, hD, hrb, rest⟩ := h.rg
  exact ⟨⟨es, clock, since, seen, c0, (k.block mb hlt hb).trans hbb, F, hs, hD, (k.block r hlr hrr).trans hrb, rest⟩, h.rp, h.sub, h.nd, h.mem, h.le, hkp, h.hr, h.hm⟩
theorem Us.at_ (h : Us w mb r T f wr left cnt D L) (ho : Ok T) {s p : Int} {b : Fw} (i1 : I64 s) (i2 : I64 p) (hl : left (kl s p) = true) (hat : ∀ zd, D.atKey (kl s p) zd = bd b) : hsP s p ∧ T (pl s p) = some b := by
  have h1 := h.sub _ hl
  rw [h.rp.has s p i1 i2] at h1
  obtain ⟨b', hb'⟩ := Option.isSome_iff_exists.1 h1
  have e : b' = b := bd_inj ((h.rp.val s p b' i1 i2 hb' .nil).symm.trans (hat .nil))
  subst e
  have hs := (ho.gt hb').1
  rw [gt_in hs] at hb'
  exact ⟨hs, hb'⟩
theorem Us.step (h : Us w mb r T f wr left cnt D L) {s p : Int} {b : Fw} (hs : hsP s p) (hT : T (pl s p) = some b) (hl : left (kl s p) = true) {w' : World} {cnt' : Nat}
    (hrg : w'.ranges Try.prog pT rdB mb r 2048 D (fun z => left z && !z.sameKey (kl s p)) cnt') (hc : cnt' < cnt) (k : But [r] wr w') :
    Us w mb r T f w' (fun z => left z && !z.sameKey (kl s p)) cnt' D (if (b.1 == f) = true then L ++ [pl s p] else L) := by
  have hsub : ∀ l, (left l && !l.sameKey (kl s p)) = true → Maps.has D l = true := fun l hh => h.sub l (by simp only [Bool.and_eq_true] at hh; exact hh.1)
  have hkp : But [] w w' := but_own h.kp k (fun i hi => by simp at hi; subst hi; exact h.hr)
  have hF := isF_some (f := f) hT
  by_cases hb : (b.1 == f) = true
  · rw [if_pos hb]
    refine ⟨hrg, h.rp, hsub, ?_, fun k => ?_, by have := h.le; simp; omega, hkp, h.hr, h.hm⟩
    · refine List.nodup_append.2 ⟨h.nd, by simp, fun a ha b hb' => ?_⟩
      rw [List.mem_singleton] at hb'
      subst hb'
      intro e
      subst e
      have := ((h.mem _).1 ha).2.2
      rw [klk_pl hs, hl] at this
      cases this
    · rw [List.mem_append, List.mem_singleton, h.mem k]
      by_cases e : k = pl s p
      · subst e
        rw [klk_pl hs, kl_same hs, hF]
        simp [hb, pl_lt hs]
      · constructor
        · rintro (⟨h1, h2, h3⟩ | h1)
          · exact ⟨h1, h2, by rw [h3]; rfl⟩
          · exact absurd h1 e
        · rintro ⟨h1, h2, h3⟩
          rw [klk_ne hs h1 e] at h3
          exact .inl ⟨h1, h2, by simpa using h3⟩
  · rw [if_neg hb]
    refine ⟨hrg, h.rp, hsub, h.nd, fun k => ?_, by have := h.le; omega, hkp, h.hr, h.hm⟩
    rw [h.mem k]
    by_cases e : k = pl s p
    · subst e
      rw [hF]
      simp [hb]
    · constructor
      · rintro ⟨h1, h2, h3⟩
        exact ⟨h1, h2, by rw [h3]; rfl⟩
      · rintro ⟨h1, h2, h3⟩
        rw [klk_ne hs h1 e] at h3
        exact ⟨h1, h2, by simpa using h3⟩
theorem Us.start {w0 : World} (hr : Rp D T) (hrg : w0.ranges Try.prog pT rdB mb r 2048 D (Maps.has D) (Maps.size D)) (k : But [] w w0) (hle : w.heap.size ≤ r) (hm : mb < r) : Us w mb r T f w0 (Maps.has D) (Maps.size D) D [] :=
  ⟨hrg, hr, fun _ h => h, List.nodup_nil, (fun k => by
    constructor
    · intro h; cases h
    · rintro ⟨h1, h2, h3⟩
      rw [hr.has_k h1] at h3
      cases hb : T k with
      | none => rw [isF_none hb] at h2; cases h2
      | some b => rw [hb] at h3; cases h3), (by rw [hr.size]; have := cn_le T 2048; simp; omega), k, hle, hm⟩
theorem Us.done (h : Us w mb r T f wr left cnt D L) (hl : ∀ l, left l = false) : srt L = usl T f 2048 :=
  srt_eq h.nd (usl_sorted T f 2048) fun k => by
    rw [h.mem k, usl_mem, hl]
    simp
end
set_option maxHeartbeats 4000000 in
theorem uses_some (v : Option Addr) (mb : Nat) (T : Tb) (f : Int) (w : World) (h : Tv w v (some mb) T) :
    Calls Try.prog 13 #[.pointer v, .int .i64 f] w (Ls w (usl T f 2048).length 2 (uc (usl T f 2048))) := by
  have HA := hid (all_c v (some mb) T w h)
  have HO := hid h.ok
  obtain ⟨D0, hown, hr⟩ := h.mo
  have HR := hid hr
  have hml := hown.lt
  have hz1 : ∀ w, (zeroValue pT).run Try.prog w = .ok (.agg #[.int .i64 0, .int .i64 0]) w := fun w => by kernel_rfl
  have hz2 := zBind
  clear h hr
  go_enter Try.func13, Try.ntmps13
  go_wp2_with (first
    | (go_at_call 23; refine HA.out.mono ?_; rintro r w1 ⟨rfl, rfl⟩)
    | (at_range; refine wpList_range_own _ rfl _ 54 rfl pT bT keyed Try.underlying54 rdB mb 2048 _ rfl hown ?_; intro w0 hrg0 hg0 hs0)
    | go_in)
  go_frame
  have HS : Hid (Us w mb w.heap.size T f w0 (Maps.has D0) (Maps.size D0) D0 []) :=
    Us.start HR.out hrg0 ((But.refl [] w).grown hg0 (fun k hk => by cases hk)) (Nat.le_refl _) hml
  have HW : Hid (w.heap.size = w.heap.size ∧ w.heap.size + 1 ≤ w0.heap.size) := ⟨rfl, by omega⟩
  clear hown hrg0 hg0 hs0 HR HA
  obtain ⟨r, hr⟩ : ∃ r, r = w.heap.size := ⟨_, rfl⟩
  rw [← hr] at HS HW ⊢
  have HRW := hid hr
  clear hr
  go_loopw [5, 11] (fun u5 _ wr => ∃ (left : Lit → Bool) (cnt : Nat) (D : DataW Unit) (L : List Nat) (m cv : Nat) (Av : Option Addr), u5 = .slice Av m cv ∧ Hid (Us w mb r T f wr left cnt D L) ∧ Hid (Que wr (r + 1) 2 (.slice Av m cv) m (uc L)) ∧ Hid (r + 1 ≤ wr.heap.size))
    (fun _ _ wr => wr.rangeLeft mb r)
  case atStart => exact ⟨_, _, _, [], 0, 0, none, rfl, HS.out, Que.nil _ _ _, HW.out.2⟩
  case round =>
    clear HS HW
    obtain ⟨left, cnt, D, L, m, cv, Av, rfl, HU, HQ, HZ⟩ := hrel
    go_wp2_with (first
      | (at_next; refine wpList_next_kb rfl _ rfl mb r 2048 _ _ _ rfl HU.out.rg ?_ ?_)
      | go_in)
    · intro hl0
      have HE := hid (HU.out.done hl0)
      have hml : L.length = m := by
        have := HQ.out.1
        rw [uc_len] at this
        omega
      have hle := HU.out.le
      have HC := hid (sort_c (r + 1) m Av cv L wr HQ.out (by omega))
      have HL : Hid ((usl T f 2048).length = m) := by
        show _ = _
        rw [← HE.out, srt_len, hml]
      have HQb := hid (HQ.out.lt)
      clear hl0 hml hle HQ
      go_wp2_with fail
      refine HC.out.mono ?_
      rintro e w2 ⟨rfl, hq, hk⟩
      have HQ2 := hid hq
      have HK2 := hid hk
      clear hq hk
      go_wp2
      go_ret
      refine ⟨Av, cv, (by rw [HL.out]; rfl), ?_, ?_⟩
      · rw [HL.out, ← HE.out]
        exact Que.base HQ2.out (by have := HU.out.hr; omega)
      · exact but_own HU.out.kp HK2.out (fun i hi => by have := (HQb.out i hi).1; have := HU.out.hr; omega)
    · intro s p b w1 cnt1 i1 i2 hlx hat hrg1 hlt hg1 hen
      have hk1 : But [r] wr w1 := (But.refl [r] wr).grown hg1 (fun k hk => .inl (by injection hk with hk; simp [hk]))
      have HX := hid (HU.out.at_ HO.out i1 i2 hlx hat)
      have HS1 := hid (HU.out.step HX.out.1 HX.out.2 hlx hrg1 hlt hk1)
      have HQ1 := hid (HQ.out.keep hk1 (fun k hk => by have := (HQ.out.lt k hk).1; simp; omega))
      have HLT : Hid (cnt1 < cnt) := hlt
      have HZ1 : Hid (r + 1 ≤ w1.heap.size) := Nat.le_trans HZ.out hk1.size
      have HM : Hid (wr.rangeLeft mb r = cnt) := HU.out.rg.left_eq
      obtain ⟨fr, u⟩ := b
      clear i1 i2 hlx hat hrg1 hg1 hlt hk1 HU HQ HZ
      obtain ⟨g, hg⟩ : ∃ g, g = w1.heap.size := ⟨_, rfl⟩
      have hrA := new_range w1 [.int .i64 s, .int .i64 p] 61
      have hrB := new_range (w1.alloc (.cells #[.int .i64 s, .int .i64 p] 61)) [.int .i64 fr, .bool u] 36
      have hrA2 := range_keep (l := []) hrA ((But.refl [] _).alloc (.cells #[.int .i64 fr, .bool u] 36)) (by simp)
      have hsz : (w1.alloc (.cells #[.int .i64 s, .int .i64 p] 61)).heap.size = w1.heap.size + 1 := by simp
      rw [hsz, ← hg] at hrB
      rw [← hg] at hrA2
      have HRA := hid hrA2
      have HRB := hid hrB
      have HK2 := hid (((But.refl [] w1).alloc (.cells #[.int .i64 s, .int .i64 p] 61)).alloc (.cells #[.int .i64 fr, .bool u] 36))
      clear hrA hrB hrA2 hsz
      go_upto_region 5 with fail
      rw [← hg]
      clear hg
      generalize (w1.alloc (.cells #[.int .i64 s, .int .i64 p] 61)).alloc (.cells #[.int .i64 fr, .bool u] 36) = w2 at HRA HRB HK2 ⊢
      have hb0 := range_cells HRB.out 0 _ rfl
      have ha0 := range_cells HRA.out 0 _ rfl
      have ha1 := range_cells HRA.out 1 _ rfl
      simp only [Nat.zero_add] at hb0 ha0 ha1
      have HS2 := hid (HS1.out.keep HK2.out (by simp))
      have HQ2 := hid (HQ1.out.keep0 HK2.out)
      have HZ2 : Hid (r + 1 ≤ w2.heap.size) := Nat.le_trans HZ1.out HK2.out.size
      clear HS1 HQ1 HZ1 HRA HRB
      by_cases hfr : fr = f
      · subst hfr
        have hB : Hid ((fr == fr) = true) := by show _ = _; simp
        have HS3 : Hid (Us w mb r T fr w2 (fun z => left z && !z.sameKey (kl s p)) cnt1 D (L ++ [pl s p])) := by
          have := HS2.out
          rwa [if_pos hB.out] at this
        have hml : L.length = m := by
          have := HQ2.out.1
          rw [uc_len] at this
          omega
        have hle := HS3.out.le
        simp at hle
        obtain ⟨g', off', c', w5, hr5, hq5, hk5, ho5⟩ := que_push (P := Try.prog) 43 45 _ Try.underlying43 infoPair rfl (by decide) (by decide) HQ2.out [.int .i64 s, .int .i64 p] rfl (two_one s p) HZ2.out (by omega)
        have HR5 : Hid ((Builtin.append_ #[43, 43] 43 #[.slice Av m cv, .slice (some ⟨w2.heap.size, 0, none⟩) 1 1]).run Try.prog (w2.alloc (.cells #[.int .i64 s, .int .i64 p] 45)) = .ok (.slice (some ⟨g', off', none⟩) (m + 1) c') w5) := hr5
        have HQ5 : Hid (Que w5 (r + 1) 2 (.slice (some ⟨g', off', none⟩) (m + 1) c') (m + 1) (uc (L ++ [pl s p]))) := by
          show Que _ _ _ _ _ _
          rw [uc_app]
          simp only [uc, uc1, List.append_nil]
          rw [pl_div HX.out.1, pl_mod HX.out.1]
          exact hq5
        have HS5 := hid (HS3.out.keep hk5 (fun i hi => by have := (HQ2.out.lt i hi).1; omega))
        have HZ5 : Hid (r + 1 ≤ w5.heap.size) := Nat.le_trans HZ2.out hk5.size
        clear hr5 hq5 hk5 ho5 hml hle HS2 HS3 HQ2 HZ2
        go_wp2_with (first | (at_builtin; refine wpList_append_known _ rfl _ _ 43 rfl _ _ rfl rfl HR5.out ?_) | go_in)
        go_roundw
        case rel => exact ⟨_, _, _, _, _, _, _, rfl, HS5.out, HQ5.out, HZ5.out⟩
        case measure => rw [HS5.out.rg.left_eq, HM.out]; exact HLT.out
      · have hB : (fr == f) = false := by simpa using hfr
        have HS3 : Hid (Us w mb r T f w2 (fun z => left z && !z.sameKey (kl s p)) cnt1 D L) := by
          have := HS2.out
          rwa [if_neg (by simp [hfr])] at this
        clear HS2
        go_wp2
        go_roundw
        case rel => exact ⟨_, _, _, _, _, _, _, rfl, HS3.out, HQ2.out, HZ2.out⟩
        case measure => rw [HS3.out.rg.left_eq, HM.out]; exact HLT.out
theorem usl_no (f : Int) : usl no f 2048 = [] := usl_none 2048 (fun k _ => isF_none rfl)
set_option maxHeartbeats 1000000 in
theorem uses_none (v : Option Addr) (f : Int) (w : World) (h : Tv w v none no) :
    Calls Try.prog 13 #[.pointer v, .int .i64 f] w fun r w' => r = .returned (.slice none 0 0) ∧ But [] w w' := by
  have HA := hid (all_c v none no w h)
  have hrg := run_range_nilMap (P := Try.prog) w 54 _ _ Try.underlying54
  have hnx : ∀ ty, (Instr.next (.pointer (some ⟨w.heap.size, 0, none⟩)) false ty).run Try.prog (w.alloc (.mapIter none 0 #[] 0)) = _ := fun ty => run_next_nilMap _ ty 0 0 #[]
  have HK : Hid (But [] w (w.alloc (.mapIter none 0 #[] 0))) := (But.refl [] w).alloc _
  clear h
  go_enter Try.func13, Try.ntmps13
  go_wp2_with fail
  refine HA.out.mono ?_
  rintro r w1 ⟨rfl, rfl⟩
  go_wp2
  refine wp_loop_rounds 1 ?_
  rw [rounds_succ]
  go_wp2_with fail
  refine (Try.slices_SortFunc_none (α := Nat) none 0 _ _).mono ?_
  rintro r w1 ⟨rfl, rfl⟩
  go_wp2
  go_ret
  exact ⟨rfl, HK.out⟩
theorem uses_c (v : Option Addr) (mo : Option Nat) (T : Tb) (f : Int) (w : World) (h : Tv w v mo T) :
    Calls Try.prog 13 #[.pointer v, .int .i64 f] w (Ls w (usl T f 2048).length 2 (uc (usl T f 2048))) := by
  cases mo with
  | some mb => exact uses_some v mb T f w h
  | none =>
    obtain rfl : T = no := h.mo
    refine (uses_none v f w h).mono ?_
    rintro r w' ⟨rfl, k⟩
    rw [usl_no]
    exact ⟨none, 0, rfl, Que.nil _ _ _, k⟩
end Go.Proofs.Ytiklneamdfgahaa.Bd
