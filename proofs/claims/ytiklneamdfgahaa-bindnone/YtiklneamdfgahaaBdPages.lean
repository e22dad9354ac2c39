/-
  Layer 15 (bind): the contract of Pages, and of Drop, over the translated program.
-/
import Derived.Test.YtiklneamdfgahaaBdBase
import Derived.Test.YtiklneamdfgahaaWhole
namespace Go.Proofs.Ytiklneamdfgahaa.Bd
open Go.ChangeShapes Go.WideShapes Go.ChangeAt Go.RowKit
open Wh
set_option linter.unusedVariables false
set_option maxRecDepth 20000

/-- A call answers a list of its own. -/
def Ls (w : World) (n size : Nat) (xs : List Value) (e : Ending) (w' : World) : Prop := ∃ A c, e = .returned (.slice A n c) ∧ Que w' w.heap.size size (.slice A n c) n xs ∧ But [] w w'
theorem Try.infoInt : (Try.prog.info? 3).map (fun i => (i.zero, i.size, i.bytes)) = some (some (.int .i64 0), 1, 8) := by kernel_rfl
theorem gtb_some {T : Tb} {s p : Int} {b : Fw} (h : gt T s p = some b) : gtb T s p = true ∧ gtv T s p = b := by unfold gtb gtv; rw [h]; exact ⟨rfl, rfl⟩
theorem gtb_none {T : Tb} {s p : Int} (h : gt T s p = none) : gtb T s p = false ∧ gtv T s p = (0, false) := by unfold gtb gtv; rw [h]; exact ⟨rfl, rfl⟩
set_option maxHeartbeats 2000000 in
theorem pages_c (v : Option Addr) (mo : Option Nat) (T : Tb) (s : Int) (w : World) (h : Tv w v mo T) (h1 : I64 s) :
    Calls Try.prog 11 #[.pointer v, .int .i64 s] w (Ls w (pgl T s 32).length 1 (ic (pgl T s 32))) := by
  have H := hid h
  have HS := hid h1
  clear h h1
  go_enter Try.func11, Try.ntmps11
  go_wp2
  go_loopg [5, 9] 33 (fun g0 v i wx => ∃ (k m cv : Nat) (Av : Option Addr), k + g0 = 33 ∧ k ≤ 32 ∧ m ≤ k ∧ i = .int .i64 k ∧ v = .slice Av m cv ∧ Hid (Que wx w.heap.size 1 (.slice Av m cv) m (ic (pgl T s k))) ∧ Hid (But [] w wx))
  case atStart => exact ⟨0, 0, 0, none, by omega, by omega, by omega, rfl, rfl, by show Que _ _ _ _ _ _; rw [show pgl T s 0 = [] by unfold pgl; rfl]; exact Que.nil _ _ _, But.refl _ _⟩
  case round =>
    obtain ⟨k, m, cv, Av, hkg, hk, hmk, rfl, rfl, HQ, HB⟩ := hrel
    by_cases hlt : k < 32
    · have hkI : (k : Int) < 32 := by omega
      have HL := hid (pgl_succ T s k)
      have HG := hid (get_c v mo T s k wr (H.out.keep0 HB.out) HS.out (i64_small (by omega) (by omega)))
      cases hb : gt T s (k : Int) with
      | some b =>
        obtain ⟨e1, e2⟩ := gtb_some hb
        rw [e1, e2] at HG
        rw [hb] at HL
        have HL' : Hid (pgl T s (k + 1) = pgl T s k ++ [k]) := by show _ = _; rw [HL.out]; rfl
        obtain ⟨f, u⟩ := b
        clear hb e1 e2 HL
        go_wp2_with fail
        refine HG.out.mono ?_
        rintro r w1 ⟨rfl, k1⟩
        have HB1 := hid ((HB.out.trans k1).alloc (.cells #[.int .i64 f, .bool u] 36))
        have HQ1 := hid (HQ.out.keep0 (k1.alloc (.cells #[.int .i64 f, .bool u] 36)))
        clear k1 HG
        go_upto_region 7 with fail
        generalize w1.alloc (.cells #[.int .i64 f, .bool u] 36) = w2 at *
        obtain ⟨g', off', c', w5, hr5, hq5, hk5, ho5⟩ := que_push (P := Try.prog) 41 3 _ Try.underlying41 Bd.Try.infoInt rfl (by decide) (by decide) HQ1.out (ic [k]) rfl (ic_one _) HB1.out.size (by omega)
        have HR5 : Hid ((Builtin.append_ #[41, 41] 41 #[.slice Av m cv, .slice (some ⟨w2.heap.size, 0, none⟩) 1 1]).run Try.prog (w2.alloc (.cells #[.int .i64 k] 3)) = .ok (.slice (some ⟨g', off', none⟩) (m + 1) c') w5) := hr5
        have HQ5 : Hid (Que w5 w.heap.size 1 (.slice (some ⟨g', off', none⟩) (m + 1) c') (m + 1) (ic (pgl T s (k + 1)))) := by
          show Que _ _ _ _ _ _
          rw [HL'.out, ic_app]
          exact hq5
        have HB5 := hid (but_own HB1.out hk5 (fun i hi => (HQ1.out.lt i hi).1))
        clear hr5 hq5 hk5 ho5 HQ HB HQ1 HB1 HL'
        go_wp2_with (first | (at_builtin; refine wpList_append_known _ rfl _ _ 41 rfl _ _ rfl rfl HR5.out ?_))
        go_roundg (33 - (k + 1))
        case measure => omega
        case rel => exact ⟨k + 1, _, _, _, by omega, by omega, by omega, by go_num, rfl, HQ5.out, HB5.out⟩
      | none =>
        obtain ⟨e1, e2⟩ := gtb_none hb
        rw [e1, e2] at HG
        rw [hb] at HL
        have HL' : Hid (pgl T s (k + 1) = pgl T s k) := by show _ = _; rw [HL.out]; simp
        clear hb e1 e2 HL
        go_wp2_with fail
        refine HG.out.mono ?_
        rintro r w1 ⟨rfl, k1⟩
        have HB1 := hid ((HB.out.trans k1).alloc (.cells #[.int .i64 0, .bool false] 36))
        have HQ1 : Hid (Que (w1.alloc (.cells #[.int .i64 0, .bool false] 36)) w.heap.size 1 (.slice Av m cv) m (ic (pgl T s (k + 1)))) := by
          show Que _ _ _ _ _ _
          rw [HL'.out]
          exact HQ.out.keep0 (k1.alloc (.cells #[.int .i64 0, .bool false] 36))
        clear k1 HG HQ HB HL'
        go_wp2
        go_roundg (33 - (k + 1))
        case measure => omega
        case rel => exact ⟨k + 1, m, cv, Av, by omega, by omega, by omega, by go_num, rfl, HQ1.out, HB1.out⟩
    · obtain rfl : k = 32 := by omega
      go_wp2
      go_ret
      have hl := HQ.out.1
      rw [ic_len, Nat.mul_one] at hl
      rw [hl]
      exact ⟨Av, cv, rfl, HQ.out, HB.out⟩
/-- Drop of one page. -/
theorem drop1_c (b : Nat) (mo : Option Nat) (T : Tb) (s p : Int) (w : World) (h : TbAt w b mo T) (h1 : I64 s) (h2 : I64 p) :
    Calls Try.prog 19 #[.pointer (some ⟨b, 0, none⟩), .int .i64 s, .int .i64 p] w fun r w' => r = .returned (.bool (gtb T s p)) ∧ Lf b mo (dl T s p) w w' := by
  have HG := hid (get_c _ mo T s p w (Tv.at_ h) h1 h2)
  have H := hid h
  have HI := hid (And.intro h1 h2)
  clear h h1 h2
  generalize gtv T s p = x at HG
  obtain ⟨f, u⟩ := x
  go_enter Try.func19, Try.ntmps19
  go_wp2_with fail
  refine HG.out.mono ?_
  rintro r w1 ⟨rfl, k1⟩
  have HK := hid (k1.alloc (.cells #[.int .i64 f, .bool u] 36))
  clear k1 HG
  go_upto_region 2 with fail
  generalize w1.alloc (.cells #[.int .i64 f, .bool u] 36) = w2 at *
  have H2 := hid (H.out.keep0 HK.out)
  obtain ⟨w3, hrun, hmo, hbut⟩ := del_run H2.out.map HI.out.1 HI.out.2 0
  have HRUN := hid hrun
  have HW : Hid (Lf b mo (dl T s p) w w3) := by
    have hne : b ∉ mo.toList := by
      intro hm
      simp at hm
      exact H2.out.ne b hm rfl
    refine ⟨mo, ⟨cell_keep H2.out.cell hbut hne, (hbut.frozen (p := ⟨b, 0, none⟩) H2.out.lt hne).trans H2.out.free, hmo, H2.out.ok.drop s p, H2.out.ne⟩, ?_, fun m hm => .inl hm⟩
    exact (HK.out.any _).trans (hbut.wider (fun k hk => by simp at hk ⊢; exact .inr hk))
  clear hrun hmo hbut
  go_wp2_with (first
    | (go_at_call 23; refine (all_c _ mo T _ (Tv.at_ H2.out)).mono ?_; rintro r w4 ⟨rfl, rfl⟩)
    | (at_delete; refine wpList_delete_known _ rfl _ _ 54 61 rfl _ _ rfl rfl HRUN.out ?_))
  go_ret
  exact ⟨rfl, HW.out⟩
/-- .. of a nil table. -/
theorem drop1_nil (s p : Int) (w : World) (h1 : I64 s) (h2 : I64 p) :
    Calls Try.prog 19 #[.pointer none, .int .i64 s, .int .i64 p] w fun r w' => r = .returned (.bool false) ∧ But [] w w' := by
  have HG := hid (get_c _ none no s p w (Tv.nil w) h1 h2)
  rw [(gtb_none (gt_no s p)).1, (gtb_none (gt_no s p)).2] at HG
  have HI := hid (And.intro h1 h2)
  clear h1 h2
  go_enter Try.func19, Try.ntmps19
  go_wp2_with fail
  refine HG.out.mono ?_
  rintro r w1 ⟨rfl, k1⟩
  have HK := hid (k1.alloc (.cells #[.int .i64 0, .bool false] 36))
  clear k1 HG
  go_upto_region 2 with fail
  generalize w1.alloc (.cells #[.int .i64 0, .bool false] 36) = w2 at *
  have HRUN := fun ty => Maps.drop_nil (P := Try.prog) (w := w2) keyed Try.underlying54 (key_of HI.out.1 HI.out.2) ty
  have HR := hid HRUN
  clear HRUN
  go_wp2_with (first
    | (go_at_call 23; refine (all_c none none no _ (Tv.nil _)).mono ?_; rintro r w4 ⟨rfl, rfl⟩)
    | (at_delete; refine wpList_delete_known _ rfl _ _ 54 61 rfl _ _ rfl rfl (HR.out _) ?_))
  go_ret
  exact ⟨rfl, HK.out⟩
end Go.Proofs.Ytiklneamdfgahaa.Bd
