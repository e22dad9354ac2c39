/-
  Layer 17 (abort): the contract of split, over the translated program.
-/
import Derived.Test.YtfopmdiepaonnaaAoPred
namespace Go.Proofs.Ytfopmdiepaonnaa.Ao
open Go.ChangeShapes Go.WideShapes Go.ChangeAt Go.RowKit
open Wh
set_option linter.unusedVariables false
set_option maxRecDepth 20000

/-- Two rows lie in two blocks. -/
def Dj (A1 A2 : Option Addr) : Prop := ∀ a b, A1 = some a → A2 = some b → a.block ≠ b.block
theorem Dj.symm {A1 A2 : Option Addr} (h : Dj A1 A2) : Dj A2 A1 := fun a b ha hb e => h b a hb ha e.symm
/-- One want more behind a row, beside another row. -/
theorem push_two {wT' : TypeId} {sT : TypeId} (hu : Try.prog.underlying sT = some (.slice wT')) (hi : (Try.prog.info? wT').map (fun i => (i.zero, i.size, i.bytes)) = some (some (.agg #[.int .i64 0, .int .i64 0, .int .i64 0, .int .i64 0]), 4, 32))
    {w : World} {base m1 m2 c1 c2 : Nat} {A1 A2 : Option Addr} {L1 L2 : List Wn} (x y z t : Int) (h1 : Que w base 4 (.slice A1 m1 c1) m1 (wl L1)) (h2 : Que w base 4 (.slice A2 m2 c2) m2 (wl L2)) (hd : Dj A1 A2) (hb : base ≤ w.heap.size) (hm : m1 ≤ 100000) :
    ∃ A' c' w', (Builtin.append_ #[sT, sT] sT #[.slice A1 m1 c1, .slice (some ⟨w.heap.size, 0, none⟩) 1 1]).run Try.prog (w.alloc (.cells #[.int .i64 x, .int .i64 y, .int .i64 z, .int .i64 t] wT')) = .ok (.slice A' (m1 + 1) c') w' ∧
      Que w' base 4 (.slice A' (m1 + 1) c') (m1 + 1) (wl (L1 ++ [⟨x, y, z, t⟩])) ∧ Que w' base 4 (.slice A2 m2 c2) m2 (wl L2) ∧ Dj A' A2 ∧ ∀ u, But [] u w → u.heap.size ≤ base → But [] u w' := by
  obtain ⟨g', off', c', w5, hr5, hq5, hk5, ho5⟩ := que_push (P := Try.prog) sT wT' _ hu hi rfl (by decide) (by decide) h1 (Wn.vs ⟨x, y, z, t⟩) rfl (vs_one _) hb hm
  refine ⟨some ⟨g', off', none⟩, c', w5, hr5, by rw [wl_app]; exact hq5, h2.keep hk5 (fun k hk hk1 => ?_), fun a b ha hb' => ?_, fun u hu hub => but_own hu hk5 (fun i hi => Nat.le_trans hub (h1.lt i hi).1)⟩
  · cases A1 with
    | none => simp [Value.ownBlock] at hk1
    | some a =>
      cases A2 with
      | none => simp [Value.ownBlock] at hk
      | some b =>
        have := hd a b rfl rfl
        simp [Value.ownBlock] at hk hk1
        omega
  · injection ha with ha
    subst ha
    subst hb'
    have hlt := (h2.lt b.block (by simp [Value.ownBlock])).2
    show g' ≠ b.block
    rcases ho5 with ho | ho
    · cases A1 with
      | none => simp [Value.ownBlock] at ho
      | some a =>
        have := hd a b rfl rfl
        simp [Value.ownBlock] at ho
        omega
    · omega
/-- What a call answers that tells the wants that are meant, and the others. -/
def Sp (sz : Nat) (l : List Wn) (p : Wn → Bool) (w : World) (e : Ending) (w' : World) : Prop :=
  ∃ (A1 A2 : Option Addr) (c1 c2 : Nat), e = .returned (.tuple #[.slice A1 (l.filter p).length c1, .slice A2 (l.filter fun a => !p a).length c2]) ∧
    Que w' sz 4 (.slice A1 (l.filter p).length c1) (l.filter p).length (wl (l.filter p)) ∧ Que w' sz 4 (.slice A2 (l.filter fun a => !p a).length c2) (l.filter fun a => !p a).length (wl (l.filter fun a => !p a)) ∧ But [] w w'
set_option maxHeartbeats 4000000 in
theorem split_c (A : Option Addr) (n c gf : Nat) (cb : Array Value) (p : Wn → Bool) (l : List Wn) (w : World) (h : Li w A l) (hn : l.length = n) (hm : n ≤ 100) (hp : Pd gf cb p w) :
    Calls Try.prog 25 #[.slice A n c, .func (.func gf) #[] cb] w (Sp w.heap.size l p w) := by
  have HL := hid h
  have HN := hid hn
  have HP := hid hp
  have eg := hp.eg
  have hzw : ∀ w, (zeroValue wT).run Try.prog w = .ok (.agg #[.int .i64 0, .int .i64 0, .int .i64 0, .int .i64 0]) w := fun w => by kernel_rfl
  clear h hn hp
  go_enter Try.func25, Try.ntmps25
  go_wp2
  go_loopg [4, 5, 10] (n + 1) (fun g0 u4 u5 i wx => ∃ (j m1 m2 c1 c2 : Nat) (A1 A2 : Option Addr), j + g0 = n + 1 ∧ j ≤ n ∧ m1 ≤ j ∧ m2 ≤ j ∧ i = .int .i64 j ∧ u4 = .slice A1 m1 c1 ∧ u5 = .slice A2 m2 c2 ∧
    Hid (Que wx w.heap.size 4 (.slice A1 m1 c1) m1 (wl ((l.take j).filter p))) ∧ Hid (Que wx w.heap.size 4 (.slice A2 m2 c2) m2 (wl ((l.take j).filter fun a => !p a))) ∧ Hid (Dj A1 A2) ∧ Hid (But [] w wx))
  case atStart => exact ⟨0, 0, 0, 0, 0, none, none, by omega, by omega, by omega, by omega, rfl, rfl, rfl, Que.nil _ _ _, Que.nil _ _ _, (fun a b ha => by cases ha), But.refl _ _⟩
  case round =>
    obtain ⟨j, m1, m2, c1, c2, A1, A2, hjg, hj, hm1, hm2, rfl, rfl, rfl, HQ1, HQ2, HD, HB⟩ := hrel
    by_cases hlt : j < n
    · have hlx : j < l.length := by have := HN.out; omega
      obtain ⟨g, off, hA, hg, hrow⟩ := HL.out.at_ hlx
      have hr := range_keep (hrow j hlx) HB.out (by simp)
      have HS1 := hid (filt_snoc p l j hlx)
      have HS2 := hid (filt_snoc (fun a => !p a) l j hlx)
      generalize l.getD j nw = a at hr HS1 HS2
      obtain ⟨x, y, z, t⟩ := a
      subst hA
      obtain ⟨h1, h2, h3, h4⟩ := four hr
      obtain ⟨B, hB⟩ : ∃ B, B = wr.heap.size := ⟨_, rfl⟩
      obtain ⟨w2, hw2⟩ : ∃ w2, w2 = wr.alloc (.cells #[.int .i64 x, .int .i64 y, .int .i64 z, .int .i64 t] wT) := ⟨_, rfl⟩
      have k2 : But [] wr w2 := by rw [hw2]; exact (But.refl [] wr).alloc _
      have hrB := new_range wr (Wn.vs ⟨x, y, z, t⟩) wT
      change (wr.alloc (.cells #[.int .i64 x, .int .i64 y, .int .i64 z, .int .i64 t] wT)).rangeAt _ _ _ at hrB
      rw [← hw2, ← hB] at hrB
      have HRB := hid hrB
      have HQ1' := hid (HQ1.out.keep0 k2)
      have HQ2' := hid (HQ2.out.keep0 k2)
      have HB2 := hid (HB.out.trans k2)
      have HC := hid (HP.out.tell w2 ⟨x, y, z, t⟩ HB2.out)
      clear hrow hlx hr hg hrB k2 HQ1 HQ2
      go_upto_region 4 with fail
      rw [← hw2, ← hB]
      clear h1 h2 h3 h4 hw2 hB
      obtain ⟨b1, b2, b3, b4⟩ := four HRB.out
      go_wp2_with fail
      refine HC.out.mono ?_
      rintro r w3 ⟨rfl, k3⟩
      have hb1 := cell_keep b1 k3 (by simp)
      have hb2 := cell_keep b2 k3 (by simp)
      have hb3 := cell_keep b3 k3 (by simp)
      have hb4 := cell_keep b4 k3 (by simp)
      have HQ1 := hid (HQ1'.out.keep0 k3)
      have HQ2 := hid (HQ2'.out.keep0 k3)
      have HB3 := hid (HB2.out.trans k3)
      clear k3 HC b1 b2 b3 b4 HQ1' HQ2'
      cases hv : p ⟨x, y, z, t⟩ with
      | true =>
        rw [hv] at HS1 HS2
        obtain ⟨A', c', w5, hr5, hq5, hq6, hd5, hk5⟩ := push_two Try.underlying42 infoWant x y z t HQ1.out HQ2.out HD.out HB3.out.size (by omega)
        have HR5 := hid hr5
        have HQ5 : Hid (Que w5 w.heap.size 4 (.slice A' (m1 + 1) c') (m1 + 1) (wl ((l.take (j + 1)).filter p))) := by show Que _ _ _ _ _ _; rw [HS1.out]; exact hq5
        have HQ6 : Hid (Que w5 w.heap.size 4 (.slice A2 m2 c2) m2 (wl ((l.take (j + 1)).filter fun a => !p a))) := by show Que _ _ _ _ _ _; rw [HS2.out]; exact hq6
        have HD5 := hid hd5
        have HB5 := hid (hk5 w HB3.out (Nat.le_refl _))
        clear hr5 hq5 hq6 hd5 hk5 hv HS1 HS2 HQ1 HQ2
        go_wp2_with (first | (at_builtin; refine wpList_append_known _ rfl _ _ 42 rfl _ _ rfl rfl HR5.out ?_))
        go_roundg (n + 1 - (j + 1))
        case measure => omega
        case rel => exact ⟨j + 1, _, _, _, _, _, _, by omega, by omega, by omega, by omega, by go_num, rfl, rfl, HQ5.out, HQ6.out, HD5.out, HB5.out⟩
      | false =>
        rw [hv] at HS1 HS2
        obtain ⟨A', c', w5, hr5, hq5, hq6, hd5, hk5⟩ := push_two Try.underlying42 infoWant x y z t HQ2.out HQ1.out HD.out.symm HB3.out.size (by omega)
        have HR5 := hid hr5
        have HQ5 : Hid (Que w5 w.heap.size 4 (.slice A' (m2 + 1) c') (m2 + 1) (wl ((l.take (j + 1)).filter fun a => !p a))) := by show Que _ _ _ _ _ _; rw [HS2.out]; exact hq5
        have HQ6 : Hid (Que w5 w.heap.size 4 (.slice A1 m1 c1) m1 (wl ((l.take (j + 1)).filter p))) := by show Que _ _ _ _ _ _; rw [HS1.out]; exact hq6
        have HD5 := hid hd5.symm
        have HB5 := hid (hk5 w HB3.out (Nat.le_refl _))
        clear hr5 hq5 hq6 hd5 hk5 hv HS1 HS2 HQ1 HQ2
        go_wp2_with (first | (at_builtin; refine wpList_append_known _ rfl _ _ 42 rfl _ _ rfl rfl HR5.out ?_))
        go_roundg (n + 1 - (j + 1))
        case measure => omega
        case rel => exact ⟨j + 1, _, _, _, _, _, _, by omega, by omega, by omega, by omega, by go_num, rfl, rfl, HQ6.out, HQ5.out, HD5.out, HB5.out⟩
    · obtain rfl : j = n := by omega
      have ht : l.take j = l := by rw [← HN.out]; exact List.take_length
      rw [ht] at HQ1 HQ2
      have e1 : m1 = (l.filter p).length := by have := HQ1.out.1; rw [wl_len] at this; omega
      have e2 : m2 = (l.filter fun a => !p a).length := by have := HQ2.out.1; rw [wl_len] at this; omega
      have HE := hid (And.intro e1 e2)
      clear ht e1 e2
      go_wp2
      go_ret2
      have e := HE.out
      exact ⟨A1, A2, c1, c2, by rw [← e.1, ← e.2]; rfl, by rw [← e.1]; exact HQ1.out, by rw [← e.2]; exact HQ2.out, HB.out⟩
end Go.Proofs.Ytfopmdiepaonnaa.Ao
