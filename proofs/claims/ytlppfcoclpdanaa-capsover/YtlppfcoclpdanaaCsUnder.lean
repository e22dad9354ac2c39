/-
  Layer 12 (caps): contracts of under, Over, over the translated program.
-/
import Derived.Test.YtlppfcoclpdanaaCsOver
namespace Go.Proofs.Ytlppfcoclpdanaa.Cs
open Go.ChangeShapes Go.WideShapes Go.ChangeAt Go.RowKit
open Wh Sn
set_option linter.unusedVariables false
set_option maxRecDepth 20000

/-- Another row's numbers behind an own one. -/
theorem que_app {w : World} {base base' n k cv : Nat} {A : Option Addr} {v : Value} {xs ys : List Nat} (h : Que w base 1 v n (ic xs)) (h' : Que w base' 1 (.slice A k cv) k (ic ys)) (hn : n ≤ 100000) (hk : k ≤ 100000) (hb : base ≤ w.heap.size) :
    ∃ A' c' w', (Builtin.append_ #[82, 82] 82 #[v, .slice A k cv]).run Try.prog w = .ok (.slice A' (n + k) c') w' ∧ Que w' base 1 (.slice A' (n + k) c') (n + k) (ic (xs ++ ys)) ∧ But v.ownBlock.toList w w' := by
  obtain ⟨i0, hi, hz0, hz1, hz2⟩ := info_parts Cs.Try.infoInt
  have hs : Src Try.prog 1 82 (.slice A k cv) k (ic ys) w := by
    rcases h'.2 with ⟨e, rfl⟩ | ⟨g, off, cap, e, _, _, _, _, _, hr⟩
    · injection e with e1 e2 e3
      subst e1; subst e3
      have : ys = [] := List.eq_nil_of_length_eq_zero (by have := h'.1; rw [ic_len] at this; omega)
      subst this
      exact Src.ofNil w Try.underlying82 0
    · injection e with e1 e2 e3
      subst e1; subst e3
      refine Src.ofSlice w Try.underlying82 ⟨g, off, none⟩ k cv (ic ys) h'.1 (fun j u hu => ?_) (ic_one ys)
      rw [Addr.add_mid]
      exact hr j u hu
  obtain ⟨v', w', hr, hq, hk', ho⟩ := run_append_que (P := Try.prog) w base 82 82 3 i0 _ 1 8 Try.underlying82 hi hz0 hz1 hz2 rfl (by decide) v n _ h (.slice A k cv) k (ic ys) hs (by unfold maxLen; omega) (by omega) hb
  obtain ⟨A', c', rfl, _⟩ := hq.form
  exact ⟨A', c', w', hr, by rw [ic_app]; exact hq, hk'⟩
/-- What under ends in. -/
def Owns (w : World) (T : Tr) (a : Nat) (e : Ending) (w' : World) : Prop :=
  ∃ L A n c, e = .returned (.slice A n c) ∧ Que w' w.heap.size 1 (.slice A n c) n (ic L) ∧ But [] w w' ∧ L.Nodup ∧ ∀ x, x ∈ L ↔ und T a x = true
set_option maxHeartbeats 2000000 in
theorem under_c (b m : Nat) (Z : List Nat) (T : Tr) (f : Nat → Value) (a : Nat) (w : World) (h : TrAt w b Z T m f) (hW : Wf T m) :
    Calls Try.prog 45 #[.pointer (some ⟨b, 0, none⟩), .int .i64 a] w (Owns w T a) := by
  have H := hid h
  have HW := hid hW
  clear h hW
  go_enter Try.func45, Try.ntmps45
  go_wp2_with fail
  refine (derived_c b m Z T f a w H.out).mono ?_
  rintro e w2 ⟨A, n, c, rfl, hq2, k2⟩
  have HQ2 := hid hq2
  have HK2 := hid k2
  have HF2 := hid (Bf.start HW.out a)
  clear hq2 k2
  go_wp2
  go_loopg [5, 6] 65 (fun g0 v i wx => ∃ (k q cv : Nat) (Av : Option Addr) (L : List Nat), k + g0 = 65 ∧ k ≤ q ∧ i = .int .i64 k ∧ v = .slice Av q cv ∧ Hid (Que wx w.heap.size 1 (.slice Av q cv) q (ic L)) ∧ Hid (Bf T a L k) ∧ Hid (But [] w wx))
  case atStart => exact ⟨0, n, c, A, _, by omega, by omega, rfl, rfl, HQ2.out, HF2.out, HK2.out⟩
  case round =>
    obtain ⟨k, q, cv, Av, L, hkg, hk, rfl, rfl, HQ, HF, HB⟩ := hrel
    obtain ⟨hq, hat⟩ := que_at HQ.out
    have hq64 : q ≤ 64 := by have := HF.out.len HW.out; omega
    by_cases hlt : k < q
    · have hkI : (k : Int) < (q : Int) := by omega
      obtain ⟨ga, oa, rfl, _, hga, hca⟩ := hat k hlt
      have HF3 := hid (HF.out.step HW.out (show k < L.length by omega))
      generalize L.getD k 0 = p at hca HF3
      clear hat hga hq
      go_wp2_with fail
      refine (derived_c b m Z T f p wr (H.out.keep0 HB.out)).mono ?_
      rintro e w3 ⟨A3, n3, c3, rfl, hq3, k3⟩
      have hn3 : n3 ≤ 64 := by
        have h1 := (que_at hq3).1
        have := nums_le (kid T p) 64
        change (kids T p).length ≤ 64 at this
        omega
      obtain ⟨A5, c5, w5, hr5, hq5, hk5⟩ := que_app (HQ.out.keep0 k3) hq3 (by omega) (by omega) (HB.out.trans k3).size
      have HR5 := hid hr5
      have HQ5 := hid hq5
      have HB5 := hid (but_own (HB.out.trans k3) hk5 (fun i hi => (HQ.out.lt i hi).1))
      clear hr5 hq5 hk5 hq3 k3 hca hn3 HQ HB HF
      go_wp2_with (first | (at_builtin; refine wpList_append_known _ rfl _ _ 82 rfl _ _ rfl rfl HR5.out ?_))
      go_roundg (65 - (k + 1))
      case measure => omega
      case rel => exact ⟨k + 1, q + n3, c5, A5, _, by omega, by omega, by go_num, rfl, HQ5.out, HF3.out, HB5.out⟩
    · obtain rfl : k = q := by omega
      have HL : Hid (k = L.length) := hq
      clear hq hat
      go_wp2
      go_ret
      exact ⟨L, _, _, _, rfl, HQ.out, HB.out, HF.out.nd, HF.out.done HW.out HL.out⟩
end Go.Proofs.Ytlppfcoclpdanaa.Cs
