/-
  Layer 14 (abi): the contract of the statement about the names of calls, over the translated program.
-/
import Derived.Test.YtecgeoafahohjaaDoorAbAwake
import Derived.Test.YtecgeoafahohjaaDoorAbMore
import Derived.Test.YtecgeoafahohjaaDoorAbRight
import Derived.Test.YtecgeoafahohjaaDoorAbFlat
namespace Go.Proofs.YtecgeoafahohjaaDoor.Ab
open Go.ChangeShapes Go.WideShapes Go.ChangeAt Go.RowKit
open Wh
set_option linter.unusedVariables false
set_option maxRecDepth 20000

theorem fm_nms (x : Int) : nms (fm x) = nms (lt x) := by
  cases h : kn x with
  | true => rw [fm_yes h]
  | false => rw [fm_no h, lt_no h]; decide
theorem fm_four (x : Int) : (fm x).length ≤ 4 := by
  cases h : kn x with
  | true => rw [fm_yes h]; exact lt_four x
  | false => rw [fm_no h]; simp
/-- Where a row's names lie. -/
theorem que_name {w : World} {base n c : Nat} {A : Option Addr} {L : List Nm} (h : Que w base 2 (.slice A n c) n (nc L)) {j : Nat} (hj : j < n) :
    n = L.length ∧ ∃ (g off : Nat) (p : Nm), A = some ⟨g, off, none⟩ ∧ L[j]? = some p ∧ w.cell? ⟨g, off + j * 2, none⟩ = some (.int .i64 p.1) ∧ w.cell? ⟨g, off + j * 2 + 1, none⟩ = some (.int .i64 p.2) := by
  have hn : n = L.length := by have := h.1; rw [nc_len] at this; omega
  obtain ⟨g, off, cap, hv, -, -, -, hr⟩ := h.row (by omega)
  injection hv with h1 h2 h3
  have hp : L[j]? = some L[j] := List.getElem?_eq_getElem (by omega)
  obtain ⟨c1, c2⟩ := nc_get L j _ hp
  refine ⟨hn, g, off, L[j], h1, hp, hr _ _ c1, ?_⟩
  have := hr _ _ c2
  rwa [← Nat.add_assoc] at this
set_option maxHeartbeats 4000000 in
theorem lawn_c (x : Int) (w : World) (h : NumOk w) : Calls Tryd.prog 4 #[.int .i64 x] w fun e w' => e = .returned (.bool true) ∧ But [] w w' := by
  have HO := hid h
  obtain ⟨l, hl⟩ : ∃ l, l = fm x := ⟨_, rfl⟩
  have h4 := fm_four x
  rw [← hl] at h4
  have HL := hid hl
  obtain ⟨n, hn⟩ : ∃ n, n = l.length := ⟨_, rfl⟩
  have hsz : (sv l).size = n := by rw [sv_size, hn]
  rw [← hn] at h4
  have HN := hid hn
  have HM : Hid (nms (lt x) = nmN l n) := by show _ = _; rw [hn, ← fm_nms, ← hl]; rfl
  have HF : Hid (∀ wx : World, Calls Tryd.prog 10 #[.int .i64 x] wx fun e w' => e = .returned (.string (sv l)) ∧ But [] wx w') := fun wx => by rw [hl]; exact form_c x wx
  clear h hl hn
  go_enter Tryd.func4, Tryd.ntmps4
  go_wp2_with fail
  refine (HF.out _).mono ?_
  rintro e w1 ⟨rfl, k1⟩
  have HB1 := hid k1
  clear k1
  go_wp2
  go_loopg [4, 5] (n + 1) (fun g0 v i wx => ∃ (k q cv : Nat) (Av : Option Addr), k + g0 = n + 1 ∧ k ≤ n ∧ i = .int .i64 k ∧ v = .slice Av q cv ∧ Hid (Que wx w.heap.size 2 (.slice Av q cv) q (nc (nmN l k))) ∧ Hid (But [] w wx))
  case atStart => exact ⟨0, 0, 0, none, by omega, by omega, rfl, rfl, Que.nil _ _ _, HB1.out⟩
  case round =>
    obtain ⟨k, q, cv, Av, hkg, hk, rfl, rfl, HQ, HB⟩ := hrel
    by_cases hlt : k < n
    · have hkI : (k : Int) < (n : Int) := by omega
      have hix := idx_str l k (by have := HN.out; omega)
      have hq4 : q ≤ 4 := by
        have := HQ.out.1
        rw [nc_len] at this
        have := nmN_len l k
        omega
      obtain ⟨c, hc⟩ : ∃ c, c = ch l k := ⟨_, rfl⟩
      rw [← hc] at hix
      have HC := hid hc
      have HKC : Hid (∀ wx : World, Calls Tryd.prog 12 #[.int .u8 c] wx fun e w' => e = .returned (.int .i64 (kd c)) ∧ wx = w') := fun wx => kind_c c wx
      clear hc
      go_wp2_with fail
      refine (HKC.out _).mono ?_
      rintro e w2 ⟨rfl, rfl⟩
      by_cases hkd : 0 ≤ kd c
      · have hsn := nmN_yes (l := l) (i := k) (by rw [← HC.out]; exact hkd)
        rw [← HC.out] at hsn
        have hsn2 : nc (nmN l (k + 1)) = nc (nmN l k) ++ [.int .i64 (k : Int), .int .i64 (kd c)] := by rw [hsn, nc_app]; rfl
        have hd : decide (0 ≤ kd c) = true := decide_eq_true hkd
        obtain ⟨g', off', c', w5, hr5, hq5, hk5, ho5⟩ := que_push (P := Tryd.prog) 36 39 _ Tryd.underlying36 Tryd.infoName rfl (by decide) (by decide) HQ.out [.int .i64 (k : Int), .int .i64 (kd c)] rfl (one_name (k, kd c)) HB.out.size (by omega)
        rw [← hsn2] at hq5
        have HQ5 := hid hq5
        have HB5 : Hid (But [] w w5) := but_own HB.out hk5 (fun i hi => (HQ.out.lt i hi).1)
        have HR5 := hid hr5
        clear hr5 hq5 hk5 ho5 hsn hsn2 HQ
        generalize kd c = kk at *
        go_wp2_with fail
        refine (HKC.out _).mono ?_
        rintro e w2 ⟨rfl, rfl⟩
        go_wp2_with (first | (at_builtin; refine wpList_append_known _ rfl _ _ 36 rfl _ _ rfl rfl HR5.out ?_))
        go_roundg (n + 1 - (k + 1))
        case measure => omega
        case rel => exact ⟨k + 1, _, _, _, by omega, by omega, by go_num, rfl, HQ5.out, HB5.out⟩
      · have hsn := nmN_no (l := l) (i := k) (by rw [← HC.out]; omega)
        have hd : decide (0 ≤ kd c) = false := decide_eq_false hkd
        have HS := hid hsn
        clear hsn
        generalize kd c = kk at *
        go_wp2
        go_roundg (n + 1 - (k + 1))
        case measure => omega
        case rel => exact ⟨k + 1, _, _, _, by omega, by omega, by go_num, rfl, by show Que _ _ _ _ _ _; rw [HS.out]; exact HQ.out, HB.out⟩
    · obtain rfl : k = n := by omega
      go_wp2_with fail
      refine (names_c x _ (HO.out.keep0 HB.out)).mono ?_
      rintro e w2 ⟨A, m, cl, rfl, hq2, k2⟩
      rw [HM.out] at hq2
      have hqm : m = q := by
        have h1 := hq2.1
        have h2 := HQ.out.1
        omega
      subst hqm
      have hm4 : m ≤ 4 := by
        have := HQ.out.1
        rw [nc_len] at this
        have := nmN_len l k
        omega
      have HQ2 := hid hq2
      have HW2 : Hid (Que w2 w.heap.size 2 (.slice Av m cv) m (nc (nmN l k))) := HQ.out.keep0 k2
      have HB2 := hid (HB.out.trans k2)
      clear hq2 k2
      go_wp2
      go_loopg [7] (m + 1) (fun g0 i wx => ∃ j : Nat, j + g0 = m + 1 ∧ j ≤ m ∧ i = .int .i64 j ∧ Hid (But [] w2 wx))
      case atStart => exact ⟨0, by omega, by omega, rfl, But.refl _ _⟩
      case round =>
        obtain ⟨j, hjg, hj, rfl, HX⟩ := hrel
        by_cases hjm : j < m
        · obtain ⟨-, g1, o1, p, rfl, hp, c1, c2⟩ := que_name (HQ2.out.keep0 HX.out) hjm
          obtain ⟨-, g2, o2, p', rfl, hp', c3, c4⟩ := que_name (HW2.out.keep0 HX.out) hjm
          rw [hp] at hp'
          injection hp' with hp'
          subst hp'
          have hjI : (j : Int) < (m : Int) := by omega
          have hne := neqName p.1 p.2 p.1 p.2
          have hne' : (!((p.1 : Int) == (p.1 : Int) && p.2 == p.2)) = false := by simp
          rw [hne'] at hne
          clear hp hne'
          generalize ((p.1 : Nat) : Int) = pa at *
          generalize p.2 = pb at *
          go_wp2
          go_quiet (fail)
          go_wp2
          go_roundg (m + 1 - (j + 1))
          case measure => omega
          case rel => exact ⟨j + 1, by omega, by omega, by go_num, HX.out.drewN _⟩
        · obtain rfl : j = m := by omega
          have HB3 := hid (HB2.out.trans HX.out)
          have HOW : Hid (∀ wx : World, Calls Tryd.prog 14 #[.int .i64 x] wx fun e w' => e = .returned (.bool (owB x)) ∧ wx = w') := fun wx => own_c x wx
          have HCG : Hid (∀ wx : World, Calls Tryd.prog 15 #[.int .i64 x] wx fun e w' => e = .returned (.bool (cgB x)) ∧ wx = w') := fun wx => changes_c x wx
          have HRG : Hid (∀ wx : World, Calls Tryd.prog 16 #[.int .i64 x] wx fun e w' => e = .returned (.bool (cgB x)) ∧ wx = w') := fun wx => rchanges_c x wx
          generalize cgB x = cg at *
          clear h4 hsz hm4
          by_cases h33 : 33 ≤ x
          · have hd1 : decide (33 ≤ x) = true := decide_eq_true h33
            have HE : Hid (owB x = decide (x ≤ 40)) := by show _ = _; unfold owB; by_cases h : x ≤ 40 <;> simp [h33, h]
            rw [HE.out] at HOW
            go_wp2_with fail
            refine (HOW.out _).mono ?_
            rintro e w4 ⟨rfl, rfl⟩
            go_wp2_with fail
            refine (HCG.out _).mono ?_
            rintro e w4 ⟨rfl, rfl⟩
            go_wp2_with fail
            refine (HRG.out _).mono ?_
            rintro e w4 ⟨rfl, rfl⟩
            go_wp2_with fail
            refine (awake_c _ (HO.out.keep0 HB3.out)).mono ?_
            rintro e w5 ⟨rfl, k5⟩
            have HB5 := hid (HB3.out.trans k5)
            clear k5
            go_wp2
            go_ret
            exact ⟨rfl, HB5.out⟩
          · have hd1 : decide (33 ≤ x) = false := decide_eq_false h33
            have HE : Hid (owB x = false) := by show _ = _; unfold owB; simp; omega
            rw [HE.out] at HOW
            go_wp2_with fail
            refine (HOW.out _).mono ?_
            rintro e w4 ⟨rfl, rfl⟩
            go_wp2_with fail
            refine (HCG.out _).mono ?_
            rintro e w4 ⟨rfl, rfl⟩
            go_wp2_with fail
            refine (HRG.out _).mono ?_
            rintro e w4 ⟨rfl, rfl⟩
            go_wp2_with fail
            refine (awake_c _ (HO.out.keep0 HB3.out)).mono ?_
            rintro e w5 ⟨rfl, k5⟩
            have HB5 := hid (HB3.out.trans k5)
            clear k5
            go_wp2
            go_ret
            exact ⟨rfl, HB5.out⟩
end Go.Proofs.YtecgeoafahohjaaDoor.Ab
