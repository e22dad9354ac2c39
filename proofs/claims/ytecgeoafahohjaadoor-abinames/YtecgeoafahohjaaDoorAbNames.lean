/-
  Layer 14 (abi): the contract of Names, over the translated program.
-/
import Derived.Test.YtecgeoafahohjaaDoorAbBase
import Derived.Test.YtecgeoafahohjaaDoorWhole
import Derived.Deep.LoopGhost
namespace Go.Proofs.YtecgeoafahohjaaDoor.Ab
open Go.ChangeShapes Go.WideShapes Go.ChangeAt Go.RowKit
open Wh
set_option linter.unusedVariables false
set_option maxRecDepth 20000

theorem Tryd.infoName : (Tryd.prog.info? 39).map (fun i => (i.zero, i.size, i.bytes)) = some (some (.agg #[.int .i64 0, .int .i64 0]), 2, 16) := by kernel_rfl
theorem one_name (p : Nm) : ∀ v ∈ [Value.int .i64 p.1, .int .i64 p.2], v.oneCell' = true := by
  intro v hv
  simp only [List.mem_cons, List.not_mem_nil, or_false] at hv
  rcases hv with rfl | rfl <;> rfl
theorem idx_str (l : Ls) (j : Nat) (hj : j < l.length) (w : World) : (Instr.index 9 (.string (sv l)) (.int .i64 (j : Int))).run Tryd.prog w = .ok (.int .u8 (ch l j)) w := by
  have h : 0 ≤ (j : Int) ∧ (j : Int) < (sv l).size := by rw [sv_size]; omega
  rw [run_index_string w 9 (sv l) .i64 j Tryd.underlying9, dif_pos h]
  congr 2
  unfold ch
  rw [List.getD_eq_getElem?_getD, List.getElem?_eq_getElem hj]
  rfl
theorem que_lower {w : World} {base base' size n : Nat} {v : Value} {xs : List Value} (h : Que w base size v n xs) (hb : base' ≤ base) : Que w base' size v n xs := by
  refine ⟨h.1, ?_⟩
  rcases h.2 with h0 | ⟨g, off, cap, rfl, hb', hg, hr⟩
  · exact .inl h0
  · exact .inr ⟨g, off, cap, rfl, by omega, hg, hr⟩
set_option maxHeartbeats 1000000 in
theorem names_c (x : Int) (w : World) (h : NumOk w) : Calls Tryd.prog 13 #[.int .i64 x] w fun e w' => ∃ A n c, e = .returned (.slice A n c) ∧ Que w' w.heap.size 2 (.slice A n c) n (nc (nms (lt x))) ∧ But [] w w' := by
  have HO := hid h
  obtain ⟨l, hl⟩ : ∃ l, l = lt x := ⟨_, rfl⟩
  have h4 := lt_four x
  rw [← hl] at h4
  have HL := hid hl
  obtain ⟨n, hn⟩ : ∃ n, n = l.length := ⟨_, rfl⟩
  have hsz : (sv l).size = n := by rw [sv_size, hn]
  rw [← hn] at h4
  have HN := hid hn
  clear h hl hn
  go_enter Tryd.func13, Tryd.ntmps13
  go_wp2_with fail
  refine (letters_c x _ HO.out).mono ?_
  rw [← HL.out]
  rintro e w1 ⟨rfl, rfl⟩
  go_wp2
  go_loopg [4, 12] (n + 1) (fun g0 v i wx => ∃ (k q cv : Nat) (Av : Option Addr), k + g0 = n + 1 ∧ k ≤ n ∧ i = .int .i64 k ∧ v = .slice Av q cv ∧ Hid (Que wx w.heap.size 2 (.slice Av q cv) q (nc (nmN l k))) ∧ Hid (But [] w wx))
  case atStart => exact ⟨0, 0, 0, none, by omega, by omega, rfl, rfl, Que.nil _ _ _, But.refl _ _⟩
  case round =>
    obtain ⟨k, q, cv, Av, hkg, hk, rfl, rfl, HQ, HB⟩ := hrel
    by_cases hlt : k < n
    · have hkI : (k : Int) < (n : Int) := by omega
      have hix := idx_str l k (by have := HN.out; omega)
      have hq4 : q ≤ 4 := by
        have := HQ.out.1
        rw [nc_len] at this
        have := nmN_len l k
        omega
      obtain ⟨c, hc⟩ : ∃ c, c = ch l k := ⟨_, rfl⟩
      rw [← hc] at hix
      have HC := hid hc
      clear hc
      go_wp2_with fail
      refine (kindOf_c c _).mono ?_
      rintro e w2 ⟨⟨kk, rfl, hkk⟩, rfl⟩
      by_cases hkd : 0 ≤ kd c
      · obtain rfl := hkk hkd
        have hsn := nmN_yes (l := l) (i := k) (by rw [← HC.out]; exact hkd)
        rw [← HC.out] at hsn
        have hsn2 : nc (nmN l (k + 1)) = nc (nmN l k) ++ [.int .i64 (k : Int), .int .i64 (kd c)] := by rw [hsn, nc_app]; rfl
        have hd : decide (0 ≤ kd c) = true := decide_eq_true hkd
        rw [hd]
        obtain ⟨g', off', c', w5, hr5, hq5, hk5, ho5⟩ := que_push (P := Tryd.prog) 36 39 _ Tryd.underlying36 Tryd.infoName rfl (by decide) (by decide) HQ.out [.int .i64 (k : Int), .int .i64 (kd c)] rfl (one_name (k, kd c)) HB.out.size (by omega)
        rw [← hsn2] at hq5
        have HQ5 := hid hq5
        have HB5 : Hid (But [] w w5) := but_own HB.out hk5 (fun i hi => (HQ.out.lt i hi).1)
        have HR5 := hid hr5
        clear hr5 hq5 hk5 ho5 hsn hsn2 HQ hd hkd hkk
        go_wp2_with (first | (at_builtin; refine wpList_append_known _ rfl _ _ 36 rfl _ _ rfl rfl HR5.out ?_))
        go_roundg (n + 1 - (k + 1))
        case measure => omega
        case rel => exact ⟨k + 1, _, _, _, by omega, by omega, by go_num, rfl, HQ5.out, HB5.out⟩
      · have hsn := nmN_no (l := l) (i := k) (by rw [← HC.out]; omega)
        have hd : decide (0 ≤ kd c) = false := decide_eq_false hkd
        rw [hd]
        have HS := hid hsn
        clear hsn hkk hkd hd
        go_wp2
        go_roundg (n + 1 - (k + 1))
        case measure => omega
        case rel => exact ⟨k + 1, _, _, _, by omega, by omega, by go_num, rfl, by show Que _ _ _ _ _ _; rw [HS.out]; exact HQ.out, HB.out⟩
    · obtain rfl : k = n := by omega
      go_wp2
      go_ret
      refine ⟨_, _, _, rfl, ?_, HB.out⟩
      have := HQ.out
      rw [HN.out] at this
      rw [← HL.out]
      exact this
end Go.Proofs.YtecgeoafahohjaaDoor.Ab
