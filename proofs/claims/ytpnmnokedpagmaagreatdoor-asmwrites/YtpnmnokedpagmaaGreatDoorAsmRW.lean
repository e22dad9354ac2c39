/-
  The document's own Write: words are written as they are spelt, a line a word.
-/
import Derived.Test.YtpnmnokedpagmaaGreatDoorAsmWrite
import Derived.Test.YtpnmnokedpagmaaGreatDoorAsmDig
namespace Go.Proofs.YtpnmnokedpagmaaGreatDoor
open Go.RowKit
set_option linter.unusedVariables false
set_option linter.unusedSimpArgs false
set_option maxRecDepth 20000

theorem line_word (u : Nat) (hd : decB (u : Int) = false) : lineW (u : Int) = [119, 111, 114, 100] ++ 32 :: Lib.decDigits u := by
  unfold lineW spell
  rw [if_neg (by rw [hd]; simp)]
  simp [joinB]
theorem line_ins (x : Int) (hd : decB x = true) : lineW x = joinB (opNames.getD (dopI x).toNat [] :: (optR (faB (dopI x)) (daI x) ++ (optR (fbB (dopI x)) (dbI x) ++ optI (fiB (dopI x)) (diI x)))) := by
  unfold lineW spell
  rw [if_pos hd]

set_option maxHeartbeats 4000000 in
theorem rwrite_c (A : Option Addr) (n c : Nat) (xs : List Int) (w : World) (hn : n = xs.length) (h60 : n ≤ 60) (hr : Rd .u32 w 0 w.heap.size A xs) (hx : ∀ x ∈ xs, 0 ≤ x ∧ x ≤ 4294967295) :
    Calls Tryz.prog 6 #[.slice A n c] w fun e w' => e = .returned (.string (BA (wrOf xs))) ∧ Below w.heap.size w w' := by
  have HN : Hid (n = xs.length) := hn
  have HR : Hid (Rd .u32 w 0 w.heap.size A xs) := hr
  have HX : Hid (∀ x ∈ xs, 0 ≤ x ∧ x ≤ 4294967295) := hx
  obtain ⟨nb, hnb⟩ : ∃ nb, nb = w.heap.size := ⟨_, rfl⟩
  have hK0 : Hid (But [] w (w.alloc (.cells namesV 9))) := (But.refl [] w).alloc _
  have hC0 : Hid (∀ o, o < 25 → (w.alloc (.cells namesV 9)).cell? ⟨nb, o, none⟩ = some (.string (BA (opNames.getD o [])))) := by
    show ∀ o, _ → _
    intro o ho
    have e : (opNames.map fun b => Value.string (BA b)) = namesV.toList := rfl
    rw [hnb, cell_of_row _ _ o namesV 9 (0, 0) (heap_alloc_last w _), ← Array.getElem?_toList, ← e, List.getElem?_map]
    have hl : o < opNames.length := ho
    simp [List.getD, hl]
  clear hn hr hx
  go_enter Tryz.func6, Tryz.ntmps6
  go_wp2
  change Code.wp _ _ _ _ (w.alloc (.cells namesV 9))
  rw [← hnb]
  generalize w.alloc (.cells namesV 9) = w0 at hK0 hC0 ⊢
  clear hnb
  go_loopg [4, 5] n (fun g0 sv i wx => ∃ (k : Nat) (S : ByteArray), sv = .string S ∧ k + g0 = n ∧ i = .int .i64 k ∧ Hid (S = BA (wrOf (xs.take k))) ∧ Hid (But [] w0 wx))
  case atStart => exact ⟨0, _, rfl, by omega, rfl, by show _ = _; rfl, But.refl _ _⟩
  case round =>
    obtain ⟨k, S, rfl, hkg, rfl, HS, HB⟩ := hrel
    by_cases hlt : k < n
    · have hkx : k < xs.length := by have := HN.out; omega
      obtain ⟨b, off, hA, _, hbl, hcell⟩ := HR.out.at_ hkx
      obtain ⟨x, hxx⟩ : ∃ x, x = xs.getD k 0 := ⟨_, rfl⟩
      have hmem : x ∈ xs := by rw [hxx]; simp [List.getD, hkx]
      obtain ⟨hx0, hx1⟩ := HX.out x hmem
      have hcx : wr.cell? ⟨b, off + k, none⟩ = some (.int .u32 x) := by rw [hxx]; exact cell_keep (cell_keep (hcell k hkx) hK0.out (by simp)) HB.out (by simp)
      have HTK : Hid (xs.take (k + 1) = xs.take k ++ [x]) := by
        show _ = _
        rw [List.take_add_one, hxx]
        simp [List.getD, hkx]
      obtain ⟨u, hu⟩ : ∃ u : Nat, x = u := ⟨x.toNat, by omega⟩
      subst hA
      clear hcell hmem hxx
      subst hu
      have hu32 : u ≤ 4294967295 := by omega
      have hSs : S.size ≤ 60 * 125 := by
        rw [HS.out, BA_size]
        have := wr_short (xs.take k) (fun y hy => HX.out y (List.mem_of_mem_take hy))
        rw [List.length_take] at this
        have h5 : min k xs.length * 125 ≤ 60 * 125 := Nat.mul_le_mul_right _ (by omega)
        omega
      cases hd : decB (u : Int) with
      | false =>
        have HV : Hid (vldD (u : Int) = false) := hd
        have HLW : Hid (lineW (u : Int) = [119, 111, 114, 100] ++ 32 :: Lib.decDigits u) := line_word u hd
        have hw64 : IntKind.i64.wrap (u : Int) = u := by rw [IntKind.wrap_i64]; omega
        clear hd
        go_wp2_with fail
        refine (rdecode_c (u : Int) _ (by omega) (by omega)).mono ?_
        rintro e w1 ⟨rfl, k1⟩
        rw [HV.out]
        have hcx1 : (w1.alloc (.cells #[.int .i64 (doR (u : Int)), .int .i64 (daR (u : Int)), .int .i64 (dbR (u : Int)), .int .i64 (diR (u : Int))] 71)).cell? ⟨b, off + k, none⟩ = some (.int .u32 (u : Int)) := cell_keep (cell_keep hcx (But.of_below (l := []) k1) (by simp)) ((But.refl [] w1).alloc _) (by simp)
        have HB1 : Hid (But [] w0 (w1.alloc (.cells #[.int .i64 (doR (u : Int)), .int .i64 (daR (u : Int)), .int .i64 (dbR (u : Int)), .int .i64 (diR (u : Int))] 71))) := (HB.out.trans (But.of_below k1)).alloc _
        clear k1 hcx HB
        go_wp2_with fail
        refine (digits_c u hu32 _).mono ?_
        rintro e w2 ⟨rfl, rfl⟩
        obtain ⟨D, hD⟩ : ∃ D, D = BA (Lib.decDigits u) := ⟨_, rfl⟩
        rw [← hD]
        have hDs : D.size ≤ 21 := by rw [hD, BA_size]; exact dd_short u hu32
        have HDD : Hid (D = BA (Lib.decDigits u)) := hD
        clear hD hcx1
        go_wp2
        go_roundg (n - (k + 1))
        case measure => omega
        case rel => exact ⟨k + 1, _, rfl, by omega, by go_num, by
          show _ = _
          rw [HTK.out, wr_snoc, HLW.out, HS.out, HDD.out]
          show ((BA _ ++ BA [119, 111, 114, 100, 32]) ++ BA _) ++ BA [10] = _
          rw [append_BA, append_BA, append_BA]
          simp, HB1⟩
      | true =>
        obtain ⟨⟨b1, b2⟩, ⟨b3, b4⟩, ⟨b5, b6⟩, ⟨b7, b8⟩⟩ := dec_bd hd
        have hv : vldD (u : Int) = true := hd
        have hL := line_ins (u : Int) hd
        have e1 : doR (u : Int) = dopI u := by simp [doR, hv]
        have e2 : daR (u : Int) = daI u := by simp [daR, hv]
        have e3 : dbR (u : Int) = dbI u := by simp [dbR, hv]
        have e4 : diR (u : Int) = diI u := by simp [diR, hv]
        have hdec := fun W => rdecode_c (u : Int) W (by omega) (by omega)
        rw [e1, e2, e3, e4, hv] at hdec
        obtain ⟨o, ho⟩ : ∃ o : Nat, dopI (u : Int) = o := ⟨(dopI (u : Int)).toNat, by omega⟩
        obtain ⟨ra, hra⟩ : ∃ r : Nat, daI (u : Int) = r := ⟨(daI (u : Int)).toNat, by omega⟩
        obtain ⟨rb, hrb⟩ : ∃ r : Nat, dbI (u : Int) = r := ⟨(dbI (u : Int)).toNat, by omega⟩
        obtain ⟨im, him⟩ : ∃ i : Int, diI (u : Int) = i := ⟨_, rfl⟩
        rw [ho, hra, hrb, him] at hdec hL
        rw [ho] at b1 b2
        rw [hra] at b3 b4
        rw [hrb] at b5 b6
        rw [him] at b7 b8
        have ho25 : o < 25 := by omega
        have ho25' : (o : Int) < 25 := by omega
        rw [show ((o : Int)).toNat = o by omega] at hL
        obtain ⟨nm, hnm⟩ : ∃ nm, nm = opNames.getD o [] := ⟨_, rfl⟩
        have hnl : nm.length ≤ 30 := by rw [hnm]; exact op_short o ho25
        have hcn0 : w0.cell? ⟨nb, o, none⟩ = some (.string (BA nm)) := by rw [hnm]; exact hC0.out o ho25
        rw [← hnm] at hL
        have HL : Hid (lineW (u : Int) = joinB (nm :: (optR (faB (o : Int)) (ra : Int) ++ (optR (fbB (o : Int)) (rb : Int) ++ optI (fiB (o : Int)) im)))) := hL
        obtain ⟨NM, hNM⟩ : ∃ NM, NM = BA nm := ⟨_, rfl⟩
        rw [← hNM] at hcn0
        have hNs : NM.size ≤ 30 := by rw [hNM, BA_size]; exact hnl
        have HNM : Hid (NM = BA nm) := hNM
        have HDEC : Hid _ := hdec
        clear hd hdec e1 e2 e3 e4 hv ho hra hrb him hL hnm hNM hnl
        go_wp2_with fail
        refine (HDEC.out _).mono ?_
        rintro e w1 ⟨rfl, k1⟩
        have hk2 : But [] w0 (w1.alloc (.cells #[.int .i64 (o : Int), .int .i64 (ra : Int), .int .i64 (rb : Int), .int .i64 im] 71)) := (HB.out.trans (But.of_below k1)).alloc _
        have hcn := cell_keep hcn0 hk2 (by simp)
        have HB2 : Hid (But [] w0 (w1.alloc (.cells #[.int .i64 (o : Int), .int .i64 (ra : Int), .int .i64 (rb : Int), .int .i64 im] 71))) := hk2
        clear k1 hk2 hcn0 hcx HB HDEC
        go_wp2_with fail
        refine (rfields_c (o : Int) _).mono ?_
        rintro e w2 ⟨rfl, hw2⟩
        obtain ⟨q, hq⟩ : ∃ q, q = w1.heap.size := ⟨_, rfl⟩
        obtain ⟨c0, c1, c2, c3⟩ : w2.cell? ⟨q, 0, none⟩ = some (.int .i64 (o : Int)) ∧ w2.cell? ⟨q, 1, none⟩ = some (.int .i64 (ra : Int)) ∧ w2.cell? ⟨q, 2, none⟩ = some (.int .i64 (rb : Int)) ∧ w2.cell? ⟨q, 3, none⟩ = some (.int .i64 im) := by
          rw [← hw2, hq]
          have h := heap_alloc_new w1 (.cells #[.int .i64 (o : Int), .int .i64 (ra : Int), .int .i64 (rb : Int), .int .i64 im] 71)
          refine ⟨?_, ?_, ?_, ?_⟩ <;> (unfold World.cell?; rw [h]; rfl)
        rw [hw2] at hcn HB2
        rw [← hq]
        clear hw2 hq
        cases hfa : faB (o : Int) with
        | true =>
          rw [hfa] at HL
          cases hfb : fbB (o : Int) with
          | true =>
            rw [hfb] at HL
            cases hfi : fiB (o : Int) with
            | true =>
              rw [hfi] at HL
              clear hfa hfb hfi
              go_wp2_with fail
              refine (digits_c ra (by omega) _).mono ?_
              rintro e z1 ⟨rfl, rfl⟩
              obtain ⟨D1, hD1⟩ : ∃ D, D = BA (Lib.decDigits ra) := ⟨_, rfl⟩
              rw [← hD1]
              have hDs1 : D1.size ≤ 21 := by rw [hD1, BA_size]; exact dd_short ra (by omega)
              have HDD1 : Hid (D1 = BA (Lib.decDigits ra)) := hD1
              clear hD1
              go_wp2_with fail
              refine (digits_c rb (by omega) _).mono ?_
              rintro e z2 ⟨rfl, rfl⟩
              obtain ⟨D2, hD2⟩ : ∃ D, D = BA (Lib.decDigits rb) := ⟨_, rfl⟩
              rw [← hD2]
              have hDs2 : D2.size ≤ 21 := by rw [hD2, BA_size]; exact dd_short rb (by omega)
              have HDD2 : Hid (D2 = BA (Lib.decDigits rb)) := hD2
              clear hD2
              go_wp2_with fail
              refine (digits_any im (by omega) (by omega) _).mono ?_
              rintro e z3 ⟨rfl, rfl⟩
              obtain ⟨D3, hD3⟩ : ∃ D, D = BA (Lib.itoa im) := ⟨_, rfl⟩
              rw [← hD3]
              have hDs3 : D3.size ≤ 21 := by rw [hD3, BA_size]; exact Lib.itoa_length_le im (by omega) (by omega)
              have HDD3 : Hid (D3 = BA (Lib.itoa im)) := hD3
              clear hD3
              go_wp2
              go_roundg (n - (k + 1))
              case measure => omega
              case rel => exact ⟨k + 1, _, rfl, by omega, by go_num, by
                show _ = _
                rw [HTK.out, wr_snoc, HL.out, HS.out, HNM.out, HDD1.out, HDD2.out, HDD3.out]
                show (((((((BA _ ++ BA _) ++ BA [32, 114]) ++ BA _) ++ BA [32, 114]) ++ BA _) ++ BA [32]) ++ BA _) ++ BA [10] = _
                rw [append_BA, append_BA, append_BA, append_BA, append_BA, append_BA, append_BA, append_BA]
                simp [optR, optI, joinB, regName], HB2⟩
            | false =>
              rw [hfi] at HL
              clear hfa hfb hfi
              go_wp2_with fail
              refine (digits_c ra (by omega) _).mono ?_
              rintro e z1 ⟨rfl, rfl⟩
              obtain ⟨D1, hD1⟩ : ∃ D, D = BA (Lib.decDigits ra) := ⟨_, rfl⟩
              rw [← hD1]
              have hDs1 : D1.size ≤ 21 := by rw [hD1, BA_size]; exact dd_short ra (by omega)
              have HDD1 : Hid (D1 = BA (Lib.decDigits ra)) := hD1
              clear hD1
              go_wp2_with fail
              refine (digits_c rb (by omega) _).mono ?_
              rintro e z2 ⟨rfl, rfl⟩
              obtain ⟨D2, hD2⟩ : ∃ D, D = BA (Lib.decDigits rb) := ⟨_, rfl⟩
              rw [← hD2]
              have hDs2 : D2.size ≤ 21 := by rw [hD2, BA_size]; exact dd_short rb (by omega)
              have HDD2 : Hid (D2 = BA (Lib.decDigits rb)) := hD2
              clear hD2
              go_wp2
              go_roundg (n - (k + 1))
              case measure => omega
              case rel => exact ⟨k + 1, _, rfl, by omega, by go_num, by
                show _ = _
                rw [HTK.out, wr_snoc, HL.out, HS.out, HNM.out, HDD1.out, HDD2.out]
                show (((((BA _ ++ BA _) ++ BA [32, 114]) ++ BA _) ++ BA [32, 114]) ++ BA _) ++ BA [10] = _
                rw [append_BA, append_BA, append_BA, append_BA, append_BA, append_BA]
                simp [optR, optI, joinB, regName], HB2⟩
          | false =>
            rw [hfb] at HL
            cases hfi : fiB (o : Int) with
            | true =>
              rw [hfi] at HL
              clear hfa hfb hfi
              go_wp2_with fail
              refine (digits_c ra (by omega) _).mono ?_
              rintro e z1 ⟨rfl, rfl⟩
              obtain ⟨D1, hD1⟩ : ∃ D, D = BA (Lib.decDigits ra) := ⟨_, rfl⟩
              rw [← hD1]
              have hDs1 : D1.size ≤ 21 := by rw [hD1, BA_size]; exact dd_short ra (by omega)
              have HDD1 : Hid (D1 = BA (Lib.decDigits ra)) := hD1
              clear hD1
              go_wp2_with fail
              refine (digits_any im (by omega) (by omega) _).mono ?_
              rintro e z2 ⟨rfl, rfl⟩
              obtain ⟨D2, hD2⟩ : ∃ D, D = BA (Lib.itoa im) := ⟨_, rfl⟩
              rw [← hD2]
              have hDs2 : D2.size ≤ 21 := by rw [hD2, BA_size]; exact Lib.itoa_length_le im (by omega) (by omega)
              have HDD2 : Hid (D2 = BA (Lib.itoa im)) := hD2
              clear hD2
              go_wp2
              go_roundg (n - (k + 1))
              case measure => omega
              case rel => exact ⟨k + 1, _, rfl, by omega, by go_num, by
                show _ = _
                rw [HTK.out, wr_snoc, HL.out, HS.out, HNM.out, HDD1.out, HDD2.out]
                show (((((BA _ ++ BA _) ++ BA [32, 114]) ++ BA _) ++ BA [32]) ++ BA _) ++ BA [10] = _
                rw [append_BA, append_BA, append_BA, append_BA, append_BA, append_BA]
                simp [optR, optI, joinB, regName], HB2⟩
            | false =>
              rw [hfi] at HL
              clear hfa hfb hfi
              go_wp2_with fail
              refine (digits_c ra (by omega) _).mono ?_
              rintro e z1 ⟨rfl, rfl⟩
              obtain ⟨D1, hD1⟩ : ∃ D, D = BA (Lib.decDigits ra) := ⟨_, rfl⟩
              rw [← hD1]
              have hDs1 : D1.size ≤ 21 := by rw [hD1, BA_size]; exact dd_short ra (by omega)
              have HDD1 : Hid (D1 = BA (Lib.decDigits ra)) := hD1
              clear hD1
              go_wp2
              go_roundg (n - (k + 1))
              case measure => omega
              case rel => exact ⟨k + 1, _, rfl, by omega, by go_num, by
                show _ = _
                rw [HTK.out, wr_snoc, HL.out, HS.out, HNM.out, HDD1.out]
                show (((BA _ ++ BA _) ++ BA [32, 114]) ++ BA _) ++ BA [10] = _
                rw [append_BA, append_BA, append_BA, append_BA]
                simp [optR, optI, joinB, regName], HB2⟩
        | false =>
          rw [hfa] at HL
          cases hfb : fbB (o : Int) with
          | true =>
            rw [hfb] at HL
            cases hfi : fiB (o : Int) with
            | true =>
              rw [hfi] at HL
              clear hfa hfb hfi
              go_wp2_with fail
              refine (digits_c rb (by omega) _).mono ?_
              rintro e z1 ⟨rfl, rfl⟩
              obtain ⟨D1, hD1⟩ : ∃ D, D = BA (Lib.decDigits rb) := ⟨_, rfl⟩
              rw [← hD1]
              have hDs1 : D1.size ≤ 21 := by rw [hD1, BA_size]; exact dd_short rb (by omega)
              have HDD1 : Hid (D1 = BA (Lib.decDigits rb)) := hD1
              clear hD1
              go_wp2_with fail
              refine (digits_any im (by omega) (by omega) _).mono ?_
              rintro e z2 ⟨rfl, rfl⟩
              obtain ⟨D2, hD2⟩ : ∃ D, D = BA (Lib.itoa im) := ⟨_, rfl⟩
              rw [← hD2]
              have hDs2 : D2.size ≤ 21 := by rw [hD2, BA_size]; exact Lib.itoa_length_le im (by omega) (by omega)
              have HDD2 : Hid (D2 = BA (Lib.itoa im)) := hD2
              clear hD2
              go_wp2
              go_roundg (n - (k + 1))
              case measure => omega
              case rel => exact ⟨k + 1, _, rfl, by omega, by go_num, by
                show _ = _
                rw [HTK.out, wr_snoc, HL.out, HS.out, HNM.out, HDD1.out, HDD2.out]
                show (((((BA _ ++ BA _) ++ BA [32, 114]) ++ BA _) ++ BA [32]) ++ BA _) ++ BA [10] = _
                rw [append_BA, append_BA, append_BA, append_BA, append_BA, append_BA]
                simp [optR, optI, joinB, regName], HB2⟩
            | false =>
              rw [hfi] at HL
              clear hfa hfb hfi
              go_wp2_with fail
              refine (digits_c rb (by omega) _).mono ?_
              rintro e z1 ⟨rfl, rfl⟩
              obtain ⟨D1, hD1⟩ : ∃ D, D = BA (Lib.decDigits rb) := ⟨_, rfl⟩
              rw [← hD1]
              have hDs1 : D1.size ≤ 21 := by rw [hD1, BA_size]; exact dd_short rb (by omega)
              have HDD1 : Hid (D1 = BA (Lib.decDigits rb)) := hD1
              clear hD1
              go_wp2
              go_roundg (n - (k + 1))
              case measure => omega
              case rel => exact ⟨k + 1, _, rfl, by omega, by go_num, by
                show _ = _
                rw [HTK.out, wr_snoc, HL.out, HS.out, HNM.out, HDD1.out]
                show (((BA _ ++ BA _) ++ BA [32, 114]) ++ BA _) ++ BA [10] = _
                rw [append_BA, append_BA, append_BA, append_BA]
                simp [optR, optI, joinB, regName], HB2⟩
          | false =>
            rw [hfb] at HL
            cases hfi : fiB (o : Int) with
            | true =>
              rw [hfi] at HL
              clear hfa hfb hfi
              go_wp2_with fail
              refine (digits_any im (by omega) (by omega) _).mono ?_
              rintro e z1 ⟨rfl, rfl⟩
              obtain ⟨D1, hD1⟩ : ∃ D, D = BA (Lib.itoa im) := ⟨_, rfl⟩
              rw [← hD1]
              have hDs1 : D1.size ≤ 21 := by rw [hD1, BA_size]; exact Lib.itoa_length_le im (by omega) (by omega)
              have HDD1 : Hid (D1 = BA (Lib.itoa im)) := hD1
              clear hD1
              go_wp2
              go_roundg (n - (k + 1))
              case measure => omega
              case rel => exact ⟨k + 1, _, rfl, by omega, by go_num, by
                show _ = _
                rw [HTK.out, wr_snoc, HL.out, HS.out, HNM.out, HDD1.out]
                show (((BA _ ++ BA _) ++ BA [32]) ++ BA _) ++ BA [10] = _
                rw [append_BA, append_BA, append_BA, append_BA]
                simp [optR, optI, joinB, regName], HB2⟩
            | false =>
              rw [hfi] at HL
              clear hfa hfb hfi
              go_wp2
              go_roundg (n - (k + 1))
              case measure => omega
              case rel => exact ⟨k + 1, _, rfl, by omega, by go_num, by
                show _ = _
                rw [HTK.out, wr_snoc, HL.out, HS.out, HNM.out]
                show (BA _ ++ BA _) ++ BA [10] = _
                rw [append_BA, append_BA]
                simp [optR, optI, joinB, regName], HB2⟩
    · obtain rfl : k = n := by omega
      have HE : Hid (S = BA (wrOf xs)) := by show _ = _; rw [HS.out, HN.out, List.take_length]
      have HBE : Hid (Below w.heap.size w wr) := (hK0.out.trans HB.out).below (Nat.le_refl _) (by simp)
      go_wp2
      go_ret
      exact ⟨by rw [← HE.out]; rfl, HBE.out⟩
end Go.Proofs.YtpnmnokedpagmaaGreatDoor
