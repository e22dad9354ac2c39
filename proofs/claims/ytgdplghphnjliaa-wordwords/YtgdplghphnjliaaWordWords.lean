/-
  The contract of Words of layer 1 (word), over the translated program.
-/
import Derived.Test.YtgdplghphnjliaaWordFlat
namespace Go.Proofs.Ytgdplghphnjliaa
open Go.ChangeShapes Go.WideShapes Go.ChangeAt Go.RowKit
set_option linter.unusedVariables false

/-- The length in a slot that holds a slice: for a measure. -/
def lenIn : Value → Nat | .slice _ n _ => n | _ => 0
theorem own_below {w w' : World} {base : Nat} {e : TypeId} {size n : Nat} {v : Value} {xs : List Value} (h : w.ownsRow base e size v n xs) (hb : Below w.heap.size w w') : w'.ownsRow base e size v n xs := by
  refine h.kept (row := none) ⟨hb.os, hb.tape, hb.output, hb.size, fun k hk _ => hb.block k hk⟩ ?_
  by_cases hv : v.ownBlock = none
  · exact .inl hv
  · exact .inr hv
theorem drop_get (bs : List Int) (m j : Nat) : (bs.drop m).getD j 0 = bs.getD (m + j) 0 := by simp [List.getD, List.getElem?_drop]
theorem getD_past (bs : List Int) (j : Nat) (h : bs.length ≤ j) : bs.getD j 0 = 0 := by
  rw [List.getD_eq_getElem?_getD, List.getElem?_eq_none h]; rfl
/-- Four noughts with the first bytes laid over them. -/
theorem four_splice (bs : List Int) (m k : Nat) (hk : k ≤ 4) (hl : 4 * m + k ≤ bs.length) (hp : k = 4 ∨ bs.length ≤ 4 * m + k) :
    splice [Value.int .u8 0, .int .u8 0, .int .u8 0, .int .u8 0] 0 (((bs.drop (4 * m)).take k).map (Value.int .u8)) =
      [.int .u8 (bs.getD (4 * m) 0), .int .u8 (bs.getD (4 * m + 1) 0), .int .u8 (bs.getD (4 * m + 2) 0), .int .u8 (bs.getD (4 * m + 3) 0)] := by
  have hlen : (((bs.drop (4 * m)).take k).map (Value.int .u8)).length = k := by simp; omega
  have hin : ∀ j, j < k → (((bs.drop (4 * m)).take k).map (Value.int .u8))[j]? = some (.int .u8 (bs.getD (4 * m + j) 0)) := by
    intro j hj
    have h1 : 4 * m + j < bs.length := by omega
    simp [hj, List.getElem?_drop, h1, List.getD]
  apply List.ext_getElem?
  intro j
  unfold splice
  rw [List.take_zero, List.nil_append, Nat.zero_add, hlen]
  by_cases h1 : j < k
  · rw [List.getElem?_append_left (by rw [hlen]; exact h1), hin j h1]
    have : j = 0 ∨ j = 1 ∨ j = 2 ∨ j = 3 := by omega
    rcases this with rfl | rfl | rfl | rfl <;> rfl
  · rw [List.getElem?_append_right (by rw [hlen]; omega), hlen, List.getElem?_drop, show k + (j - k) = j by omega]
    by_cases h4 : j < 4
    · have hz := getD_past bs (4 * m + j) (by omega)
      have : j = 0 ∨ j = 1 ∨ j = 2 ∨ j = 3 := by omega
      rcases this with rfl | rfl | rfl | rfl
      · rw [Nat.add_zero] at hz; rw [hz]; rfl
      · rw [hz]; rfl
      · rw [hz]; rfl
      · rw [hz]; rfl
    · rw [List.getElem?_eq_none (by simp; omega), List.getElem?_eq_none (by simp; omega)]
theorem Rd.drop {k : IntKind} {w : World} {lo hi : Nat} {b off : Nat} {xs : List Int} (h : Rd k w lo hi (some ⟨b, off, none⟩) xs) (m : Nat) : Rd k w lo hi (some ⟨b, off + m, none⟩) (xs.drop m) := by
  rcases h with h | ⟨b', off', e, h1, h2, hc⟩
  · left; subst h; simp
  · injection e with e
    injection e with e1 e2
    subst e1
    subst e2
    refine .inr ⟨b, off + m, rfl, h1, h2, fun j hj => ?_⟩
    rw [List.length_drop] at hj
    rw [drop_get, Nat.add_assoc]
    exact hc (m + j) (by omega)

set_option maxHeartbeats 1000000 in
theorem words_c (A : Option Addr) (n c : Nat) (bs : List Int) (w : World) (hn : n = bs.length) (hnc : n ≤ c) (hr : Rd .u8 w 0 w.heap.size A bs) (hx : ∀ j, 0 ≤ bs.getD j 0 ∧ bs.getD j 0 ≤ 255) (hm : n ≤ 100000) :
    Calls Try.prog 11 #[.slice A n c] w fun e w' => ∃ v, e = .returned v ∧ w'.ownsRow w.heap.size 31 1 v ((n + 3) / 4) ((tab ((n + 3) / 4) (wdi bs)).map (Value.int .u32)) ∧ Below w.heap.size w w' := by
  obtain ⟨i0, hi, hz0, hz1, hz2⟩ := info_parts Try.infoU32
  have HN : Hid (n = bs.length) := hn
  have HX : Hid (∀ j, 0 ≤ bs.getD j 0 ∧ bs.getD j 0 ≤ 255) := hx
  have HR : Hid (Rd .u8 w 0 w.heap.size A bs) := hr
  have HI : Hid (Try.prog.info? 31 = some i0) := hi
  have HZ0 : Hid (i0.zero = some (.int .u32 0)) := hz0
  have HZ1 : Hid (i0.size = 1) := hz1
  have HZ2 : Hid (i0.bytes = 4) := hz2
  clear hn hx hr hi hz0 hz1 hz2
  go_enter Try.func11, Try.ntmps11
  go_wp2_with (first | (at_make; refine wpList_make_own _ rfl _ _ 22 rfl w.heap.size 31 i0 (.int .u32 0) 1 Try.underlying22 HI.out HZ0.out HZ1.out .i64 .i64 _ ((n + 3) / 4) rfl rfl (by omega) (by rw [HZ2.out]; omega) (by unfold maxLen; omega) (Nat.le_refl _) ?_))
  intro w0 hown0 hg0
  have hb0 : Below w.heap.size w w0 := (Below.refl _ _).grown hg0 (Nat.le_refl _) (fun k h => by cases h)
  clear hg0
  go_wp2
  go_loopw [0, 3] (fun x v wr => ∃ (m r : Nat) (A' : Option Addr) (c' : Nat), x = .slice A' r c' ∧ r ≤ c' ∧ r ≤ n ∧ m ≤ (n + 3) / 4 ∧ Hid (r = n - 4 * m) ∧ Hid (Rd .u8 w 0 w.heap.size A' (bs.drop (4 * m))) ∧ wr.ownsRow w.heap.size 31 1 v m ((tab m (wdi bs)).map (Value.int .u32)) ∧ Below w.heap.size w wr) (fun x _ _ => lenIn x)
  case atStart => exact ⟨0, n, A, c, rfl, hnc, Nat.le_refl _, Nat.zero_le _, rfl, HR, hown0, hb0⟩
  case round =>
    obtain ⟨m, r, A', c', rfl, hrc, hrn, hmn, HRM, HRD, hown, hbel⟩ := hrel
    have hsz := hbel.size
    by_cases hlt : 0 < r
    · have hlen : (bs.drop (4 * m)).length = r := by rw [List.length_drop, HRM.out, HN.out]
      obtain ⟨b, off, hA, _, hb, hcell⟩ := HRD.out.at_ (j := 0) (by omega)
      subst hA
      obtain ⟨k, hk⟩ : ∃ k, k = min r 4 := ⟨_, rfl⟩
      have hk0 : 0 < k := by omega
      have hkr : k ≤ r := by omega
      have hk4 : k ≤ 4 := by omega
      have hbl : 4 * m + k ≤ bs.length := by have := HRM.out; have := HN.out; omega
      have hfr : k = 4 ∨ bs.length ≤ 4 * m + k := by have := HRM.out; have := HN.out; omega
      have HK : Hid (k = min r 4) := hk
      obtain ⟨cs, hcs⟩ : ∃ cs, cs = ((bs.drop (4 * m)).take k).map (Value.int .u8) := ⟨_, rfl⟩
      have HLN : Hid (cs.length = k) := by show _ = _; rw [hcs]; simp; omega
      have HMN : Hid (cs.length = Nat.min r 4) := by show _ = _; rw [HLN.out]; exact hk
      have HSP : Hid (splice [Value.int .u8 0, .int .u8 0, .int .u8 0, .int .u8 0] 0 cs = [.int .u8 (bs.getD (4 * m) 0), .int .u8 (bs.getD (4 * m + 1) 0), .int .u8 (bs.getD (4 * m + 2) 0), .int .u8 (bs.getD (4 * m + 3) 0)]) := by
        show _ = _; rw [hcs]; exact four_splice bs m k hk4 hbl hfr
      have HON : Hid (∀ v ∈ cs, v.oneCell' = true) := by
        show ∀ v ∈ cs, v.oneCell' = true
        rw [hcs]
        intro v hv
        obtain ⟨z, _, rfl⟩ := List.mem_map.1 hv
        rfl
      have HFT : Hid (0 + cs.length ≤ [Value.int .u8 0, .int .u8 0, .int .u8 0, .int .u8 0].length) := by
        show _ ≤ _; rw [HLN.out]; simp; omega
      have HCS : Hid (∀ (o : Obj) j v, cs[j]? = some v → (wr.alloc o).cell? ((⟨b, off, none⟩ : Addr).add j) = some v) := by
        show ∀ (o : Obj) j v, cs[j]? = some v → (wr.alloc o).cell? ((⟨b, off, none⟩ : Addr).add j) = some v
        intro o j v hv
        have hj : j < k := by
          rcases Nat.lt_or_ge j k with h | h
          · exact h
          · rw [List.getElem?_eq_none (by rw [HLN.out]; exact h)] at hv; cases hv
        have e : (⟨b, off, none⟩ : Addr).add j = ⟨b, off + j, none⟩ := by unfold Addr.add; split <;> simp_all
        rw [e, World.cell?_alloc_lt _ _ _ (by show b < _; omega), hbel.cell (p := ⟨b, off + j, none⟩) hb, hcell j (by omega)]
        rw [hcs] at hv
        have h1 : 4 * m + j < bs.length := by omega
        simp [hj, List.getElem?_drop, h1] at hv
        rw [← hv]
        simp [List.getD, List.getElem?_drop, h1]
      have HB1 : Hid (∀ (o : Obj), Below wr.heap.size wr (wr.alloc o)) := fun o => (Below.refl _ _).alloc (Nat.le_refl _) _
      have HD : Hid (Rd .u8 w 0 w.heap.size (some ⟨b, off + k, none⟩) (bs.drop (4 * (m + 1)))) := by
        show Rd _ _ _ _ _ _
        by_cases hk' : k = 4
        · have := HRD.out.drop k
          rw [List.drop_drop, hk'] at this
          rw [hk', show 4 * (m + 1) = 4 * m + 4 by omega]
          exact this
        · exact .inl (List.drop_eq_nil_of_le (by omega))
      have HE : Hid (c' = k → bs.drop (4 * (m + 1)) = []) := by
        intro he
        apply List.drop_eq_nil_of_le
        have := HRM.out; have := HN.out
        omega
      clear hcs hk hcell hlen hbl hfr
      go_wp2_with (with_reducible refine wpList_copy_splice rfl (.tmp 14) (.tmp 15) 23 23 rfl 5 Try.underlying23 (by kernel_rfl) _ _ _ _ _ _ rfl rfl wr.heap.size 0 [Value.int .u8 0, .int .u8 0, .int .u8 0, .int .u8 0] 36 (heap_alloc_new wr _) cs HMN.out (fun _ => ⟨rfl, _, rfl, HCS.out _⟩) HFT.out HON.out wr.heap.size wr (HB1.out _) (Nat.le_refl _) ?_)
      intro w2 HG2 hb2
      rw [HLN.out]
      obtain ⟨d0, hd0⟩ : ∃ d, d = bs.getD (4 * m) 0 := ⟨_, rfl⟩
      obtain ⟨d1, hd1⟩ : ∃ d, d = bs.getD (4 * m + 1) 0 := ⟨_, rfl⟩
      obtain ⟨d2, hd2⟩ : ∃ d, d = bs.getD (4 * m + 2) 0 := ⟨_, rfl⟩
      obtain ⟨d3, hd3⟩ : ∃ d, d = bs.getD (4 * m + 3) 0 := ⟨_, rfl⟩
      have HW : Hid (num4 d0 d1 d2 d3 = wdi bs m) := by show _ = _; rw [hd0, hd1, hd2, hd3]; rfl
      have b0 := HX.out (4 * m)
      have b1 := HX.out (4 * m + 1)
      have b2 := HX.out (4 * m + 2)
      have b3 := HX.out (4 * m + 3)
      have hg2 := HG2.out
      rw [HSP.out, ← hd0, ← hd1, ← hd2, ← hd3] at hg2
      rw [← hd0] at b0
      rw [← hd1] at b1
      rw [← hd2] at b2
      rw [← hd3] at b3
      have c0 : w2.cell? ⟨wr.heap.size, 0, none⟩ = some (.int .u8 d0) := by simp [World.cell?, hg2]
      have c1 : w2.cell? ⟨wr.heap.size, 1, none⟩ = some (.int .u8 d1) := by simp [World.cell?, hg2]
      have c2 : w2.cell? ⟨wr.heap.size, 2, none⟩ = some (.int .u8 d2) := by simp [World.cell?, hg2]
      have c3 : w2.cell? ⟨wr.heap.size, 3, none⟩ = some (.int .u8 d3) := by simp [World.cell?, hg2]
      clear hg2 HG2 hd0 hd1 hd2 hd3
      have hown2 := own_below hown hb2
      go_wp2_with fail
      refine (of_c d0 d1 d2 d3 _ b0 b1 b2 b3).mono ?_
      rintro e w3 ⟨rfl, hb3⟩
      have hown3 := own_below hown2 hb3
      have hz2 := hb2.size
      have hz3 := hb3.size
      have hbw : Below w.heap.size w w3 := (hbel.trans (hb2.mono hsz)).trans (hb3.mono (by omega))
      clear c0 c1 c2 c3 hown2
      by_cases hck : c' = k
      · have HE2 := HE.out hck
        subst hck
        go_wp2_with (first
          | (at_builtin; refine wpList_append_own _ rfl _ _ 22 rfl w.heap.size 31 i0 (.int .u32 0) 1 4 Try.underlying22 HI.out HZ0.out HZ1.out HZ2.out rfl (by decide) _ _ _ rfl (hown3.alloc _) ⟨w3.heap.size, 0, none⟩ 1 1 [.int .u32 (num4 d0 d1 d2 d3)] rfl rfl (cell_one_new _ _ _) (one_int _ _) ?c3 ?c4 ?c5 ?_))
        case c3 => unfold maxLen; omega
        case c4 => omega
        case c5 => first | omega | (simp; omega)
        · intro v' w4 hown4 hgrow _
          have R := own_step hown4 HW.out
          have B2 : Below w.heap.size w w4 := (hbw.alloc (by omega) _).grown hgrow (by simp; omega) (fun k h => (hown3.lt k h).1)
          have hr0 : r - c' = 0 := by omega
          clear hown4 hgrow hown3
          go_wp2
          go_roundw
          case rel =>
            refine ⟨m + 1, 0, _, _, rfl, Nat.le_refl _, Nat.zero_le _, ?_, ?_, .inl HE2, R, B2⟩
            · have := HRM.out; omega
            · show _ = _
              have := HRM.out; have := HK.out; omega
          case measure => simp only [lenIn]; omega
      · have hk1 : ¬ (k = c') := fun h => hck h.symm
        go_wp2_with (first
          | (at_builtin; refine wpList_append_own _ rfl _ _ 22 rfl w.heap.size 31 i0 (.int .u32 0) 1 4 Try.underlying22 HI.out HZ0.out HZ1.out HZ2.out rfl (by decide) _ _ _ rfl (hown3.alloc _) ⟨w3.heap.size, 0, none⟩ 1 1 [.int .u32 (num4 d0 d1 d2 d3)] rfl rfl (cell_one_new _ _ _) (one_int _ _) ?e3 ?e4 ?e5 ?_))
        case e3 => unfold maxLen; omega
        case e4 => omega
        case e5 => first | omega | (simp; omega)
        · intro v' w4 hown4 hgrow _
          have R := own_step hown4 HW.out
          have B2 : Below w.heap.size w w4 := (hbw.alloc (by omega) _).grown hgrow (by simp; omega) (fun k h => (hown3.lt k h).1)
          clear hown4 hgrow hown3
          go_wp2
          go_roundw
          case rel =>
            refine ⟨m + 1, r - k, _, _, rfl, by omega, by omega, ?_, ?_, HD, R, B2⟩
            · have := HRM.out; omega
            · show _ = _
              have := HRM.out; have := HK.out; omega
          case measure => simp only [lenIn]; omega
    · obtain rfl : r = 0 := by omega
      have e : m = (n + 3) / 4 := by have := HRM.out; omega
      rw [e] at hown
      clear e
      go_wp2
      go_ret
      exact ⟨_, rfl, hown, hbel⟩
end Go.Proofs.Ytgdplghphnjliaa
