/-
  Package asm's Write: words are written as they are spelt, a line a word.
-/
import Derived.Test.YtpnmnokedpagmaaGreatDoorAsmParts
import Derived.Test.YtpnmnokedpagmaaGreatDoorMem
import Derived.Lib.Join
namespace Go.Proofs.YtpnmnokedpagmaaGreatDoor
open Go.RowKit
set_option linter.unusedVariables false
set_option linter.unusedSimpArgs false
set_option maxRecDepth 20000

theorem partsOf_c (u : Nat) (tb : Nat) (w : World) (hu : u ≤ 4294967295) (ht : TabOk w tb 0) (hN : NamesOk w) (hP : PowOk w) (htb : 7 ≤ tb) :
    Calls Tryz.prog 11 #[.pointer (some ⟨tb, 0, none⟩), .int .u32 (u : Int)] w (GotP (spell (u : Int)) tb w) := by
  cases hd : decB (u : Int) with
  | true => exact partsOf_yes u tb w hu hd ht hN hP htb
  | false => exact partsOf_no u tb w hu hd ht hP htb

/-! ### how long lines are -/
theorem join_eq : ∀ (ps : List Bs), Lib.join ps [32] = joinB ps
  | [] => rfl
  | [p] => by simp [Lib.join, List.intercalate, joinB]
  | p :: q :: r => by
    have ih := join_eq (q :: r)
    rw [joinB, ← ih]
    simp [Lib.join, List.intercalate, List.intersperse]
theorem map_BA (ps : List Bs) : (ps.map BA).map (fun s => s.data.toList) = ps := by
  rw [List.map_map]
  have : (fun s : ByteArray => s.data.toList) ∘ BA = id := by funext l; rfl
  rw [this, List.map_id]
theorem join_len : ∀ (ps : List Bs) (m : Nat), (∀ p ∈ ps, p.length ≤ m) → (joinB ps).length ≤ ps.length * (m + 1)
  | [], m, _ => by simp [joinB]
  | [p], m, h => by have := h p (by simp); simp [joinB]; omega
  | p :: q :: r, m, h => by
    have h1 := h p (by simp)
    have h2 := join_len (q :: r) m (fun x hx => h x (by simp [hx]))
    rw [joinB, List.length_append, List.length_cons]
    simp only [List.length_cons] at h2 ⊢
    have e : (r.length + 1 + 1) * (m + 1) = (r.length + 1) * (m + 1) + (m + 1) := by rw [Nat.add_mul, Nat.one_mul]
    omega
theorem dd_short (n : Nat) (h : n ≤ 4294967295) : (Lib.decDigits n).length ≤ 21 := by
  have := Lib.itoa_length_le n (by omega) (by omega)
  rwa [Lib.itoa_nonneg] at this
theorem op_short : ∀ k, k < 25 → (opNames.getD k []).length ≤ 30 := by decide
theorem optR_len (has : Bool) (n : Int) : (optR has n).length ≤ 1 := by unfold optR; split <;> simp
theorem optI_len (has : Bool) (n : Int) : (optI has n).length ≤ 1 := by unfold optI; split <;> simp
theorem spell_short (x : Int) (h0 : 0 ≤ x) (h1 : x ≤ 4294967295) : (spell x).length ≤ 4 ∧ ∀ p ∈ spell x, p.length ≤ 30 := by
  unfold spell
  split
  · rename_i hd
    obtain ⟨⟨b1, b2⟩, ⟨b3, b4⟩, ⟨b5, b6⟩, ⟨b7, b8⟩⟩ := dec_bd hd
    have hreg : ∀ n : Int, 0 ≤ n → n ≤ 15 → (regName n.toNat).length ≤ 30 := fun n h0 h1 => by
      have := dd_short n.toNat (by omega)
      simp [regName]; omega
    refine ⟨?_, fun p hp => ?_⟩
    · have := optR_len (faB (dopI x)) (daI x)
      have := optR_len (fbB (dopI x)) (dbI x)
      have := optI_len (fiB (dopI x)) (diI x)
      simp only [List.length_cons, List.length_append]
      omega
    · rcases List.mem_cons.1 hp with rfl | hp
      · exact op_short _ (by omega)
      · rcases List.mem_append.1 hp with hp | hp
        · unfold optR at hp
          split at hp
          · simp only [List.mem_singleton] at hp; subst hp; exact hreg _ b3 b4
          · cases hp
        · rcases List.mem_append.1 hp with hp | hp
          · unfold optR at hp
            split at hp
            · simp only [List.mem_singleton] at hp; subst hp; exact hreg _ b5 b6
            · cases hp
          · unfold optI at hp
            split at hp
            · simp only [List.mem_singleton] at hp
              subst hp
              have := Lib.itoa_length_le (diI x) (by omega) (by omega)
              omega
            · cases hp
  · refine ⟨by simp, fun p hp => ?_⟩
    rcases List.mem_cons.1 hp with rfl | hp
    · simp
    · simp only [List.mem_singleton] at hp
      subst hp
      have := dd_short x.toNat (by omega)
      omega
theorem line_short (x : Int) (h0 : 0 ≤ x) (h1 : x ≤ 4294967295) : (lineW x).length ≤ 124 := by
  obtain ⟨h2, h3⟩ := spell_short x h0 h1
  have := join_len (spell x) 30 h3
  unfold lineW
  have h4 : (spell x).length * (30 + 1) ≤ 4 * 31 := Nat.mul_le_mul_right _ h2
  omega
theorem wr_short : ∀ (l : List Int), (∀ x ∈ l, 0 ≤ x ∧ x ≤ 4294967295) → (wrOf l).length ≤ l.length * 125
  | [], _ => by simp [wrOf]
  | x :: l, h => by
    have h1 := line_short x (h x (by simp)).1 (h x (by simp)).2
    have h2 := wr_short l (fun y hy => h y (by simp [hy]))
    have e : wrOf (x :: l) = lineW x ++ 10 :: wrOf l := by simp [wrOf]
    rw [e]
    simp only [List.length_append, List.length_cons]
    omega
theorem wr_snoc (l : List Int) (x : Int) : wrOf (l ++ [x]) = wrOf l ++ (lineW x ++ [10]) := by simp [wrOf]

/-- A builder stands where others are written. -/
theorem bld_but {T e : TypeId} {B b : Nat} {p : Value} {bs : List Value} {w w' : World} {l : List Nat} (h : Lib.BuilderAt T e B b p bs w) (k : But l w w') (hl : ∀ x ∈ l, x < B) : Lib.BuilderAt T e B b p bs w' := by
  obtain ⟨hB, v, hb, hown, hne⟩ := h
  refine ⟨hB, v, (k.block b (lt_of_heap hb) (fun hm => ?_)).trans hb, own_but hown k hl, hne⟩
  have := hl b hm
  omega
theorem isb_but {T e : TypeId} {B b : Nat} {bs : List Value} {w w' : World} {l : List Nat} (h : Lib.IsBuilder T e B b bs w) (k : But l w w') (hl : ∀ x ∈ l, x < B) : Lib.IsBuilder T e B b bs w' := by
  rcases h with h | h
  · exact .inl (bld_but h k hl)
  · exact .inr (bld_but h k hl)
theorem cells_app (a b : Bs) : Lib.byteCells a ++ Lib.strCells (BA b) = Lib.byteCells (a ++ b) := by
  rw [show Lib.strCells (BA b) = Lib.byteCells b from rfl]
  simp [Lib.byteCells]
theorem cells_one (a : Bs) (c : UInt8) : Lib.byteCells a ++ [.int .u8 (c.toNat : Int)] = Lib.byteCells (a ++ [c]) := by simp [Lib.byteCells]
theorem cells_len (a : Bs) : (Lib.byteCells a).length = a.length := by simp [Lib.byteCells]

/-- How it stands in Write's loop: the table, the builder, all that was there. -/
structure WSt (w : World) (tb bb : Nat) (s : Bs) (W : World) : Prop where
  tab : TabOk W tb 0
  bld : Lib.IsBuilder 50 5 bb bb (Lib.byteCells s) W
  below : Below tb w W
  size : bb < W.heap.size

set_option maxHeartbeats 1000000 in
theorem write_c (A : Option Addr) (n c : Nat) (xs : List Int) (w : World) (hn : n = xs.length) (h60 : n ≤ 60) (hr : Rd .u32 w 0 w.heap.size A xs) (hx : ∀ x ∈ xs, 0 ≤ x ∧ x ≤ 4294967295) (hN : NamesOk w) (hP : PowOk w) (h7 : 7 ≤ w.heap.size) :
    Calls Tryz.prog 4 #[.slice A n c] w fun e w' => e = .returned (.string (BA (wrOf xs))) ∧ Below w.heap.size w w' := by
  have HN : Hid (n = xs.length) := hn
  have HR : Hid (Rd .u32 w 0 w.heap.size A xs) := hr
  have HX : Hid (∀ x ∈ xs, 0 ≤ x ∧ x ≤ 4294967295) := hx
  have HNM : Hid (NamesOk w) := hN
  have HP : Hid (PowOk w) := hP
  have hz := ztab_zero
  obtain ⟨tb, htb⟩ : ∃ tb, tb = w.heap.size := ⟨_, rfl⟩
  obtain ⟨bb, hbb⟩ : ∃ bb, bb = w.heap.size + 1 := ⟨_, rfl⟩
  have HS0 : Hid (WSt w tb bb [] ((w.alloc (.cells ztab 46)).alloc (.cells #[.pointer none, .slice none 0 0] 50))) := by
    have e : (w.alloc (.cells ztab 46)).heap.size = bb := by simp; omega
    refine ⟨by rw [htb]; exact (tab_new w).alloc _, .inl ⟨Nat.le_refl _, .slice none 0 0, ?_, World.ownsRow_nil _ _ _ _, by simp [Value.ownBlock]⟩, by rw [htb]; exact ((Below.refl _ _).alloc (Nat.le_refl _) _).alloc (by simp) _, by simp; omega⟩
    rw [← e]
    exact heap_alloc_new _ _
  have htb10 : 7 ≤ tb := by omega
  have htbb : tb < bb := by omega
  have HTB : Hid (tb = w.heap.size) := htb
  clear hn hr hx hN hP
  go_enter Tryz.func4, Tryz.ntmps4
  go_wp2
  rw [← hbb, ← htb]
  generalize (w.alloc (.cells ztab 46)).alloc (.cells #[.pointer none, .slice none 0 0] 50) = w0 at HS0 ⊢
  clear htb hbb hz
  go_loopg [9] n (fun g0 i wx => ∃ k : Nat, k + g0 = n ∧ i = .int .i64 k ∧ Hid (WSt w tb bb (wrOf (xs.take k)) wx))
  case atStart => exact ⟨0, by omega, rfl, by show WSt _ _ _ _ _; simpa [wrOf] using HS0.out⟩
  case round =>
    obtain ⟨k, hkg, rfl, HS⟩ := hrel
    clear HS0
    by_cases hlt : k < n
    · have hkx : k < xs.length := by have := HN.out; omega
      obtain ⟨b, off, hA, _, hbl, hcell⟩ := HR.out.at_ hkx
      obtain ⟨x, hxx⟩ : ∃ x, x = xs.getD k 0 := ⟨_, rfl⟩
      have hmem : x ∈ xs := by rw [hxx]; simp [List.getD, hkx]
      obtain ⟨hx0, hx1⟩ := HX.out x hmem
      have hcx : wr.cell? ⟨b, off + k, none⟩ = some (.int .u32 x) := by rw [hxx]; exact (HS.out.below.cell (p := ⟨b, off + k, none⟩) (by show b < tb; have := HTB.out; omega)).trans (hcell k hkx)
      have HTK : Hid (xs.take (k + 1) = xs.take k ++ [x]) := by
        show _ = _
        rw [List.take_add_one, hxx]
        simp [List.getD, hkx]
      obtain ⟨u, hu⟩ : ∃ u : Nat, x = u := ⟨x.toNat, by omega⟩
      subst hA
      clear hcell hmem hxx
      subst hu
      have hu32 : u ≤ 4294967295 := by omega
      have HLS : Hid ((wrOf (xs.take k)).length ≤ 60 * 125) := by
        show _ ≤ _
        have := wr_short (xs.take k) (fun y hy => HX.out y (List.mem_of_mem_take hy))
        rw [List.length_take] at this
        have h5 : min k xs.length * 125 ≤ 60 * 125 := Nat.mul_le_mul_right _ (by omega)
        omega
      have HLL : Hid ((lineW (u : Int)).length ≤ 124) := line_short (u : Int) (by omega) (by omega)
      go_wp2_with fail
      refine (partsOf_c u tb _ hu32 HS.out.tab (HNM.out.below HS.out.below (by omega)) (HP.out.on HS.out.below htb10) htb10).mono ?_
      rintro e w1 ⟨g1, c1, rfl, hc1, hg1, hcl1, t1, k1⟩
      have H1 : Hid (WSt w tb bb (wrOf (xs.take k)) w1) := ⟨t1, isb_but HS.out.bld k1 (by simp; omega), HS.out.below.trans (k1.below (by have := HS.out.size; omega) (by simp)), Nat.lt_of_lt_of_le HS.out.size k1.size⟩
      have HC1 : Hid (∀ (j : Nat) x, ((spell (u : Int)).map BA)[j]? = some x → w1.cell? ⟨g1, 0 + j, none⟩ = some (.string x)) := hcl1
      obtain ⟨ln, hln⟩ : ∃ ln, ln = ((spell (u : Int)).map BA).length := ⟨_, rfl⟩
      have HJ : Hid (∀ W : World, (∀ (j : Nat) x, ((spell (u : Int)).map BA)[j]? = some x → W.cell? ⟨g1, 0 + j, none⟩ = some (.string x)) → g1 < W.heap.size →
          Calls Tryz.prog 10 #[.slice (some ⟨g1, 0, none⟩) ln c1, .string (BA [32])] W fun e w' => e = .returned (.string (BA (lineW (u : Int)))) ∧ Below W.heap.size W w') := by
        show ∀ W : World, _ → _ → _
        intro W hc hb
        have hj := Tryz.strings_Join g1 0 c1 ((spell (u : Int)).map BA) (BA [32]) W hc hb (by rw [List.length_map]; have := (spell_short (u : Int) (by omega) (by omega)).1; omega) hc1 (by rw [map_BA, show (BA [32]).data.toList = [32] from rfl, join_eq]; have := HLL.out; unfold lineW at this; omega)
        rw [map_BA, show (BA [32]).data.toList = [32] from rfl, join_eq, ← hln] at hj
        exact hj
      rw [← hln]
      clear t1 k1 hcl1 hcx HS hln hc1
      go_wp2_with fail
      refine (HJ.out _ HC1.out hg1).mono ?_
      rintro e w2 ⟨rfl, k2⟩
      have H2 : Hid (WSt w tb bb (wrOf (xs.take k)) w2) := ⟨H1.out.tab.below k2, isb_but H1.out.bld (But.of_below (l := []) k2) (by simp), H1.out.below.trans (k2.mono (by have := H1.out.size; omega)), Nat.lt_of_lt_of_le H1.out.size k2.size⟩
      clear k2 H1 HC1 hg1 HJ
      go_wp2_with fail
      refine (bwstr_c bb bb (Lib.byteCells (wrOf (xs.take k))) (BA (lineW (u : Int))) _ H2.out.bld (by rw [cells_len, BA_size]; have := HLS.out; have := HLL.out; omega) (Nat.le_of_lt H2.out.size)).mono ?_
      rintro e w3 ⟨rfl, h3, k3⟩
      rw [cells_app] at h3
      have H3 : Hid (WSt w tb bb (wrOf (xs.take k) ++ lineW (u : Int)) w3) := ⟨H2.out.tab.on (⟨k3.os, k3.tape, k3.output, k3.size, fun j hj hn => k3.block j (by simp at hn; omega)⟩ : But ((List.range w2.heap.size).filter (fun j => decide (bb ≤ j))) w2 w3) (by simp; omega), .inr h3, H2.out.below.trans (k3.mono (by omega)), Nat.lt_of_lt_of_le H2.out.size k3.size⟩
      clear h3 k3 H2
      go_wp2_with fail
      refine (bwbyte_c bb bb (Lib.byteCells (wrOf (xs.take k) ++ lineW (u : Int))) 10 _ H3.out.bld (by rw [cells_len, List.length_append]; have := HLS.out; have := HLL.out; omega) (Nat.le_of_lt H3.out.size)).mono ?_
      rintro e w4 ⟨rfl, h4, k4⟩
      rw [show ([Value.int .u8 10] : List Value) = [.int .u8 ((10 : UInt8).toNat : Int)] from rfl, cells_one] at h4
      have H4 : Hid (WSt w tb bb (wrOf (xs.take (k + 1))) w4) := by
        show WSt _ _ _ _ _
        rw [HTK.out, wr_snoc, ← List.append_assoc]
        exact ⟨H3.out.tab.on (⟨k4.os, k4.tape, k4.output, k4.size, fun j hj hn => k4.block j (by simp at hn; omega)⟩ : But ((List.range w3.heap.size).filter (fun j => decide (bb ≤ j))) w3 w4) (by simp; omega), .inr h4, H3.out.below.trans (k4.mono (by omega)), Nat.lt_of_lt_of_le H3.out.size k4.size⟩
      clear h4 k4 H3
      go_wp2
      go_roundg (n - (k + 1))
      case measure => omega
      case rel => exact ⟨k + 1, by omega, by go_num, H4⟩
    · obtain rfl : k = n := by omega
      have HE : Hid (WSt w tb bb (wrOf xs) wr) := by
        show WSt _ _ _ _ _
        have := HS.out
        rwa [HN.out, List.take_length] at this
      go_wp2_with fail
      refine (Tryz.Builder_String_any bb bb (wrOf xs) _ HE.out.bld (Nat.le_of_lt HE.out.size)).mono ?_
      rintro e w5 ⟨rfl, k5⟩
      have K5 : Hid (Below w.heap.size w w5) := by
        show Below _ _ _
        rw [← HTB.out]
        exact HE.out.below.trans (k5.mono (by omega))
      clear k5
      go_wp2
      go_ret
      exact ⟨rfl, K5.out⟩
end Go.Proofs.YtpnmnokedpagmaaGreatDoor
