/-
  Package asm's Ops, registers and numbers, each by a contract of its own.
-/
import Derived.Test.YtpnmnokedpagmaaGreatDoorAsmStr
import Derived.Test.YtpnmnokedpagmaaGreatDoorIsaWord
import Derived.Test.YtpnmnokedpagmaaGreatDoorMem
import Derived.Laws.Rows
import Derived.Lib.ItoaLen
import Derived.Deep.RegionHeld3
namespace Go.Proofs.YtpnmnokedpagmaaGreatDoor
open Go.RowKit
set_option linter.unusedVariables false
set_option linter.unusedSimpArgs false
set_option maxRecDepth 20000

/-- The names of the Ops, as the program's variable holds them. -/
def namesV : Array Value := #[.string (BA []), .string (BA [115, 101, 116]), .string (BA [104, 105, 103, 104]), .string (BA [109, 111, 118]), .string (BA [97, 100, 100]), .string (BA [115, 117, 98]), .string (BA [109, 117, 108]), .string (BA [100, 105, 118]), .string (BA [97, 110, 100]), .string (BA [111, 114]), .string (BA [120, 111, 114]), .string (BA [115, 104, 108]), .string (BA [115, 104, 114]), .string (BA [97, 100, 100, 105]), .string (BA [108, 111, 97, 100]), .string (BA [115, 116, 111, 114, 101]), .string (BA [108, 111, 97, 100, 98]), .string (BA [115, 116, 111, 114, 101, 98]), .string (BA [106, 109, 112]), .string (BA [106, 122]), .string (BA [106, 110, 122]), .string (BA [106, 108, 116]), .string (BA [99, 97, 108, 108]), .string (BA [114, 101, 116]), .string (BA [115, 121, 115])]
def NamesOk (w : World) : Prop := ∃ t fr, w.heap[0]? = some (.cells namesV t fr)
theorem NamesOk.below {w w' : World} {B : Nat} (h : NamesOk w) (k : Below B w w') (hB : 0 < B) : NamesOk w' := by
  obtain ⟨t, fr, h⟩ := h
  exact ⟨t, fr, (k.block 0 hB).trans h⟩
theorem str_ne {p q : Bs} (h : ¬ p = q) : ((BA p).toList == (BA q).toList) = false := by
  rw [Lib.toList_data, Lib.toList_data]; simpa [BA] using h
theorem str_eq (p : Bs) : ((BA p).toList == (BA p).toList) = true := by simp
theorem idx_names (k : Nat) (hk : k < 25) (w : World) : (Instr.index 83 (.agg namesV) (.int .i64 (k : Int))).run Tryz.prog w = .ok (.string (BA (opNames.getD k []))) w := by
  have : k = 0 ∨ k = 1 ∨ k = 2 ∨ k = 3 ∨ k = 4 ∨ k = 5 ∨ k = 6 ∨ k = 7 ∨ k = 8 ∨ k = 9 ∨ k = 10 ∨ k = 11 ∨ k = 12 ∨ k = 13 ∨ k = 14 ∨ k = 15 ∨ k = 16 ∨ k = 17 ∨ k = 18 ∨ k = 19 ∨ k = 20 ∨ k = 21 ∨ k = 22 ∨ k = 23 ∨ k = 24 := by omega
  rcases this with rfl | rfl | rfl | rfl | rfl | rfl | rfl | rfl | rfl | rfl | rfl | rfl | rfl | rfl | rfl | rfl | rfl | rfl | rfl | rfl | rfl | rfl | rfl | rfl | rfl
  all_goals (show _ = _; kernel_rfl)

theorem opNames_len : opNames.length = 25 := rfl
theorem opNum_hit (p : Bs) (k : Nat) (hk : k < 25) (h : ∀ j, j < k → p ≠ opNames.getD j []) (he : p = opNames.getD k []) : opNum p = k := by
  have hlt : k < opNames.length := hk
  have : opNames.findIdx (fun n => p == n) = k := by
    rw [List.findIdx_eq hlt]
    refine ⟨by simp [he, List.getD, List.getElem?_eq_getElem hlt], fun j hj => ?_⟩
    have := h j hj
    simp only [List.getD, List.getElem?_eq_getElem (Nat.lt_trans hj hlt), Option.getD_some] at this
    simpa using this
  unfold opNum
  simp [this, hk]
theorem opNum_miss (p : Bs) (h : ∀ j, j < 25 → p ≠ opNames.getD j []) : opNum p = 0 := by
  have : opNames.findIdx (fun n => p == n) = 25 := by
    rw [← opNames_len, List.findIdx_eq_length]
    intro x hx
    obtain ⟨j, hj⟩ := List.getElem?_of_mem hx
    have hlt : j < 25 := (List.getElem?_eq_some_iff.1 hj).1
    have := h j hlt
    simp only [List.getD, hj, Option.getD_some] at this
    simpa using this
  unfold opNum
  simp [this]

set_option maxHeartbeats 1000000 in
theorem opOf_c (p : Bs) (w : World) (hN : NamesOk w) : Calls Tryz.prog 59 #[.string (BA p)] w fun e w' => e = .returned (.int .i64 (opNum p : Nat)) ∧ w' = w := by
  obtain ⟨tt, fr, hg1⟩ := hN
  have hsz : (Tryz.prog.info? 83).map (·.size) = some namesV.size := by kernel_rfl
  obtain ⟨V, hV⟩ : ∃ V, V = namesV := ⟨_, rfl⟩
  have hx := idx_names
  rw [← hV] at hg1 hx hsz
  have HS : Hid _ := hsz
  clear hV hsz
  go_enter Tryz.func59, Tryz.ntmps59
  go_wp2_with (refine wpList_load_row rfl 83 _ rfl 0 rfl tt V fr _ hg1 Tryz.underlying83 rfl HS.out ?_)
  go_loop [6] (fun i => ∃ k : Nat, k ≤ 25 ∧ i = .int .i64 k ∧ Hid (∀ j, j < k → p ≠ opNames.getD j [])) (fun i => 25 - (intOf i).toNat)
  case atStart => exact ⟨0, by omega, rfl, fun j hj => absurd hj (by omega)⟩
  case round =>
    obtain ⟨k, hk, rfl, HM⟩ := hrel
    by_cases hlt : k < 25
    · have hxk := hx k hlt
      clear hx
      obtain ⟨q, hq⟩ : ∃ q, q = opNames.getD k [] := ⟨_, rfl⟩
      rw [← hq] at hxk
      have HQ : Hid _ := hq
      clear hq
      by_cases he : p = q
      · have HO : Hid (opNum p = k) := opNum_hit p k hlt HM.out (he.trans HQ.out)
        subst he
        go_wp2
        go_ret
        exact ⟨by rw [HO.out]; rfl, rfl⟩
      · have he' := str_ne he
        go_wp2
        go_round
        case rel => exact ⟨k + 1, by omega, by go_num, fun j hj => by rcases Nat.lt_succ_iff_lt_or_eq.1 hj with h | h; exact HM.out j h; subst h; rw [← HQ.out]; exact he⟩
        case measure => simp [intOf] <;> omega
    · obtain rfl : k = 25 := by omega
      have HO : Hid (opNum p = 0) := opNum_miss p HM.out
      clear hx
      go_wp2
      go_ret
      exact ⟨by rw [HO.out]; rfl, rfl⟩

theorem vld_a (op : Int) : vldB op 1 0 0 = faB op := by
  unfold vldB mayB faB
  cases hk : knB op <;> simp
theorem kn_of_fb {op : Int} (h : fbB op = true) : knB op = true := by
  unfold fbB at h; unfold knB
  simp at h ⊢; omega
theorem vld_b (op : Int) : vldB op 0 1 0 = fbB op := by
  cases hb : fbB op with
  | true => simp [vldB, mayB, hb, kn_of_fb hb]; 
  | false => simp [vldB, mayB, hb]
theorem vld_i (op : Int) : vldB op 0 0 1 = fiB op := by
  cases hb : fiB op with
  | true =>
    have : knB op = true := by unfold fiB at hb; cases h : knB op <;> simp [h] at hb ⊢
    simp [vldB, mayB, hb, this]
  | false => simp [vldB, mayB, hb]

theorem box3 {b lo hi : Nat} {w w1 : World} {t : TypeId} {x0 x1 x2 : Value} (q : Keep b lo hi (w.alloc (.cells #[x0, x1, x2] t)) w1) (hb : b < w.heap.size) :
    w.heap.size < w1.heap.size ∧ w1.heap[w.heap.size]? = some (.cells #[x0, x1, x2] t) := by
  have h : w1.heap[w.heap.size]? = some (.cells #[x0, x1, x2] t) := (q.block w.heap.size (by simp) (by omega)).trans (heap_alloc_new w _)
  have hs := q.size
  exact ⟨by simp at hs; omega, h⟩

set_option maxHeartbeats 1000000 in
theorem fieldsOf_c (b off : Nat) (op : Int) (w : World) (ht : TabOk w b off) :
    Calls Tryz.prog 24 #[.pointer (some ⟨b, off, none⟩), .int .i64 op] w fun e w' => e = .returned (.agg #[.bool (faB op), .bool (fbB op), .bool (fiB op)]) ∧ TabOk w' b off ∧ Keep b off (off + 103) w w' := by
  have hb := ht.home
  have hk0 := (Keep.refl off (off + 103) hb).alloc (.cells #[.bool false, .bool false, .bool false] 85)
  go_enter Tryz.func24, Tryz.ntmps24
  go_wp2_with fail
  refine (valid_c b off op 1 0 0 _ (ht.alloc _)).mono ?_
  rw [vld_a]
  rintro e w1 ⟨rfl, t1, q1⟩
  go_wp2_with fail
  refine (valid_c b off op 0 1 0 _ t1).mono ?_
  rw [vld_b]
  rintro e w2 ⟨rfl, t2, q2⟩
  go_wp2_with fail
  refine (valid_c b off op 0 0 1 _ t2).mono ?_
  rw [vld_i]
  rintro e w3 ⟨rfl, t3, q3⟩
  have q13 := (q1.trans q2).trans q3
  obtain ⟨hlt, hbk⟩ := box3 q13 hb
  have K3 := hk0.trans q13
  have c0 : w3.cell? ⟨w.heap.size, 0, none⟩ = some (.bool false) := by unfold World.cell?; rw [hbk]; rfl
  have c1 : w3.cell? ⟨w.heap.size, 1, none⟩ = some (.bool false) := by unfold World.cell?; rw [hbk]; rfl
  have c2 : w3.cell? ⟨w.heap.size, 2, none⟩ = some (.bool false) := by unfold World.cell?; rw [hbk]; rfl
  have z0 : ∀ j, w3.frozen? ⟨w.heap.size, j, none⟩ = false := fun j => by unfold World.frozen?; rw [hbk]; simp
  clear q1 q2 q3 hk0 q13 hbk
  go_wp2
  have hne : w.heap.size ≠ b := by omega
  have k0 : (((w3.setCell ⟨w.heap.size, 0, none⟩ (.bool (faB op))).setCell ⟨w.heap.size, 1, none⟩ (.bool (fbB op))).setCell ⟨w.heap.size, 2, none⟩ (.bool (fiB op))).cell? ⟨w.heap.size, 0, none⟩ = some (.bool (faB op)) := by
    rw [World.cell?_setCell_other _ _ _ _ (addr_ne (by decide)), World.cell?_setCell_other _ _ _ _ (addr_ne (by decide))]; exact World.cell?_setCell_same _ _ _ c0
  have k1 : (((w3.setCell ⟨w.heap.size, 0, none⟩ (.bool (faB op))).setCell ⟨w.heap.size, 1, none⟩ (.bool (fbB op))).setCell ⟨w.heap.size, 2, none⟩ (.bool (fiB op))).cell? ⟨w.heap.size, 1, none⟩ = some (.bool (fbB op)) := by
    rw [World.cell?_setCell_other _ _ _ _ (addr_ne (by decide))]; exact World.cell?_setCell_same _ _ _ ((World.cell?_setCell_other _ _ _ _ (addr_ne (by decide))).trans c1)
  have k2 : (((w3.setCell ⟨w.heap.size, 0, none⟩ (.bool (faB op))).setCell ⟨w.heap.size, 1, none⟩ (.bool (fbB op))).setCell ⟨w.heap.size, 2, none⟩ (.bool (fiB op))).cell? ⟨w.heap.size, 2, none⟩ = some (.bool (fiB op)) := by
    exact World.cell?_setCell_same _ _ _ ((World.cell?_setCell_other _ _ _ _ (addr_ne (by decide))).trans ((World.cell?_setCell_other _ _ _ _ (addr_ne (by decide))).trans c2))
  exact bodyPost_ret (v := .agg #[.bool (faB op), .bool (fbB op), .bool (fiB op)]) (by simp [results, Tryz.results24, go_sem, k0, k1, k2]) rfl
    ⟨rfl, (((t3.setFar hne _).setFar hne _).setFar hne _), (((K3.setNew (Nat.le_refl _) _).setNew (Nat.le_refl _) _).setNew (Nat.le_refl _) _)⟩

theorem takesLabel_c (op : Nat) (w : World) : Calls Tryz.prog 80 #[.int .i64 op] w fun e w' => e = .returned (.bool (jumpB op)) ∧ w' = w := by
  by_cases h1 : op = 18
  · subst h1; go_enter Tryz.func80, Tryz.ntmps80; go_wp2; go_ret; exact ⟨rfl, rfl⟩
  by_cases h2 : op = 19
  · subst h2; go_enter Tryz.func80, Tryz.ntmps80; go_wp2; go_ret; exact ⟨rfl, rfl⟩
  by_cases h3 : op = 20
  · subst h3; go_enter Tryz.func80, Tryz.ntmps80; go_wp2; go_ret; exact ⟨rfl, rfl⟩
  by_cases h4 : op = 21
  · subst h4; go_enter Tryz.func80, Tryz.ntmps80; go_wp2; go_ret; exact ⟨rfl, rfl⟩
  by_cases h5 : op = 22
  · subst h5; go_enter Tryz.func80, Tryz.ntmps80; go_wp2; go_ret; exact ⟨rfl, rfl⟩
  have hb : jumpB op = false := by unfold jumpB; simp [h1, h2, h3, h4, h5]
  have e1 : ¬ (op : Int) = 18 := by omega
  have e2 : ¬ (op : Int) = 19 := by omega
  have e3 : ¬ (op : Int) = 20 := by omega
  have e4 : ¬ (op : Int) = 21 := by omega
  have e5 : ¬ (op : Int) = 22 := by omega
  rw [hb]
  go_enter Tryz.func80, Tryz.ntmps80
  go_wp2
  go_ret
  exact ⟨rfl, rfl⟩

theorem append_BA (a b : Bs) : (BA a ++ BA b : ByteArray) = BA (a ++ b) := by
  apply ByteArray.ext
  simp [BA]
theorem regName_c (n : Nat) (hn : n < 100) (w : World) : Calls Tryz.prog 25 #[.int .i64 n] w fun e w' => e = .returned (.string (BA (regName n))) ∧ w' = w := by
  have hlen : ¬ 9223372036854775807 < 1 + (Lib.decDigits n).length := by
    have := Lib.itoa_length_le n (by omega) (by omega)
    unfold Lib.itoa at this
    rw [if_neg (by omega)] at this
    simp at this; omega
  go_enter Tryz.func25, Tryz.ntmps25
  go_wp2_with (go_at_call 26; refine (Tryz.strconv_Itoa_small n hn _).mono ?_; rintro e w' ⟨rfl, rfl⟩)
  go_ret
  refine ⟨?_, rfl⟩
  have := append_BA [114] (Lib.decDigits n)
  exact congrArg (fun s => Ending.returned (.string s)) this

theorem regNum_hit (p : Bs) (k : Nat) (hk : k < 16) (h : ∀ j, j < k → p ≠ regName j) (he : p = regName k) : regNum p = some k := by
  unfold regNum
  rw [List.find?_range_eq_some]
  refine ⟨by simp [he], by simp [hk], fun j hj => by simpa using h j hj⟩
theorem regNum_miss (p : Bs) (h : ∀ j, j < 16 → p ≠ regName j) : regNum p = none := by
  unfold regNum
  rw [List.find?_eq_none]
  intro j hj
  simp at hj
  simpa using h j hj

set_option maxHeartbeats 1000000 in
theorem register_c (p : Bs) (w : World) : Calls Tryz.prog 61 #[.string (BA p)] w fun e w' => e = .returned (.tuple #[.int .i64 ((regNum p).getD 0 : Nat), .bool (regNum p).isSome]) ∧ w' = w := by
  go_enter Tryz.func61, Tryz.ntmps61
  go_wp2
  go_loop [5] (fun i => ∃ k : Nat, k ≤ 16 ∧ i = .int .i64 k ∧ Hid (∀ j, j < k → p ≠ regName j)) (fun i => 16 - (intOf i).toNat)
  case atStart => exact ⟨0, by omega, rfl, fun j hj => absurd hj (by omega)⟩
  case round =>
    obtain ⟨k, hk, rfl, HM⟩ := hrel
    by_cases hlt : k < 16
    · obtain ⟨q, hq⟩ : ∃ q, q = regName k := ⟨_, rfl⟩
      have HQ : Hid _ := hq
      have hr := regName_c k (by omega)
      rw [← hq] at hr
      clear hq
      by_cases he : p = q
      · have HO : Hid (regNum p = some k) := regNum_hit p k hlt HM.out (he.trans HQ.out)
        subst he
        go_wp2_with (go_at_call 25; refine (hr _).mono ?_; rintro e w' ⟨rfl, rfl⟩)
        go_ret2
        exact ⟨by rw [HO.out]; rfl, rfl⟩
      · have he' := str_ne he
        go_wp2_with (go_at_call 25; refine (hr _).mono ?_; rintro e w' ⟨rfl, rfl⟩)
        go_round
        case rel => exact ⟨k + 1, by omega, by go_num, fun j hj => by rcases Nat.lt_succ_iff_lt_or_eq.1 hj with h | h; exact HM.out j h; subst h; rw [← HQ.out]; exact he⟩
        case measure => simp [intOf] <;> omega
    · obtain rfl : k = 16 := by omega
      have HO : Hid (regNum p = none) := regNum_miss p HM.out
      go_wp2
      go_ret2
      exact ⟨by rw [HO.out]; rfl, rfl⟩

def bitN (b : Bool) : Nat := if b then 1 else 0
set_option maxHeartbeats 1000000 in
theorem count_c (a b c : Bool) (w : World) : Calls Tryz.prog 60 #[.agg #[.bool a, .bool b, .bool c]] w fun e w' => e = .returned (.int .i64 (bitN a + bitN b + bitN c : Nat)) ∧ w' = w.alloc (.cells #[.bool a, .bool b, .bool c] 85) := by
  have hx : ∀ (v0 v1 v2 : Value) w, (Instr.index 146 (.agg #[v0, v1, v2]) (.int .i64 0)).run Tryz.prog w = .ok v0 w := fun _ _ _ _ => by kernel_rfl
  have hy : ∀ (v0 v1 v2 : Value) w, (Instr.index 146 (.agg #[v0, v1, v2]) (.int .i64 1)).run Tryz.prog w = .ok v1 w := fun _ _ _ _ => by kernel_rfl
  have hz : ∀ (v0 v1 v2 : Value) w, (Instr.index 146 (.agg #[v0, v1, v2]) (.int .i64 2)).run Tryz.prog w = .ok v2 w := fun _ _ _ _ => by kernel_rfl
  go_enter Tryz.func60, Tryz.ntmps60
  go_wp2
  go_loop [3, 13] (fun n i => (i = .int .i64 0 ∧ n = .int .i64 0) ∨ (i = .int .i64 1 ∧ n = .int .i64 (bitN a : Nat)) ∨ (i = .int .i64 2 ∧ n = .int .i64 (bitN a + bitN b : Nat)) ∨ (i = .int .i64 3 ∧ n = .int .i64 (bitN a + bitN b + bitN c : Nat))) (fun _ i => 3 - (intOf i).toNat)
  case atStart => exact .inl ⟨rfl, rfl⟩
  case round =>
    rcases hrel with ⟨rfl, rfl⟩ | ⟨rfl, rfl⟩ | ⟨rfl, rfl⟩ | ⟨rfl, rfl⟩
    · cases a
      · go_wp2
        go_round
        case rel => exact .inr (.inl ⟨by go_num, rfl⟩)
        case measure => simp [intOf]
      · go_wp2
        go_round
        case rel => exact .inr (.inl ⟨by go_num, rfl⟩)
        case measure => simp [intOf]
    · cases b
      · go_wp2
        go_round
        case rel => exact .inr (.inr (.inl ⟨by go_num, by simp [bitN]⟩))
        case measure => simp [intOf]
      · cases a
        · go_wp2
          go_round
          case rel => exact .inr (.inr (.inl ⟨by go_num, congrArg (Value.int .i64) (by kernel_rfl)⟩))
          case measure => simp [intOf]
        · go_wp2
          go_round
          case rel => exact .inr (.inr (.inl ⟨by go_num, congrArg (Value.int .i64) (by kernel_rfl)⟩))
          case measure => simp [intOf]
    · cases c
      · go_wp2
        go_round
        case rel => exact .inr (.inr (.inr ⟨by go_num, by simp [bitN]⟩))
        case measure => simp [intOf]
      · cases a <;> cases b
        · go_wp2
          go_round
          case rel => exact .inr (.inr (.inr ⟨by go_num, congrArg (Value.int .i64) (by kernel_rfl)⟩))
          case measure => simp [intOf]
        · go_wp2
          go_round
          case rel => exact .inr (.inr (.inr ⟨by go_num, congrArg (Value.int .i64) (by kernel_rfl)⟩))
          case measure => simp [intOf]
        · go_wp2
          go_round
          case rel => exact .inr (.inr (.inr ⟨by go_num, congrArg (Value.int .i64) (by kernel_rfl)⟩))
          case measure => simp [intOf]
        · go_wp2
          go_round
          case rel => exact .inr (.inr (.inr ⟨by go_num, congrArg (Value.int .i64) (by kernel_rfl)⟩))
          case measure => simp [intOf]
    · go_wp2
      go_ret
      exact ⟨rfl, rfl⟩

def digB (c : UInt8) : Bool := decide (48 ≤ c.toNat) && decide (c.toNat ≤ 57)
theorem BA_get (l : Bs) (k : Nat) (h : k < (BA l).size) : (BA l)[k]'h = l[k]'h := rfl
theorem BA_isEmpty (c : UInt8) (t : Bs) : (BA (c :: t)).toList.isEmpty = false := by rw [Lib.toList_data]; rfl
theorem str_lit (p l : Bs) : ((BA p).toList == l) = (p == l) := by rw [Lib.toList_data]; rfl

set_option maxHeartbeats 1000000 in
theorem isNum_c (p : Bs) (hp : p.length ≤ 4294967296) (w : World) : Calls Tryz.prog 45 #[.string (BA p)] w fun e w' => e = .returned (.bool (isNum p)) ∧ w' = w := by
  obtain ⟨d, hd⟩ : ∃ d, d = Lib.trimPrefix p [45] := ⟨_, rfl⟩
  have HD : Hid _ := hd
  have htr := Tryz.strings_TrimPrefix (BA p) ⟨#[45]⟩
  have hdl : d.length ≤ p.length := by rw [hd]; exact Lib.trimPrefix_le _ _
  rw [BA_data, show (ByteArray.mk #[45]).data.toList = [45] from rfl, ← hd] at htr
  clear hd
  replace htr : ∀ w, Calls Tryz.prog 64 #[.string (BA p), .string ⟨#[45]⟩] w fun e w' => e = .returned (.string (BA d)) ∧ w' = w := htr
  cases d with
  | nil =>
    have HI : Hid (isNum p = false) := by unfold isNum; rw [← HD.out]; exact rfl
    have he : (BA []).toList.isEmpty = true := by rw [Lib.toList_data]; rfl
    go_enter Tryz.func45, Tryz.ntmps45
    go_wp2_with (go_at_call 64; refine (htr _).mono ?_; rintro e w' ⟨rfl, rfl⟩)
    go_ret
    exact ⟨by rw [HI.out]; rfl, rfl⟩
  | cons c t =>
    have he := BA_isEmpty c t
    have hs0 : 0 < (BA (c :: t)).size := by rw [BA_size]; simp
    have hget := BA_get (c :: t)
    by_cases hc : c = 48
    · subst hc
      have HI : Hid (isNum p = (p == [48])) := by unfold isNum; rw [← HD.out]; exact rfl
      have hlit := str_lit p
      go_enter Tryz.func45, Tryz.ntmps45
      go_wp2_with (go_at_call 64; refine (htr _).mono ?_; rintro e w' ⟨rfl, rfl⟩)
      go_ret
      exact ⟨by rw [HI.out]; rfl, rfl⟩
    · have HI : Hid (isNum p = (c :: t).all digB) := by unfold isNum; rw [← HD.out]; exact if_neg hc
      have hcn : ¬ (c.toNat : Int) = 48 := fun h => hc (UInt8.toNat_inj.1 (by rw [show (48 : UInt8).toNat = 48 from rfl]; omega))
      obtain ⟨d, hd⟩ : ∃ d, d = c :: t := ⟨_, rfl⟩
      have h00 : ∀ h, (BA d)[0]'h = c := fun h => by subst hd; rfl
      rw [← hd] at hs0 hdl he hget HI htr
      have HG : Hid _ := hget
      have hsd := BA_size d
      have hmax : (BA d).size ≤ 4294967296 := by omega
      have HSD : Hid _ := hsd
      clear hd hget hsd HD
      go_enter Tryz.func45, Tryz.ntmps45
      go_wp2_with (go_at_call 64; refine (htr _).mono ?_; rintro e w' ⟨rfl, rfl⟩)
      go_loop [16] (fun i => ∃ k : Nat, k ≤ (BA d).size ∧ i = .int .i64 k ∧ Hid (∀ j (h : j < d.length), j < k → digB d[j] = true)) (fun i => (BA d).size - (intOf i).toNat)
      case atStart => exact ⟨0, by omega, rfl, fun j _ hj => absurd hj (by omega)⟩
      case round =>
        obtain ⟨k, hk, rfl, HM⟩ := hrel
        clear htr h00
        by_cases hlt : k < (BA d).size
        · have hld : k < d.length := by have := HSD.out; omega
          obtain ⟨q, hq, hqd⟩ : ∃ q : UInt8, (∀ h, (BA d)[k]'h = q) ∧ ∀ h, d[k]'h = q := ⟨(BA d)[k]'hlt, fun _ => rfl, fun _ => rfl⟩
          have HQ : Hid _ := hqd
          clear hqd
          by_cases h1 : (q.toNat : Int) < 48
          · have HF : Hid (d.all digB = false) := by
              show d.all digB = false
              rw [List.all_eq_false]
              exact ⟨d[k]'hld, List.getElem_mem _, by rw [HQ.out]; simp [digB]; omega⟩
            go_wp2
            go_ret
            exact ⟨by rw [HI.out, HF.out]; rfl, rfl⟩
          by_cases h2 : (57 : Int) < q.toNat
          · have HF : Hid (d.all digB = false) := by
              show d.all digB = false
              rw [List.all_eq_false]
              exact ⟨d[k]'hld, List.getElem_mem _, by rw [HQ.out]; simp [digB]; omega⟩
            go_wp2
            go_ret
            exact ⟨by rw [HI.out, HF.out]; rfl, rfl⟩
          have h1' : (48 : Int) ≤ q.toNat := by omega
          have h2' : (q.toNat : Int) ≤ 57 := by omega
          go_wp2
          go_round
          case rel => exact ⟨k + 1, by omega, by go_num, fun j h hj => by rcases Nat.lt_succ_iff_lt_or_eq.1 hj with h' | h'; exact HM.out j h h'; subst h'; rw [HQ.out]; simp [digB]; omega⟩
          case measure => simp [intOf] <;> omega
        · obtain rfl : k = (BA d).size := by omega
          have HF : Hid (d.all digB = true) := by
            show d.all digB = true
            rw [List.all_eq_true]
            intro x hx
            obtain ⟨j, hj, rfl⟩ := List.getElem_of_mem hx
            exact HM.out j hj (by rw [HSD.out]; exact hj)
          go_wp2
          go_ret
          exact ⟨by rw [HI.out, HF.out]; rfl, rfl⟩
end Go.Proofs.YtpnmnokedpagmaaGreatDoor
