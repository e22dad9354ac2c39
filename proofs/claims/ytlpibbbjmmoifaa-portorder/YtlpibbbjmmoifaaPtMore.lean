/-
  Layer 9 (port): contracts of Clear, SendAll, All, over the translated program; a new port.
-/
import Derived.Test.YtlpibbbjmmoifaaPtBase
import Derived.Test.YtlpibbbjmmoifaaQue
import Derived.Test.YtlpibbbjmmoifaaMem
import Derived.Deep.AppendLies
namespace Go.Proofs.Ytlpibbbjmmoifaa.Pt
open Go.ChangeShapes Go.WideShapes Go.ChangeAt Go.RowKit
set_option linter.unusedVariables false
set_option maxRecDepth 20000

/-- The zero port's cells. -/
def pz (j : Nat) : Value := if j < 64 then .int .u32 0 else .int .i64 0
def zport : Array Value := ((List.range 66).map pz).toArray
theorem zport_zero (w : World) : (zeroValue 27).run Try.prog w = .ok (.agg zport) w := by kernel_rfl
theorem zport_size : zport.size = 66 := by simp [zport]
theorem zport_get (j : Nat) (h : j < 66) : zport[j]? = some (pz j) := by simp [zport, h]
theorem zport_all : zport.all (·.oneCell') = true := all_oneCell_toArray (by
  intro v hv
  simp only [List.mem_map] at hv
  obtain ⟨i, _, rfl⟩ := hv
  unfold pz
  split <;> rfl)
theorem Try.infoPort : (Try.prog.info? 27).map (·.size) = some zport.size := by rw [zport_size]; kernel_rfl
theorem port_new (w : World) : PtAt (w.alloc (.cells zport 27)) w.heap.size 0 0 [] := by
  have hc : ∀ j, j < 66 → (w.alloc (.cells zport 27)).cell? ⟨w.heap.size, 0 + j, none⟩ = some (pz j) := fun j hj => by
    rw [Nat.zero_add, cell_of_row _ _ j zport 27 (0, 0) (heap_alloc_last w _)]
    exact zport_get j hj
  exact ⟨by omega, by simp, hc 64 (by omega), hc 65 (by omega), there_new w zport 27 66 zport_size, fun i hi => by simp at hi⟩
theorem PtAt.clear {w : World} {b o s : Nat} {xs : List Int} (h : PtAt w b o s xs) : PtAt (w.setCells b o zport.toList) b o 0 [] := by
  have hl : zport.toList.length = 66 := by rw [Array.length_toList]; exact zport_size
  have hc : ∀ j, j < 66 → (w.setCells b o zport.toList).cell? ⟨b, o + j, none⟩ = some (pz j) := fun j hj => by
    rw [World.cell?_setCells_in b zport.toList o w (fun i hi => (h.there i (by omega)).1) j (by omega)]
    rw [← List.getElem?_eq_getElem, Array.getElem?_toList]
    exact zport_get j hj
  exact ⟨by omega, by simp, hc 64 (by omega), hc 65 (by omega), fun j hj => ⟨by rw [hc j hj]; rfl, by rw [World.frozen?_setCells]; exact (h.there j hj).2⟩, fun i hi => by simp at hi⟩

theorem clear_c (b o s : Nat) (xs : List Int) (w : World) (h : PtAt w b o s xs) :
    Calls Try.prog 9 #[.pointer (some ⟨b, o, none⟩)] w fun e w' => e = .returned (.int .i64 xs.length) ∧ PtAt w' b o 0 [] ∧ But [b] w w' := by
  have hz := zport_zero
  have hc := h.cc
  have hT : Hid (w.there b o zport.size) := by show w.there b o zport.size; rw [zport_size]; exact h.there
  have HX : Hid (PtAt (w.setCells b o zport.toList) b o 0 []) := h.clear
  have HB : Hid (But [b] w (w.setCells b o zport.toList)) := (But.refl [b] w).setCells (by simp) _ _
  clear h
  go_enter Try.func9, Try.ntmps9
  go_wp2_with (refine wpList_store_mid rfl 27 _ _ rfl b o zport rfl rfl hT.out Try.infoPort zport_all ?_)
  go_ret
  exact ⟨rfl, HX.out, HB.out⟩
theorem clear_nil (w : World) :
    Calls Try.prog 9 #[.pointer none] w fun e w' => e = .returned (.int .i64 0) ∧ w' = w := by
  go_enter Try.func9, Try.ntmps9
  go_wp2
  go_ret
  exact ⟨rfl, rfl⟩

theorem take_snoc (xs ys : List Int) (k : Nat) (hk : k < ys.length) : xs ++ ys.take k ++ [ys.getD k 0] = xs ++ ys.take (k + 1) := by
  rw [List.append_assoc, List.take_add_one]
  simp [List.getD, hk]
set_option maxHeartbeats 1000000 in
theorem sendAll_c (b o s : Nat) (xs ys : List Int) (A : Option Addr) (c : Nat) (w : World) (h : PtAt w b o s xs) (hr : Rd .u32 w 0 w.heap.size A ys) (hne : ys ≠ [] → ∀ g off, A = some ⟨g, off, none⟩ → g ≠ b) :
    Calls Try.prog 8 #[.pointer (some ⟨b, o, none⟩), .slice A ys.length c] w fun e w' => e = .returned (.int .i64 (min ys.length (64 - xs.length) : Nat)) ∧ PtAt w' b o s (xs ++ ys.take (64 - xs.length)) ∧ But [b] w w' := by
  have H : Hid (PtAt w b o s xs) := h
  have HR : Hid (Rd .u32 w 0 w.heap.size A ys) := hr
  have HNE : Hid (ys ≠ [] → ∀ g off, A = some ⟨g, off, none⟩ → g ≠ b) := hne
  have hm : xs.length ≤ 64 := h.most
  clear h hr hne
  generalize hn : ys.length = n
  have HN : Hid (ys.length = n) := hn
  clear hn
  generalize hp : xs.length = p at *
  have HP : Hid (xs.length = p) := hp
  clear hp
  go_enter Try.func8, Try.ntmps8
  go_wp2
  go_loopg [9] (n + 1) (fun g0 i wx => ∃ k : Nat, k + g0 = n + 1 ∧ i = .int .i64 k ∧ k ≤ n ∧ p + k ≤ 64 ∧ Hid (PtAt wx b o s (xs ++ ys.take k)) ∧ Hid (But [b] w wx))
  case atStart => exact ⟨0, by omega, rfl, by omega, by omega, by show PtAt _ _ _ _ _; simpa using H.out, But.refl _ _⟩
  case round =>
    obtain ⟨k, hkg, rfl, hkn, hk64, HT, HB⟩ := hrel
    by_cases hlt : k < n
    · have hkl : k < ys.length := by rw [HN.out]; exact hlt
      obtain ⟨g, off, hA, _, hg, hcell⟩ := HR.out.at_ hkl
      have hgb : g ≠ b := HNE.out (by intro e; subst e; simp at hkl) g off hA
      have hck := cell_keep (hcell k hkl) HB.out (by simpa using hgb)
      have hsn := take_snoc xs ys k hkl
      have hlen : (xs ++ ys.take k).length = p + k := by rw [List.length_append, List.length_take, HP.out]; omega
      generalize hv : ys.getD k 0 = v at *
      clear hv hcell
      subst hA
      have HS : Hid (xs ++ ys.take k ++ [v] = xs ++ ys.take (k + 1)) := hsn
      have HL : Hid ((xs ++ ys.take k).length = p + k) := hlen
      clear hsn hlen hkl hg hgb
      by_cases hfull : p + k < 64
      · go_wp2_with fail
        refine (send_c b o s v _ _ HT.out (by rw [HL.out]; exact hfull)).mono ?_
        rintro e w1 ⟨rfl, h1, k1⟩
        rw [HS.out] at h1
        have HT1 : Hid (PtAt w1 b o s (xs ++ ys.take (k + 1))) := h1
        have HB1 : Hid (But [b] w w1) := HB.out.trans k1
        clear h1 k1 hck
        go_wp2
        go_roundg (n + 1 - (k + 1))
        case measure => omega
        case rel => exact ⟨k + 1, by omega, by go_num, by omega, by omega, HT1.out, HB1.out⟩
      · go_wp2_with fail
        refine (send_no b o s v _ _ HT.out (by rw [HL.out]; omega)).mono ?_
        rintro e w1 ⟨rfl, rfl⟩
        go_wp2
        go_ret
        have hk : 64 - p = k := by omega
        rw [hk, show min n k = k by omega]
        exact ⟨rfl, HT.out, HB.out⟩
    · obtain rfl : k = n := by omega
      go_wp2
      go_ret
      refine ⟨by rw [show min k (64 - p) = k by omega]; rfl, ?_, HB.out⟩
      have := HT.out
      rw [List.take_of_length_le (by rw [HN.out]; omega)] at this
      rw [List.take_of_length_le (by rw [HN.out]; omega)]
      exact this
theorem sendAll_n (b o s n m : Nat) (xs ys : List Int) (A : Option Addr) (c : Nat) (w : World) (h : PtAt w b o s xs) (hn : ys.length = n) (hm : min n (64 - xs.length) = m) (hr : Rd .u32 w 0 w.heap.size A ys) (hne : ys ≠ [] → ∀ g off, A = some ⟨g, off, none⟩ → g ≠ b) :
    Calls Try.prog 8 #[.pointer (some ⟨b, o, none⟩), .slice A n c] w fun e w' => e = .returned (.int .i64 m) ∧ PtAt w' b o s (xs ++ ys.take m) ∧ But [b] w w' := by
  subst hn
  subst hm
  have := sendAll_c b o s xs ys A c w h hr hne
  have e : ys.take (64 - xs.length) = ys.take (min ys.length (64 - xs.length)) := by rw [Nat.min_comm, ← List.take_take, List.take_length]
  rw [e] at this
  exact this
theorem sendAll_nil (ys : List Int) (A : Option Addr) (c : Nat) (w : World) (hr : Rd .u32 w 0 w.heap.size A ys) :
    Calls Try.prog 8 #[.pointer none, .slice A ys.length c] w fun e w' => e = .returned (.int .i64 0) ∧ w' = w := by
  have HR : Hid (Rd .u32 w 0 w.heap.size A ys) := hr
  clear hr
  generalize hn : ys.length = n
  have HN : Hid (ys.length = n) := hn
  clear hn
  go_enter Try.func8, Try.ntmps8
  go_wp2
  go_loopg [9] 1 (fun g0 i wx => i = .int .i64 0 ∧ wx = w ∧ 0 < g0)
  case atStart => exact ⟨rfl, rfl, by omega⟩
  case round =>
    obtain ⟨rfl, rfl, hg0⟩ := hrel
    by_cases hlt : 0 < n
    · have hkl : 0 < ys.length := by rw [HN.out]; exact hlt
      obtain ⟨g, off, hA, _, hg, hcell⟩ := HR.out.at_ hkl
      have hck := hcell 0 hkl
      rw [Nat.add_zero] at hck
      subst hA
      generalize hv : ys.getD 0 0 = v at *
      clear hv hcell hkl hg
      go_wp2_with fail
      refine (send_nil v _).mono ?_
      rintro e w1 ⟨rfl, rfl⟩
      go_wp2
      go_ret
      exact ⟨rfl, rfl⟩
    · obtain rfl : n = 0 := by omega
      go_wp2
      go_ret
      exact ⟨rfl, rfl⟩

theorem Try.infoU32 : (Try.prog.info? 24).map (fun i => (i.zero, i.size, i.bytes)) = some (some (.int .u32 0), 1, 4) := by kernel_rfl
set_option maxHeartbeats 1000000 in
theorem all_c (b o s : Nat) (xs : List Int) (w : World) (h : PtAt w b o s xs) :
    Calls Try.prog 13 #[.pointer (some ⟨b, o, none⟩)] w fun e w' => ∃ v, e = .returned v ∧ w'.ownsRow w.heap.size 24 1 v xs.length (xs.map (Value.int .u32)) ∧ But [] w w' := by
  obtain ⟨i0, hi, hz0, hz1, hz2⟩ := info_parts Try.infoU32
  have HI : Hid (Try.prog.info? 24 = some i0) := hi
  have HZ0 : Hid (i0.zero = some (.int .u32 0)) := hz0
  have HZ1 : Hid (i0.size = 1) := hz1
  have HZ2 : Hid (i0.bytes = 4) := hz2
  have H : Hid (PtAt w b o s xs) := h
  have hm := h.most
  have hs := h.first
  have hbl := h.lt
  clear h hi hz0 hz1 hz2
  generalize hn : xs.length = n at *
  have HN : Hid (xs.length = n) := hn
  clear hn
  go_enter Try.func13, Try.ntmps13
  go_wp2_with fail
  refine (len_c b o s xs _ H.out).mono ?_
  rintro e w0 ⟨rfl, rfl⟩
  rw [HN.out]
  go_wp2
  go_loopg [3, 7] (n + 1) (fun g0 v i wx => ∃ k : Nat, k + g0 = n + 1 ∧ i = .int .i64 k ∧ k ≤ n ∧ Hid (wx.ownsRow w0.heap.size 24 1 v k ((xs.take k).map (Value.int .u32))) ∧ Hid (But [] w0 wx))
  case atStart => exact ⟨0, by omega, rfl, by omega, World.ownsRow_nil _ _ _ _, But.refl _ _⟩
  case round =>
    obtain ⟨k, hkg, rfl, hkn, HT, HB⟩ := hrel
    by_cases hlt : k < n
    · have hP := H.out.keep0 HB.out.drew
      have hkl : k < xs.length := by rw [HN.out]; exact hlt
      have hcw := hP.ws k hkl
      have hp := place_c b o s k xs wr.drew hP (by omega)
      have hsn : xs.take k ++ [xs.getD k 0] = xs.take (k + 1) := by simpa using take_snoc [] xs k hkl
      have hml : (xs.take k).map (Value.int .u32) ++ [Value.int .u32 (xs.getD k 0)] = (xs.take (k + 1)).map (Value.int .u32) := by rw [← hsn]; simp
      generalize xs.getD k 0 = v at *
      have HS : Hid ((xs.take k).map (Value.int .u32) ++ [Value.int .u32 v] = (xs.take (k + 1)).map (Value.int .u32)) := hml
      obtain ⟨q, hq⟩ : ∃ q, q = (s + k) % 64 := ⟨_, rfl⟩
      rw [← hq] at hcw hp
      have hqi : (q : Int) < 64 := by omega
      have hq0 : 0 ≤ (q : Int) := by omega
      have hpl : Hid (∀ wy, But [] w0 wy → Calls Try.prog 15 #[.pointer (some ⟨b, o, none⟩), .int .i64 k] wy fun e w' => e = .returned (.int .i64 q) ∧ w' = wy) := by
        show ∀ wy, But [] w0 wy → Calls _ _ _ _ _
        intro wy hy
        have := place_c b o s k xs wy (H.out.keep0 hy) (by omega)
        rwa [← hq] at this
      have hS : wr.drew.cell? ⟨b, o + q, none⟩ = some (.int .u32 v) := hcw
      have hSA : (wr.drew.alloc (.cells #[.int .u32 v] 24)).cell? ⟨b, o + q, none⟩ = some (.int .u32 v) := (World.cell?_alloc_past _ _ _ (lt_of_cell hcw)).trans hcw
      have hown := HT.out.drew
      have hsz := HB.out.size
      have HBD : Hid (But [] w0 wr.drew) := HB.out.drew
      clear hsn hml hkl hP hq hp hcw
      go_upto_region 5 with fail
      go_region_held3 (fun w' => w'.cell? ⟨b, o + q, none⟩ = some (.int .u32 v))
        (first | assumption | exact hSA)
        (first
          | (go_at_call 15; refine (hpl.out _ HBD.out).mono ?_; rintro e w4 ⟨rfl, rfl⟩)
          | (refine step_append_lies _ rfl _ _ 28 rfl w0.heap.size 24 i0 (.int .u32 0) 1 4 Try.underlying28 HI.out HZ0.out HZ1.out HZ2.out rfl (by decide) _ k _ rfl (hown.alloc _) ⟨wr.drew.heap.size, 0, none⟩ 1 1 [.int .u32 v] rfl rfl (cell_one_new _ _ _) (one_int _ _) ?c2 ?c3 ?c4 ?c5 _ rfl ?_
             case c2 => omega
             case c3 => unfold maxLen; omega
             case c4 => omega
             case c5 => simp; omega
             intro g cap w5 hown5 hgrow5 hat5 hlt5
             have hS5 : w5.cell? ⟨b, o + q, none⟩ = some (.int .u32 v) := (hgrow5.cell_far ⟨b, o + q, none⟩ (by simp; omega) (fun e => by have := (hown.lt _ e.symm).1; simp at this; omega)).trans hSA
             have HO5 : Hid _ := hown5
             have HG5 : Hid (But [] w0 w5) := (HBD.out.alloc (.cells #[.int .u32 v] 24)).grown hgrow5 (fun j hj => .inr (hown.lt j hj).1)
             clear hown5 hgrow5 hat5 hlt5))
      go_wp2
      go_roundg (n + 1 - (k + 1))
      case measure => omega
      case rel =>
        refine ⟨k + 1, by omega, by go_num, by omega, ?_, HG5.out⟩
        show World.ownsRow _ _ _ _ _ _ _
        rw [← HS.out]
        exact HO5.out
    · obtain rfl : k = n := by omega
      go_wp2
      go_ret
      refine ⟨_, rfl, ?_, HB.out⟩
      have := HT.out
      rw [List.take_of_length_le (by rw [HN.out]; omega)] at this
      exact this
theorem all_nil (w : World) :
    Calls Try.prog 13 #[.pointer none] w fun e w' => e = .returned (.slice none 0 0) ∧ w' = w := by
  go_enter Try.func13, Try.ntmps13
  go_wp2_with fail
  refine (len_nil _).mono ?_
  rintro e w0 ⟨rfl, rfl⟩
  go_wp2
  go_loopg [3, 7] 1 (fun g0 v i wx => v = .slice none 0 0 ∧ i = .int .i64 0 ∧ wx = w0 ∧ 0 < g0)
  case atStart => exact ⟨rfl, rfl, rfl, by omega⟩
  case round =>
    obtain ⟨rfl, rfl, rfl, hg0⟩ := hrel
    go_wp2
    go_ret
    exact ⟨rfl, rfl⟩
end Go.Proofs.Ytlpibbbjmmoifaa.Pt
