/-
  Layer 5 (tlb): contracts of what the statements call (entry, Same, awake), over the translated program.
-/
import Derived.Test.YtpceailgnneejaaTlRef2
import Derived.Deep.RegionHeld3
namespace Go.Proofs.Ytpceailgnneejaa
open Go.ChangeShapes Go.WideShapes Go.ChangeAt Go.RowKit
set_option linter.unusedVariables false

theorem entry_c (es ep ef : Int) (ew : Bool) (w : World) :
    Calls Try.prog 7 #[.agg #[.int .i64 es, .int .i64 ep, .int .i64 ef, .bool ew]] w fun e w' => e = .returned (.agg #[.int .i64 es, .int .i64 ep, .int .i64 ef, .bool ew]) ∧ But [] w w' := by
  go_enter Try.func7, Try.ntmps7
  go_wp2
  refine bodyPost_ret (results_range1 rfl _ _ (w.heap.size + 1) 0 [.int .i64 es, .int .i64 ep, .int .i64 ef, .bool ew] _ rfl (by simpa using new_range (w.alloc (.cells #[.int .i64 es, .int .i64 ep, .int .i64 ef, .bool ew] 30)) [.int .i64 es, .int .i64 ep, .int .i64 ef, .bool ew] 25) Try.underlying25 rfl Try.sizeEntry) rfl ?_
  exact ⟨rfl, ((But.refl _ _).alloc _).alloc _⟩

theorem eqEntry (a b c : Int) (d : Bool) (w : World) : (Op.equalIn 10000 25 (.agg #[.int .i64 a, .int .i64 b, .int .i64 c, .bool d]) (.agg #[.int .i64 a, .int .i64 b, .int .i64 c, .bool d])).run Try.prog w = .ok true w := by
  rw [show (10000 : Nat) = 9999 + 1 from rfl, run_equalIn_struct w 9999 25 _ _ (by kernel_rfl) (by kernel_rfl)]
  simp [Program.fieldsOf, Try.underlying25, go_sem]

/-- The four cells of an entry from offset o of block b on. -/
theorem four_cells {w : World} {b o : Nat} {v0 v1 v2 v3 : Value} (h : w.rangeAt b o [v0, v1, v2, v3]) : w.cell? ⟨b, o, none⟩ = some v0 ∧ w.cell? ⟨b, o + 1, none⟩ = some v1 ∧ w.cell? ⟨b, o + 2, none⟩ = some v2 ∧ w.cell? ⟨b, o + 3, none⟩ = some v3 :=
  ⟨h 0 _ rfl, h 1 _ rfl, h 2 _ rfl, h 3 _ rfl⟩
/-- What Same holds on to. -/
def SameS (w : World) (w' : World) : Prop := But [] w w'
theorem eight_keep {w W w' : World} {b1 o1 b2 o2 : Nat} {v0 v1 v2 v3 u0 u1 u2 u3 : Value}
    (h : W.cell? ⟨b1, o1, none⟩ = some v0 ∧ W.cell? ⟨b1, o1 + 1, none⟩ = some v1 ∧ W.cell? ⟨b1, o1 + 2, none⟩ = some v2 ∧ W.cell? ⟨b1, o1 + 3, none⟩ = some v3 ∧ W.cell? ⟨b2, o2, none⟩ = some u0 ∧ W.cell? ⟨b2, o2 + 1, none⟩ = some u1 ∧ W.cell? ⟨b2, o2 + 2, none⟩ = some u2 ∧ W.cell? ⟨b2, o2 + 3, none⟩ = some u3 ∧ SameS w W) (k : But [] W w') :
    w'.cell? ⟨b1, o1, none⟩ = some v0 ∧ w'.cell? ⟨b1, o1 + 1, none⟩ = some v1 ∧ w'.cell? ⟨b1, o1 + 2, none⟩ = some v2 ∧ w'.cell? ⟨b1, o1 + 3, none⟩ = some v3 ∧ w'.cell? ⟨b2, o2, none⟩ = some u0 ∧ w'.cell? ⟨b2, o2 + 1, none⟩ = some u1 ∧ w'.cell? ⟨b2, o2 + 2, none⟩ = some u2 ∧ w'.cell? ⟨b2, o2 + 3, none⟩ = some u3 ∧ SameS w w' := by
  obtain ⟨h0, h1, h2, h3, h4, h5, h6, h7, h8⟩ := h
  exact ⟨cell_keep h0 k (by simp), cell_keep h1 k (by simp), cell_keep h2 k (by simp), cell_keep h3 k (by simp), cell_keep h4 k (by simp), cell_keep h5 k (by simp), cell_keep h6 k (by simp), cell_keep h7 k (by simp), But.trans h8 k⟩

set_option maxHeartbeats 1000000 in
theorem same_c (b : Nat) (l : List En) (m : Nat) (A : Option Addr) (c : Nat) (w : World) (h : TlbAt w b l m) (hx : Ens w 0 A l) :
    Calls Try.prog 15 #[.pointer (some ⟨b, 0, none⟩), .slice A l.length c] w fun e w' => e = .returned (.bool true) ∧ But [] w w' := by
  have H : Hid (TlbAt w b l m) := h
  have HX : Hid (Ens w 0 A l) := hx
  obtain ⟨n, hn⟩ : ∃ n, n = l.length := ⟨_, rfl⟩
  have hn8 : n ≤ 8 := by rw [hn]; exact h.most
  have HN : Hid (n = l.length) := hn
  rw [← hn]
  clear h hx hn
  go_enter Try.func15, Try.ntmps15
  go_wp2_with fail
  refine (all_c b l m _ H.out).mono ?_
  rintro e w1 ⟨A1, rfl, e1, k1⟩
  rw [← HN.out]
  have HE1 : Hid (Ens w1 0 A1 l) := e1.lower (Nat.zero_le _)
  have K1 : Hid (But [] w w1) := k1
  clear e1 k1
  go_wp2
  go_loopg [6] n (fun g0 i wx => ∃ k : Nat, k + g0 = n ∧ i = .int .i64 k ∧ Hid (But [] w1 wx))
  case atStart => exact ⟨0, by omega, rfl, But.refl _ _⟩
  case round =>
    obtain ⟨k, hkg, rfl, HB⟩ := hrel
    by_cases hlt : k < n
    · have hkl : k < l.length := by have := HN.out; omega
      obtain ⟨b1, o1, hA1, -, -, hr1⟩ := HE1.out.at_ hkl
      obtain ⟨b2, o2, hA2, -, -, hr2⟩ := HX.out.at_ hkl
      have q1 := range_keep (hr1 k hkl) HB.out (by simp)
      have q2 := range_keep (range_keep (hr2 k hkl) K1.out (by simp)) HB.out (by simp)
      obtain ⟨e0, he0⟩ : ∃ e, e = l.getD k en0 := ⟨_, rfl⟩
      rw [← he0] at q1 q2
      obtain ⟨es, ep, ef, ew⟩ := e0
      subst hA1
      subst hA2
      have S0 : wr.drew.cell? ⟨b1, o1 + k * 4, none⟩ = some (.int .i64 es) ∧ wr.drew.cell? ⟨b1, o1 + k * 4 + 1, none⟩ = some (.int .i64 ep) ∧ wr.drew.cell? ⟨b1, o1 + k * 4 + 2, none⟩ = some (.int .i64 ef) ∧ wr.drew.cell? ⟨b1, o1 + k * 4 + 3, none⟩ = some (.bool ew) ∧ wr.drew.cell? ⟨b2, o2 + k * 4, none⟩ = some (.int .i64 es) ∧ wr.drew.cell? ⟨b2, o2 + k * 4 + 1, none⟩ = some (.int .i64 ep) ∧ wr.drew.cell? ⟨b2, o2 + k * 4 + 2, none⟩ = some (.int .i64 ef) ∧ wr.drew.cell? ⟨b2, o2 + k * 4 + 3, none⟩ = some (.bool ew) ∧ SameS w1 wr.drew := by
        obtain ⟨p0, p1, p2, p3⟩ := four_cells ((World.rangeAt_drew _ _ _ _).2 q1)
        obtain ⟨r0, r1, r2, r3⟩ := four_cells ((World.rangeAt_drew _ _ _ _).2 q2)
        exact ⟨p0, p1, p2, p3, r0, r1, r2, r3, HB.out.drew⟩
      have heq := eqEntry es ep ef ew
      clear he0 q1 q2 hr1 hr2
      go_wp2
      go_region_held3 (fun w' => w'.cell? ⟨b1, o1 + k * 4, none⟩ = some (.int .i64 es) ∧ w'.cell? ⟨b1, o1 + k * 4 + 1, none⟩ = some (.int .i64 ep) ∧ w'.cell? ⟨b1, o1 + k * 4 + 2, none⟩ = some (.int .i64 ef) ∧ w'.cell? ⟨b1, o1 + k * 4 + 3, none⟩ = some (.bool ew) ∧ w'.cell? ⟨b2, o2 + k * 4, none⟩ = some (.int .i64 es) ∧ w'.cell? ⟨b2, o2 + k * 4 + 1, none⟩ = some (.int .i64 ep) ∧ w'.cell? ⟨b2, o2 + k * 4 + 2, none⟩ = some (.int .i64 ef) ∧ w'.cell? ⟨b2, o2 + k * 4 + 3, none⟩ = some (.bool ew) ∧ SameS w1 w')
        (first | exact S0 | assumption | exact eight_keep (by assumption) (by assumption))
        (first
          | (go_at_call 7; refine (entry_c es ep ef ew _).mono ?_; rintro e w4 ⟨rfl, k4⟩))
      go_split_ands
      have HB2 : Hid (But [] w1 w4) := ‹SameS w1 w4›
      go_wp2
      go_roundg (n - (k + 1))
      case measure => omega
      case rel => exact ⟨k + 1, by omega, by go_num, HB2.out⟩
    · obtain rfl : k = n := by omega
      go_wp2
      go_ret
      exact ⟨rfl, K1.out.trans HB.out⟩

/-- The zero TLB's cells. -/
def ztlb : Array Value := ((List.range 34).map (tf [] 0)).toArray
theorem ztlb_zero (w : World) : (zeroValue 28).run Try.prog w = .ok (.agg ztlb) w := by kernel_rfl
theorem tlb_new (w : World) : TlbAt (w.alloc (.cells ztlb 28)) w.heap.size [] 0 :=
  ⟨by simp, VB.new w ztlb 28 34 rfl (tf [] 0) (fun j hj => by simp [ztlb, hj])⟩

/-- The chapter's example, so many pages put. -/
def aw : Nat → List En
  | 0 => []
  | k + 1 => putL (aw k) ⟨0, (k : Int) + 1, 3, false⟩
theorem aw_hit : getE 0 2 (aw 9) = some ⟨0, 2, 3, false⟩ := by decide
theorem aw_miss : getE 0 1 (aw 9) = none := by decide
theorem aw_stay : stay (ofF 3) (aw 9) = [] := by decide
theorem aw_len : (aw 9).length = 8 := by decide

set_option maxHeartbeats 1000000 in
theorem awake_c (w : World) :
    Calls Try.prog 17 #[] w fun e w' => e = .returned (.bool true) ∧ But [] w w' := by
  have hz := ztlb_zero
  obtain ⟨b, hb⟩ : ∃ b, b = w.heap.size := ⟨_, rfl⟩
  have H0 : Hid (TlbAt (w.alloc (.cells ztlb 28)) b [] 0) := by show TlbAt _ _ _ _; rw [hb]; exact tlb_new w
  have HK : Hid (∀ w', But [b] w w' → But [] w w') := by
    show ∀ w', _ → _
    intro w' h
    exact h.strike (fun k hk hl => by simp at hk; omega)
  go_enter Try.func17, Try.ntmps17
  go_wp2
  rw [← hb]
  have K0 : Hid (But [b] w (w.alloc (.cells ztlb 28))) := (But.refl _ _).alloc _
  clear hb hz
  generalize w.alloc (.cells ztlb 28) = w0 at H0 K0 ⊢
  go_loopg [2] 9 (fun g0 i wx => ∃ k : Nat, k + g0 = 9 ∧ i = .int .i64 ((k : Int) + 1) ∧ Hid (TlbAt wx b (aw k) 0) ∧ Hid (But [b] w wx))
  case atStart => exact ⟨0, by omega, rfl, H0, K0⟩
  case round =>
    obtain ⟨k, hkg, rfl, HT, HB⟩ := hrel
    by_cases hlt : k < 9
    · go_wp2_with fail
      refine (put_c b (aw k) 0 0 ((k : Int) + 1) 3 false _ HT.out).mono ?_
      rintro e w1 ⟨rfl, h1, k1⟩
      have HT1 : Hid (TlbAt w1 b (aw (k + 1)) 0) := h1
      have HB1 : Hid (But [b] w w1) := HB.out.trans k1
      clear h1 k1
      go_wp2
      go_roundg (9 - (k + 1))
      case measure => omega
      case rel => exact ⟨k + 1, by omega, by go_num, HT1.out, HB1.out⟩
    · obtain rfl : k = 9 := by omega
      go_wp2_with fail
      refine (get_c b (aw 9) 0 0 1 _ HT.out (by omega)).mono ?_
      rintro e w1 ⟨rfl, h1, k1⟩
      rw [misE_miss 0 aw_miss] at h1
      rw [aw_miss]
      have HT1 : Hid (TlbAt w1 b (aw 9) 1) := h1
      have HB1 : Hid (But [b] w w1) := HB.out.trans k1
      clear h1 k1
      simp only [ansE]
      go_wp2_with fail
      refine (get_c b (aw 9) 1 0 2 _ (HT1.out.keep ((But.refl [] w1).alloc _) (by simp)) (by omega)).mono ?_
      rintro e w2 ⟨rfl, h2, k2⟩
      rw [misE_hit 1 aw_hit] at h2
      rw [aw_hit]
      have HT2 : Hid (TlbAt w2 b (aw 9) 1) := h2
      have HB2 : Hid (But [b] w w2) := (HB1.out.alloc _).trans k2
      clear h2 k2
      simp only [ansE]
      go_wp2_with fail
      refine (dropFrame_c b (aw 9) 1 3 _ (HT2.out.keep ((But.refl [] w2).alloc _) (by simp))).mono ?_
      rintro e w3 ⟨rfl, h3, k3⟩
      rw [aw_stay] at h3
      rw [aw_stay, aw_len]
      have HT3 : Hid (TlbAt w3 b [] 1) := h3
      have HB3 : Hid (But [b] w w3) := (HB2.out.alloc _).trans k3
      clear h3 k3
      go_wp2_with fail
      refine (all_c b [] 1 _ HT3.out).mono ?_
      rintro e w4 ⟨A4, rfl, e4, k4⟩
      have HB4 : Hid (But [b] w w4) := HB3.out.trans (k4.any _)
      clear e4 k4
      go_wp2
      go_ret
      exact ⟨rfl, HK.out _ HB4.out⟩
end Go.Proofs.Ytpceailgnneejaa
