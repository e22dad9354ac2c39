/-
  Layer 12 (caps): contracts of cap, derived, free, Len and shared, over the translated program.
-/
import Derived.Test.YtlppfcoclpdanaaCsBase
namespace Go.Proofs.Ytlppfcoclpdanaa.Cs
open Go.ChangeShapes Go.WideShapes Go.ChangeAt Go.RowKit
open Wh Sn
set_option linter.unusedVariables false
set_option maxRecDepth 20000

theorem sizeCap : (Try.prog.info? 26).map (·.size) = some 2 := by kernel_rfl
set_option maxHeartbeats 1000000 in
theorem cap_c (b m : Nat) (Z : List Nat) (T : Tr) (f : Nat → Value) (p : Nat) (hp : p < 64) (w : World) (h : TrAt w b Z T m f) :
    Calls Try.prog 38 #[.pointer (some ⟨b, 0, none⟩), .int .i64 p] w fun e w' => e = .returned (.agg #[.int .i64 p, .int .u64 (T p).gen]) ∧ But [] w w' := by
  have hb : b < w.heap.size := h.low b h.mem
  have hpI : (p : Int) < 64 := by omega
  have HK0 : Hid (But [] w (w.alloc (.cells #[.int .i64 0, .int .u64 0] 26))) := (But.refl [] w).alloc _
  obtain ⟨hcg, -, -⟩ := (h.keep0 HK0.out).cells hp
  generalize (T p).gen = g at *
  clear h
  go_enter Try.func38, Try.ntmps38
  go_wp2
  refine bodyPost_ret (results_range1 rfl _ _ w.heap.size 0 [.int .i64 p, .int .u64 g] _ rfl ?_ Try.underlying26 rfl sizeCap) rfl ?_
  · have := new_range w [.int .i64 p, .int .u64 g] 26
    exact this
  · exact ⟨rfl, (But.refl [] w).alloc _⟩

/-- What a call that tells numbers of its own ends in. -/
def Own (w : World) (l : List Nat) (e : Ending) (w' : World) : Prop := ∃ A n c, e = .returned (.slice A n c) ∧ Que w' w.heap.size 1 (.slice A n c) n (ic l) ∧ But [] w w'
theorem Try.infoInt : (Try.prog.info? 3).map (fun i => (i.zero, i.size, i.bytes)) = some (some (.int .i64 0), 1, 8) := by kernel_rfl
set_option maxHeartbeats 2000000 in
theorem derived_c (b m : Nat) (Z : List Nat) (T : Tr) (f : Nat → Value) (a : Int) (w : World) (h : TrAt w b Z T m f) :
    Calls Try.prog 40 #[.pointer (some ⟨b, 0, none⟩), .int .i64 a] w (Own w (kids T a)) := by
  have HR := hid h.arr
  have H := hid h
  clear h
  go_enter Try.func40, Try.ntmps40
  go_wp2_with (first
    | (refine wpList_load_mid rfl 71 _ rfl b 0 rfl (sv f) _ HR.out Try.underlying71 rfl (iArr _) ?_))
  go_loopg [5, 12] 65 (fun g0 v i wx => ∃ (k n cv : Nat) (Av : Option Addr), k + g0 = 65 ∧ k ≤ 64 ∧ i = .int .i64 k ∧ v = .slice Av n cv ∧ Hid (Que wx w.heap.size 1 (.slice Av n cv) n (ic (nums (kid T a) k))) ∧ Hid (But [] w wx))
  case atStart => exact ⟨0, 0, 0, none, by omega, by omega, rfl, rfl, Que.nil _ _ _, But.refl _ _⟩
  case round =>
    obtain ⟨k, n, cv, Av, hkg, hk, rfl, rfl, HQ, HB⟩ := hrel
    by_cases hlt : k < 64
    · have hkI : (k : Int) < 64 := by omega
      have hix := idx_sv f k hlt
      have hn := nums_succ (kid T a) k
      obtain ⟨-, -, A, nA, cA, hfA, -⟩ := H.out.cells hlt
      rw [H.out.gen k hlt, H.out.par k hlt, hfA] at hix
      have hle := nums_le (kid T a) k
      have HB1 : Hid (∀ vs t, But [] w (wr.alloc (.cells vs t))) := fun vs t => HB.out.alloc _
      have HQ1 : Hid (∀ vs t, Que (wr.alloc (.cells vs t)) w.heap.size 1 (.slice Av n cv) n (ic (nums (kid T a) k))) := fun vs t => HQ.out.keep0 ((But.refl [] wr).alloc _)
      by_cases hg : (T k).gen = 0
      · have hkd : kid T a k = false := by unfold kid; rw [hg]; rfl
        have HN : Hid (nums (kid T a) (k + 1) = nums (kid T a) k) := by show _ = _; rw [hn, hkd]; simp
        rw [hg] at hix
        generalize (T k).par = q at hix
        clear hfA hn hkd hg hle
        go_wp2
        go_roundg (65 - (k + 1))
        case measure => omega
        case rel => exact ⟨k + 1, n, cv, Av, by omega, by omega, by go_num, rfl, by rw [HN.out]; exact HQ1.out _ _, HB1.out _ _⟩
      · have hd : decide (0 < (T k).gen) = true := decide_eq_true (by omega)
        by_cases hp : (T k).par = a
        · have hkd : kid T a k = true := kid_iff.2 ⟨by omega, hp⟩
          have hnk : nums (kid T a) (k + 1) = nums (kid T a) k ++ [k] := by rw [hn, hkd]; simp
          have hm : n ≤ 1025 := by
            have := HQ.out.1
            rw [ic_len] at this
            omega
          rw [hp] at hix
          generalize (T k).gen = g at hix hd
          obtain ⟨g', off', c', w5, hr5, hq5, hk5, ho5⟩ := que_push (P := Try.prog) 82 3 _ Try.underlying82 Cs.Try.infoInt rfl (by decide) (by decide) (HQ1.out #[.int .u64 g, .int .i64 a, .slice A nA cA] 70) (ic [k]) rfl (ic_one _) (HB1.out _ _).size (by omega)
          have HQ5 : Hid (Que w5 w.heap.size 1 (.slice (some ⟨g', off', none⟩) (n + 1) c') (n + 1) (ic (nums (kid T a) (k + 1)))) := by
            show Que _ _ _ _ _ _
            rw [hnk, ic_app]
            exact hq5
          have HB5 := hid (but_own (HB1.out _ _) hk5 (fun i hi => (HQ.out.lt i hi).1))
          have HR5 := hid hr5
          clear hr5 hq5 hk5 ho5 hn hnk HQ HB HQ1 HB1 hp hkd hfA hle hg
          go_upto_region 6 with fail
          generalize hW1 : wr.alloc (.cells #[.int .u64 g, .int .i64 a, .slice A nA cA] 70) = w1 at *
          go_wp2_with (first | (at_builtin; refine wpList_append_known _ rfl _ _ 82 rfl _ _ rfl rfl HR5.out ?_))
          go_roundg (65 - (k + 1))
          case measure => omega
          case rel => exact ⟨k + 1, _, _, _, by omega, by omega, by go_num, rfl, HQ5.out, HB5.out⟩
        · have hkd : kid T a k = false := by
            unfold kid
            rw [decide_eq_false hp, Bool.and_false]
          have HN : Hid (nums (kid T a) (k + 1) = nums (kid T a) k) := by show _ = _; rw [hn, hkd]; simp
          have hd2 : ((T k).par == a) = false := by simpa using hp
          generalize (T k).par = q at hix hd2
          generalize (T k).gen = g at hix hd
          clear hfA hn hkd hg hle hp
          go_wp2
          go_roundg (65 - (k + 1))
          case measure => omega
          case rel => exact ⟨k + 1, n, cv, Av, by omega, by omega, by go_num, rfl, by rw [HN.out]; exact HQ1.out _ _, HB1.out _ _⟩
    · obtain rfl : k = 64 := by omega
      have h64' : decide ((64 : Int) < 64) = false := by decide
      go_wp2
      go_ret
      exact ⟨_, _, _, rfl, HQ.out, HB.out⟩

/-- What free tells: a place, or none. -/
def FrV (k : Nat) : Value := if k < 64 then .tuple #[.int .i64 k, .bool true] else .tuple #[.int .i64 0, .bool false]
theorem FrV_yes {k : Nat} (h : k < 64) : FrV k = .tuple #[.int .i64 k, .bool true] := if_pos h
theorem FrV_no : FrV 64 = .tuple #[.int .i64 0, .bool false] := rfl
set_option maxHeartbeats 2000000 in
theorem free_c (b m : Nat) (Z : List Nat) (T : Tr) (f : Nat → Value) (w : World) (h : TrAt w b Z T m f) :
    Calls Try.prog 48 #[.pointer (some ⟨b, 0, none⟩)] w fun e w' => e = .returned (FrV (frP T 64)) ∧ But [] w w' := by
  have HR := hid h.arr
  have H := hid h
  clear h
  go_enter Try.func48, Try.ntmps48
  go_wp2_with (first
    | (refine wpList_load_mid rfl 71 _ rfl b 0 rfl (sv f) _ HR.out Try.underlying71 rfl (iArr _) ?_))
  go_loopg [10] 65 (fun g0 i wx => ∃ (k : Nat), k + g0 = 65 ∧ k ≤ 64 ∧ i = .int .i64 k ∧ Hid (∀ q, q < k → 0 < (T q).gen) ∧ Hid (But [] w wx))
  case atStart => exact ⟨0, by omega, by omega, rfl, fun q hq => absurd hq (Nat.not_lt_zero _), But.refl _ _⟩
  case round =>
    obtain ⟨k, hkg, hk, rfl, HN, HB⟩ := hrel
    by_cases hlt : k < 64
    · have hkI : (k : Int) < 64 := by omega
      have hix := idx_sv f k hlt
      obtain ⟨-, -, A, nA, cA, hfA, -⟩ := H.out.cells hlt
      rw [H.out.gen k hlt, H.out.par k hlt, hfA] at hix
      have HB1 : Hid (∀ vs t, But [] w (wr.alloc (.cells vs t))) := fun vs t => HB.out.alloc _
      generalize hq : (T k).par = q at hix
      by_cases hg : (T k).gen = 0
      · have e : Hid (frP T 64 = k) := frP_eq (Nat.le_of_lt hlt) HN.out (fun _ => hg)
        have e2 := hid (FrV_yes hlt)
        rw [hg] at hix
        clear hfA hq hg HN HB
        go_wp2
        go_ret2
        exact ⟨by rw [e.out, e2.out]; rfl, HB1.out _ _⟩
      · have hd : ((T k).gen == 0) = false := by simpa using hg
        have hd' : (((T k).gen : Int) == 0) = false := by simpa using hg
        have HN1 : Hid (∀ q, q < k + 1 → 0 < (T q).gen) := fun q hq => by
          rcases Nat.lt_or_ge q k with h | h
          · exact HN.out q h
          · obtain rfl : q = k := by omega
            omega
        generalize (T k).gen = g at hix hd hd'
        clear hfA hq hg HN HB
        go_wp2
        go_roundg (65 - (k + 1))
        case measure => omega
        case rel => exact ⟨k + 1, by omega, by omega, by go_num, HN1.out, HB1.out _ _⟩
    · obtain rfl : k = 64 := by omega
      have h64' : decide ((64 : Int) < 64) = false := by decide
      have e : Hid (frP T 64 = 64) := frP_eq (Nat.le_refl _) HN.out (fun h => absurd h (Nat.lt_irrefl _))
      go_wp2
      go_ret2
      exact ⟨by rw [e.out]; rfl, HB.out⟩

def isP (T : Tr) (p : Nat) : Bool := decide (0 < (T p).gen)
def lenT (T : Tr) : Nat := (nums (isP T) 64).length
set_option maxHeartbeats 2000000 in
theorem Len_c (b m : Nat) (Z : List Nat) (T : Tr) (f : Nat → Value) (w : World) (h : TrAt w b Z T m f) :
    Calls Try.prog 26 #[.pointer (some ⟨b, 0, none⟩)] w fun e w' => e = .returned (.int .i64 (lenT T : Nat)) ∧ But [] w w' := by
  have HR := hid h.arr
  have H := hid h
  clear h
  go_enter Try.func26, Try.ntmps26
  go_wp2_with (first
    | (refine wpList_load_mid rfl 71 _ rfl b 0 rfl (sv f) _ HR.out Try.underlying71 rfl (iArr _) ?_))
  go_loopg [3, 12] 65 (fun g0 v i wx => ∃ (k : Nat), k + g0 = 65 ∧ k ≤ 64 ∧ i = .int .i64 k ∧ v = .int .i64 ((nums (isP T) k).length : Nat) ∧ Hid (But [] w wx))
  case atStart => exact ⟨0, by omega, by omega, rfl, rfl, But.refl _ _⟩
  case round =>
    obtain ⟨k, hkg, hk, rfl, rfl, HB⟩ := hrel
    by_cases hlt : k < 64
    · have hkI : (k : Int) < 64 := by omega
      have hix := idx_sv f k hlt
      obtain ⟨-, -, A, nA, cA, hfA, -⟩ := H.out.cells hlt
      rw [H.out.gen k hlt, H.out.par k hlt, hfA] at hix
      have HB1 : Hid (∀ vs t, But [] w (wr.alloc (.cells vs t))) := fun vs t => HB.out.alloc _
      have hn := nums_succ (isP T) k
      have hle := nums_le (isP T) k
      generalize hq : (T k).par = q at hix
      by_cases hg : (T k).gen = 0
      · have HN : Hid ((nums (isP T) (k + 1)).length = (nums (isP T) k).length) := by
          show _ = _
          rw [hn, show isP T k = false from decide_eq_false (by omega)]; simp
        rw [hg] at hix
        generalize (nums (isP T) k).length = u at *
        clear hfA hq hg HB hn
        go_wp2
        go_roundg (65 - (k + 1))
        case measure => omega
        case rel => exact ⟨k + 1, by omega, by omega, by go_num, by rw [HN.out], HB1.out _ _⟩
      · have hd : decide (0 < (T k).gen) = true := decide_eq_true (by omega)
        have HN : Hid ((nums (isP T) (k + 1)).length = (nums (isP T) k).length + 1) := by
          show _ = _
          rw [hn, show isP T k = true from decide_eq_true (by omega)]; simp
        generalize (T k).gen = g at hix hd
        generalize (nums (isP T) k).length = u at *
        clear hfA hq hg HB hn
        go_wp2
        go_roundg (65 - (k + 1))
        case measure => omega
        case rel => exact ⟨k + 1, by omega, by omega, by go_num, by rw [HN.out]; go_num, HB1.out _ _⟩
    · obtain rfl : k = 64 := by omega
      have h64' : decide ((64 : Int) < 64) = false := by decide
      go_wp2
      go_ret
      exact ⟨rfl, HB.out⟩
theorem Len_nil (w : World) : Calls Try.prog 26 #[.pointer none] w fun e w' => e = .returned (.int .i64 0) ∧ But [] w w' := by
  go_enter Try.func26, Try.ntmps26
  go_wp2
  go_ret
  exact ⟨rfl, But.refl _ _⟩
set_option maxHeartbeats 1000000 in
theorem shared_c (A A' : Option Addr) (n n' c c' lo lo' : Nat) (f g : Nat → Bool) (w : World) (hA : SetAt w lo A n f) (hA' : SetAt w lo' A' n' g) :
    Calls Try.prog 46 #[.agg #[.slice A n c], .agg #[.slice A' n' c']] w fun e w' => e = .returned (.bool (nz (bo f g))) ∧ But [] w w' := by
  obtain ⟨w0, hw0⟩ : ∃ w0, w0 = (w.alloc (.cells #[.slice A n c] 31)).alloc (.cells #[.slice A' n' c'] 31) := ⟨_, rfl⟩
  have HB0 : Hid (But [] w w0) := by show But _ _ _; rw [hw0]; exact ((But.refl [] w).alloc _).alloc _
  have HA := hid (hA.keep0 HB0.out)
  have HA' := hid (hA'.keep0 HB0.out)
  clear hA hA'
  go_enter Try.func46, Try.ntmps46
  go_wp2_with fail
  rw [← hw0]
  clear hw0
  refine (both_c A A' n n' c c' lo lo' f g w0 HA.out HA'.out).mono ?_
  rintro e w1 ⟨A1, n1, c1, rfl, hs1, k1⟩
  have HS := hid hs1
  have HK := hid (HB0.out.trans k1)
  clear hs1 k1
  go_wp2_with fail
  refine (len_c A1 n1 c1 _ _ w1 HS.out).mono ?_
  rintro e w2 ⟨rfl, k2⟩
  have HK2 := hid (HK.out.trans k2)
  obtain ⟨u, hu⟩ : ∃ u, u = (nums (bo f g) 1024).length := ⟨_, rfl⟩
  have HD : Hid (nz (bo f g) = decide (0 < u)) := by show _ = _; rw [hu]; rfl
  rw [← hu]
  clear k2 hu
  go_wp2
  go_ret
  exact ⟨by rw [HD.out]; go_num, HK2.out⟩
end Go.Proofs.Ytlppfcoclpdanaa.Cs
