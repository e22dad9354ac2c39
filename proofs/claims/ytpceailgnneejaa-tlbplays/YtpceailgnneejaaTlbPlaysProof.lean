/-
  Whatever the input, the Go function TlbPlays answers true, and its arguments read behind the call as they read before. No condition.
-/
import Derived.Test.YtpceailgnneejaaRows
import Derived.Test.YtpceailgnneejaaTlFlat
import Derived.WalkKit
import Derived.Deep.LoopGhost
import Derived.Deep.RegionHeld3
import Derived.ProofKit
import Derived.OpenShut
import Derived.ShutString
import Derived.ChangeOld
import Derived.Below
import Derived.Carry
namespace Go.Proofs.Ytpceailgnneejaa.tlbPlays
open Go.ChangeShapes Go.WideShapes Go.ChangeAt Go.RowKit
open Go.ChangeMaps (open_string shut_string)
set_option linter.unusedVariables false

theorem own : ownKnob Try.prog.godebug = none := by kernel_rfl
theorem laidOut : laidOutB Try.prog = true := by kernel_rfl

set_option maxHeartbeats 4000000 in
set_option maxRecDepth 100000 in
theorem walk (w : World) (A0 : Option Addr) (len0 cap0 : Nat) (r0 : RowOf ks_flatDeed w A0 len0 cap0) :
    Calls Try.prog 3 #[.slice A0 len0 cap0] w fun e w' => e = .returned (.bool true) ∧ Below w.heap.size w w' := by
  obtain ⟨hlc, hcm, hrow⟩ := r0
  have HR : Hid (len0 = 0 ∨ ∃ b off, A0 = some ⟨b, off, none⟩ ∧ b < w.heap.size ∧ ∀ i, i < len0 → ∃ vs, w.rangeAt b (off + i * 5) vs ∧ Fits ks_flatDeed vs) := hrow
  unfold maxLen at hcm
  clear hrow
  have hz := ztlb_zero
  obtain ⟨bt, hbt⟩ : ∃ bt, bt = w.heap.size := ⟨_, rfl⟩
  have H0 : Hid (TlbAt (w.alloc (.cells ztlb 28)) bt [] 0) := by show TlbAt _ _ _ _; rw [hbt]; exact tlb_new w
  have HK : Hid (∀ w', But [bt] w w' → Below w.heap.size w w') := by
    show ∀ w', _ → _
    intro w' h
    exact h.below (Nat.le_refl _) (by simp; omega)
  have hs0 : bt + 1 ≤ (w.alloc (.cells ztlb 28)).heap.size := by simp; omega
  have HBW : Hid (w.heap.size ≤ bt) := by show _ ≤ bt; omega
  go_enter Try.func3, Try.ntmps3
  go_wp2
  rw [← hbt]
  have K0 : Hid (But [bt] w (w.alloc (.cells ztlb 28))) := (But.refl _ _).alloc _
  clear hbt hz
  generalize w.alloc (.cells ztlb 28) = w0 at H0 K0 hs0 ⊢
  go_loopg [4, 5, 6] 100 (fun g0 x mi i wx => ∃ (m mis : Nat) (L : List En) (A : Option Addr) (c : Nat), m + g0 = 100 ∧ m ≤ len0 ∧ mis ≤ m ∧ i = .int .i64 m ∧ mi = .int .i64 mis ∧ x = .slice A L.length c ∧ Hid (TlbAt wx bt L mis) ∧ Hid (Ens wx (bt + 1) A L) ∧ Hid (But [bt] w wx))
  case atStart => exact ⟨0, 0, [], none, 0, by omega, Nat.zero_le _, Nat.le_refl _, rfl, rfl, rfl, H0, .inl rfl, K0⟩
  case round =>
    obtain ⟨m, mis, L, A, c, hmg, hml, hmis, rfl, rfl, rfl, HT, HE, HB⟩ := hrel
    have hl8 : L.length ≤ 8 := HT.out.most
    clear H0 K0 hs0
    by_cases hlt : m < len0
    · by_cases h100 : m < 100
      · have hex : ∃ b off, A0 = some ⟨b, off, none⟩ ∧ b < w.heap.size ∧ ∀ i, i < len0 → ∃ vs, w.rangeAt b (off + i * 5) vs ∧ Fits ks_flatDeed vs := by
          rcases HR.out with h | h
          · omega
          · exact h
        obtain ⟨b, off, hA, hbl, hall⟩ := hex
        obtain ⟨vs, hr, hfit⟩ := hall m hlt
        obtain ⟨K, S, P, F, W, rfl⟩ := deed_of hfit
        have hbb : b ≠ bt := by have := HBW.out; omega
        have hr2 := range_keep hr HB.out (by simpa using hbb)
        have HRE : Hid (wr.rangeAt b (off + m * 5 + 1) [.int .i64 S, .int .i64 P, .int .i64 F, .bool W]) := fun j v hv => by
          have := hr2 (j + 1) v (by simpa using hv)
          rwa [show off + m * 5 + (j + 1) = off + m * 5 + 1 + j by omega] at this
        obtain ⟨q, hq⟩ : ∃ q, q = wr.heap.size := ⟨_, rfl⟩
        have hbtl := HT.out.lt
        have HRN : Hid ((wr.alloc (.cells #[.int .i64 S, .int .i64 P, .int .i64 F, .bool W] 30)).rangeAt q 0 [.int .i64 S, .int .i64 P, .int .i64 F, .bool W]) := by
          show World.rangeAt _ _ _ _
          rw [hq]
          exact new_range wr [.int .i64 S, .int .i64 P, .int .i64 F, .bool W] _
        have hck : (wr.alloc (.cells #[.int .i64 S, .int .i64 P, .int .i64 F, .bool W] 30)).cell? ⟨b, off + m * 5, none⟩ = some (.int .i64 K) := cell_keep (hr2 0 _ rfl) ((But.refl [] wr).alloc _) (by simp)
        have hqb : q ≠ bt := by omega
        have HQS : Hid (bt < q) := by show bt < q; omega
        subst hA
        clear hall hr hfit hr2
        have hmlt : (m : Int) < (len0 : Int) := by omega
        have HTA : Hid (TlbAt (wr.alloc (.cells #[.int .i64 S, .int .i64 P, .int .i64 F, .bool W] 30)) bt L mis) := HT.out.keep ((But.refl [] wr).alloc _) (by simp)
        have HEA : Hid (Ens (wr.alloc (.cells #[.int .i64 S, .int .i64 P, .int .i64 F, .bool W] 30)) (bt + 1) A L) := HE.out.keep ((But.refl [] wr).alloc _) (by simp)
        have HBA : Hid (But [bt] w (wr.alloc (.cells #[.int .i64 S, .int .i64 P, .int .i64 F, .bool W] 30))) := HB.out.alloc _
        by_cases hk0 : K = 0
        · subst hk0
          go_wp2_with (first
            | (refine wpList_load_mid rfl 30 _ rfl b (off + m * 5 + 1) rfl [.int .i64 S, .int .i64 P, .int .i64 F, .bool W] _ HRE.out Try.underlying30 rfl Try.sizeREntry ?_))
          rw [← hq]
          generalize wr.alloc (.cells #[.int .i64 S, .int .i64 P, .int .i64 F, .bool W] 30) = wA at HRN HTA HEA HBA hck ⊢
          clear hq HT HE HB HRE hck
          refine (entry_c S P F W _).mono ?_
          rintro e w1 ⟨rfl, k1⟩
          have HR1 : Hid (w1.rangeAt q 0 [.int .i64 S, .int .i64 P, .int .i64 F, .bool W]) := range_keep HRN.out k1 (by simp)
          have HT1 : Hid (TlbAt w1 bt L mis) := HTA.out.keep k1 (by simp)
          have HE1 : Hid (Ens w1 (bt + 1) A L) := HEA.out.keep k1 (by simp)
          have HB1 : Hid (But [bt] w w1) := HBA.out.trans (k1.any _)
          clear k1 HRN HTA HEA HBA
          go_wp2_with fail
          refine (put_c bt L mis S P F W _ HT1.out).mono ?_
          rintro e w2 ⟨rfl, h2, k2⟩
          obtain ⟨L2, hL2⟩ : ∃ L2, L2 = putL L ⟨S, P, F, W⟩ := ⟨_, rfl⟩
          rw [← hL2] at h2
          have HR2 : Hid (w2.rangeAt q 0 [.int .i64 S, .int .i64 P, .int .i64 F, .bool W]) := range_keep HR1.out k2 (by simpa using hqb)
          have HT2 : Hid (TlbAt w2 bt L2 mis) := h2
          have HE2 : Hid (Ens w2 (bt + 1) A L) := HE1.out.keep k2 (by simp)
          have HB2 : Hid (But [bt] w w2) := HB1.out.trans k2
          have HL2 : Hid (putL L ⟨S, P, F, W⟩ = L2) := hL2.symm
          have hl28 : L2.length ≤ 8 := h2.most
          clear h2 k2 hL2 HR1 HT1 HE1 HB1
          go_wp2_with (first
            | (refine wpList_load_mid rfl 30 _ rfl q 0 rfl [.int .i64 S, .int .i64 P, .int .i64 F, .bool W] _ HR2.out Try.underlying30 rfl Try.sizeREntry ?_))
          refine (rput_c A c L S P F W _ (HE2.out.lower (Nat.zero_le _)) hl8).mono ?_
          rintro e w3 ⟨A2, c2, rfl, e3, k3⟩
          rw [HL2.out] at e3 ⊢
          have HT3 : Hid (TlbAt w3 bt L2 mis) := HT2.out.keep k3 (by simp)
          have HE3 : Hid (Ens w3 (bt + 1) A2 L2) := e3.lower HT2.out.lt
          have HB3 : Hid (But [bt] w w3) := HB2.out.trans (k3.any _)
          clear e3 k3 HT2 HE2 HB2 HR2 HL2
          go_wp2_with fail
          refine (same_c bt L2 mis A2 c2 _ HT3.out (HE3.out.lower (Nat.zero_le _))).mono ?_
          rintro e w8 ⟨rfl, k8⟩
          have HT8 : Hid (TlbAt w8 bt L2 mis) := HT3.out.keep k8 (by simp)
          have HE8 : Hid (Ens w8 (bt + 1) A2 L2) := HE3.out.keep k8 (by simp)
          have HB8 : Hid (But [bt] w w8) := HB3.out.trans (k8.any _)
          clear k8
          go_wp2_with fail
          refine (misses_c bt L2 mis _ HT8.out).mono ?_
          rintro e w9 ⟨rfl, rfl⟩
          go_wp2
          go_roundg (100 - (m + 1))
          case measure => omega
          case rel => exact ⟨m + 1, mis, L2, A2, c2, by omega, by omega, by omega, by go_num, by go_num, rfl, HT8, HE8, HB8⟩
        ·
          by_cases hk1 : K = 1
          · subst hk1
            go_wp2_with (first
              | (refine wpList_load_mid rfl 30 _ rfl b (off + m * 5 + 1) rfl [.int .i64 S, .int .i64 P, .int .i64 F, .bool W] _ HRE.out Try.underlying30 rfl Try.sizeREntry ?_))
            rw [← hq]
            generalize wr.alloc (.cells #[.int .i64 S, .int .i64 P, .int .i64 F, .bool W] 30) = wA at HRN HTA HEA HBA hck ⊢
            clear hq HT HE HB HRE hck
            refine (entry_c S P F W _).mono ?_
            rintro e w1 ⟨rfl, k1⟩
            have HR1 : Hid (w1.rangeAt q 0 [.int .i64 S, .int .i64 P, .int .i64 F, .bool W]) := range_keep HRN.out k1 (by simp)
            have HT1 : Hid (TlbAt w1 bt L mis) := HTA.out.keep k1 (by simp)
            have HE1 : Hid (Ens w1 (bt + 1) A L) := HEA.out.keep k1 (by simp)
            have HB1 : Hid (But [bt] w w1) := HBA.out.trans (k1.any _)
            clear k1 HRN HTA HEA HBA
            go_wp2_with fail
            refine (put_c bt L mis S P F W _ HT1.out).mono ?_
            rintro e w2 ⟨rfl, h2, k2⟩
            obtain ⟨L2, hL2⟩ : ∃ L2, L2 = putL L ⟨S, P, F, W⟩ := ⟨_, rfl⟩
            rw [← hL2] at h2
            have HR2 : Hid (w2.rangeAt q 0 [.int .i64 S, .int .i64 P, .int .i64 F, .bool W]) := range_keep HR1.out k2 (by simpa using hqb)
            have HT2 : Hid (TlbAt w2 bt L2 mis) := h2
            have HE2 : Hid (Ens w2 (bt + 1) A L) := HE1.out.keep k2 (by simp)
            have HB2 : Hid (But [bt] w w2) := HB1.out.trans k2
            have HL2 : Hid (putL L ⟨S, P, F, W⟩ = L2) := hL2.symm
            have hl28 : L2.length ≤ 8 := h2.most
            clear h2 k2 hL2 HR1 HT1 HE1 HB1
            go_wp2_with (first
              | (refine wpList_load_mid rfl 30 _ rfl q 0 rfl [.int .i64 S, .int .i64 P, .int .i64 F, .bool W] _ HR2.out Try.underlying30 rfl Try.sizeREntry ?_))
            refine (rput_c A c L S P F W _ (HE2.out.lower (Nat.zero_le _)) hl8).mono ?_
            rintro e w3 ⟨A2, c2, rfl, e3, k3⟩
            rw [HL2.out] at e3 ⊢
            have HT3 : Hid (TlbAt w3 bt L2 mis) := HT2.out.keep k3 (by simp)
            have HE3 : Hid (Ens w3 (bt + 1) A2 L2) := e3.lower HT2.out.lt
            have HB3 : Hid (But [bt] w w3) := HB2.out.trans (k3.any _)
            clear e3 k3 HT2 HE2 HB2 HR2 HL2
            go_wp2_with fail
            refine (same_c bt L2 mis A2 c2 _ HT3.out (HE3.out.lower (Nat.zero_le _))).mono ?_
            rintro e w8 ⟨rfl, k8⟩
            have HT8 : Hid (TlbAt w8 bt L2 mis) := HT3.out.keep k8 (by simp)
            have HE8 : Hid (Ens w8 (bt + 1) A2 L2) := HE3.out.keep k8 (by simp)
            have HB8 : Hid (But [bt] w w8) := HB3.out.trans (k8.any _)
            clear k8
            go_wp2_with fail
            refine (misses_c bt L2 mis _ HT8.out).mono ?_
            rintro e w9 ⟨rfl, rfl⟩
            go_wp2
            go_roundg (100 - (m + 1))
            case measure => omega
            case rel => exact ⟨m + 1, mis, L2, A2, c2, by omega, by omega, by omega, by go_num, by go_num, rfl, HT8, HE8, HB8⟩
          ·
            by_cases hk2 : K = 2
            · subst hk2
              go_wp2_with (first
                | (refine wpList_load_mid rfl 30 _ rfl b (off + m * 5 + 1) rfl [.int .i64 S, .int .i64 P, .int .i64 F, .bool W] _ HRE.out Try.underlying30 rfl Try.sizeREntry ?_))
              rw [← hq]
              generalize wr.alloc (.cells #[.int .i64 S, .int .i64 P, .int .i64 F, .bool W] 30) = wA at HRN HTA HEA HBA hck ⊢
              clear hq HT HE HB HRE hck
              refine (entry_c S P F W _).mono ?_
              rintro e w1 ⟨rfl, k1⟩
              have HR1 : Hid (w1.rangeAt q 0 [.int .i64 S, .int .i64 P, .int .i64 F, .bool W]) := range_keep HRN.out k1 (by simp)
              have HT1 : Hid (TlbAt w1 bt L mis) := HTA.out.keep k1 (by simp)
              have HE1 : Hid (Ens w1 (bt + 1) A L) := HEA.out.keep k1 (by simp)
              have HB1 : Hid (But [bt] w w1) := HBA.out.trans (k1.any _)
              clear k1 HRN HTA HEA HBA
              go_wp2_with fail
              refine (put_c bt L mis S P F W _ HT1.out).mono ?_
              rintro e w2 ⟨rfl, h2, k2⟩
              obtain ⟨L2, hL2⟩ : ∃ L2, L2 = putL L ⟨S, P, F, W⟩ := ⟨_, rfl⟩
              rw [← hL2] at h2
              have HR2 : Hid (w2.rangeAt q 0 [.int .i64 S, .int .i64 P, .int .i64 F, .bool W]) := range_keep HR1.out k2 (by simpa using hqb)
              have HT2 : Hid (TlbAt w2 bt L2 mis) := h2
              have HE2 : Hid (Ens w2 (bt + 1) A L) := HE1.out.keep k2 (by simp)
              have HB2 : Hid (But [bt] w w2) := HB1.out.trans k2
              have HL2 : Hid (putL L ⟨S, P, F, W⟩ = L2) := hL2.symm
              have hl28 : L2.length ≤ 8 := h2.most
              clear h2 k2 hL2 HR1 HT1 HE1 HB1
              go_wp2_with (first
                | (refine wpList_load_mid rfl 30 _ rfl q 0 rfl [.int .i64 S, .int .i64 P, .int .i64 F, .bool W] _ HR2.out Try.underlying30 rfl Try.sizeREntry ?_))
              refine (rput_c A c L S P F W _ (HE2.out.lower (Nat.zero_le _)) hl8).mono ?_
              rintro e w3 ⟨A2, c2, rfl, e3, k3⟩
              rw [HL2.out] at e3 ⊢
              have HT3 : Hid (TlbAt w3 bt L2 mis) := HT2.out.keep k3 (by simp)
              have HE3 : Hid (Ens w3 (bt + 1) A2 L2) := e3.lower HT2.out.lt
              have HB3 : Hid (But [bt] w w3) := HB2.out.trans (k3.any _)
              clear e3 k3 HT2 HE2 HB2 HR2 HL2
              go_wp2_with fail
              refine (same_c bt L2 mis A2 c2 _ HT3.out (HE3.out.lower (Nat.zero_le _))).mono ?_
              rintro e w8 ⟨rfl, k8⟩
              have HT8 : Hid (TlbAt w8 bt L2 mis) := HT3.out.keep k8 (by simp)
              have HE8 : Hid (Ens w8 (bt + 1) A2 L2) := HE3.out.keep k8 (by simp)
              have HB8 : Hid (But [bt] w w8) := HB3.out.trans (k8.any _)
              clear k8
              go_wp2_with fail
              refine (misses_c bt L2 mis _ HT8.out).mono ?_
              rintro e w9 ⟨rfl, rfl⟩
              go_wp2
              go_roundg (100 - (m + 1))
              case measure => omega
              case rel => exact ⟨m + 1, mis, L2, A2, c2, by omega, by omega, by omega, by go_num, by go_num, rfl, HT8, HE8, HB8⟩
            ·
              by_cases hk3 : K = 3
              · subst hk3
                go_wp2_with (first
                  | (refine wpList_load_mid rfl 30 _ rfl b (off + m * 5 + 1) rfl [.int .i64 S, .int .i64 P, .int .i64 F, .bool W] _ HRE.out Try.underlying30 rfl Try.sizeREntry ?_))
                rw [← hq]
                generalize wr.alloc (.cells #[.int .i64 S, .int .i64 P, .int .i64 F, .bool W] 30) = wA at HRN HTA HEA HBA hck ⊢
                clear hq HT HE HB HRE hck
                refine (entry_c S P F W _).mono ?_
                rintro e w1 ⟨rfl, k1⟩
                have HR1 : Hid (w1.rangeAt q 0 [.int .i64 S, .int .i64 P, .int .i64 F, .bool W]) := range_keep HRN.out k1 (by simp)
                have HT1 : Hid (TlbAt w1 bt L mis) := HTA.out.keep k1 (by simp)
                have HE1 : Hid (Ens w1 (bt + 1) A L) := HEA.out.keep k1 (by simp)
                have HB1 : Hid (But [bt] w w1) := HBA.out.trans (k1.any _)
                clear k1 HRN HTA HEA HBA
                go_wp2_with fail
                refine (put_c bt L mis S P F W _ HT1.out).mono ?_
                rintro e w2 ⟨rfl, h2, k2⟩
                obtain ⟨L2, hL2⟩ : ∃ L2, L2 = putL L ⟨S, P, F, W⟩ := ⟨_, rfl⟩
                rw [← hL2] at h2
                have HR2 : Hid (w2.rangeAt q 0 [.int .i64 S, .int .i64 P, .int .i64 F, .bool W]) := range_keep HR1.out k2 (by simpa using hqb)
                have HT2 : Hid (TlbAt w2 bt L2 mis) := h2
                have HE2 : Hid (Ens w2 (bt + 1) A L) := HE1.out.keep k2 (by simp)
                have HB2 : Hid (But [bt] w w2) := HB1.out.trans k2
                have HL2 : Hid (putL L ⟨S, P, F, W⟩ = L2) := hL2.symm
                have hl28 : L2.length ≤ 8 := h2.most
                clear h2 k2 hL2 HR1 HT1 HE1 HB1
                go_wp2_with (first
                  | (refine wpList_load_mid rfl 30 _ rfl q 0 rfl [.int .i64 S, .int .i64 P, .int .i64 F, .bool W] _ HR2.out Try.underlying30 rfl Try.sizeREntry ?_))
                refine (rput_c A c L S P F W _ (HE2.out.lower (Nat.zero_le _)) hl8).mono ?_
                rintro e w3 ⟨A2, c2, rfl, e3, k3⟩
                rw [HL2.out] at e3 ⊢
                have HT3 : Hid (TlbAt w3 bt L2 mis) := HT2.out.keep k3 (by simp)
                have HE3 : Hid (Ens w3 (bt + 1) A2 L2) := e3.lower HT2.out.lt
                have HB3 : Hid (But [bt] w w3) := HB2.out.trans (k3.any _)
                clear e3 k3 HT2 HE2 HB2 HR2 HL2
                go_wp2_with fail
                refine (same_c bt L2 mis A2 c2 _ HT3.out (HE3.out.lower (Nat.zero_le _))).mono ?_
                rintro e w8 ⟨rfl, k8⟩
                have HT8 : Hid (TlbAt w8 bt L2 mis) := HT3.out.keep k8 (by simp)
                have HE8 : Hid (Ens w8 (bt + 1) A2 L2) := HE3.out.keep k8 (by simp)
                have HB8 : Hid (But [bt] w w8) := HB3.out.trans (k8.any _)
                clear k8
                go_wp2_with fail
                refine (misses_c bt L2 mis _ HT8.out).mono ?_
                rintro e w9 ⟨rfl, rfl⟩
                go_wp2
                go_roundg (100 - (m + 1))
                case measure => omega
                case rel => exact ⟨m + 1, mis, L2, A2, c2, by omega, by omega, by omega, by go_num, by go_num, rfl, HT8, HE8, HB8⟩
              ·
                by_cases hk4 : K = 4
                · subst hk4
                  go_wp2_with (first
                    | (refine wpList_load_mid rfl 30 _ rfl b (off + m * 5 + 1) rfl [.int .i64 S, .int .i64 P, .int .i64 F, .bool W] _ HRE.out Try.underlying30 rfl Try.sizeREntry ?_))
                  rw [← hq]
                  generalize wr.alloc (.cells #[.int .i64 S, .int .i64 P, .int .i64 F, .bool W] 30) = wA at HRN HTA HEA HBA hck ⊢
                  clear hq HT HE HB HRE hck
                  refine (dropFrame_c bt L mis F _ HTA.out).mono ?_
                  rintro e w2 ⟨rfl, h2, k2⟩
                  obtain ⟨L2, hL2⟩ : ∃ L2, L2 = stay (ofF F) L := ⟨_, rfl⟩
                  rw [← hL2] at h2 ⊢
                  have HR2 : Hid (w2.rangeAt q 0 [.int .i64 S, .int .i64 P, .int .i64 F, .bool W]) := range_keep HRN.out k2 (by simpa using hqb)
                  have HT2 : Hid (TlbAt w2 bt L2 mis) := h2
                  have HE2 : Hid (Ens w2 (bt + 1) A L) := HEA.out.keep k2 (by simp)
                  have HB2 : Hid (But [bt] w w2) := HBA.out.trans k2
                  have HL2 : Hid (stay (ofF F) L = L2) := hL2.symm
                  have hl28 : L2.length ≤ 8 := h2.most
                  have hl2l : L2.length ≤ L.length := by rw [hL2]; exact stay_len _ _
                  obtain ⟨d0, d1, d2, d3⟩ := four_cells HR2.out
                  clear h2 k2 hL2 HRN HTA HEA HBA
                  go_wp2_with fail
                  refine (rwF_c A c L F 0 _ (HE2.out.lower (Nat.zero_le _)) (by omega)).mono ?_
                  rintro e w3 ⟨A2, c2, rfl, -, -, e3, k3⟩
                  rw [HL2.out] at e3 ⊢
                  have HT3 : Hid (TlbAt w3 bt L2 mis) := HT2.out.keep k3 (by simp)
                  have HE3 : Hid (Ens w3 (bt + 1) A2 L2) := e3.lower HT2.out.lt
                  have HB3 : Hid (But [bt] w w3) := HB2.out.trans (k3.any _)
                  clear e3 k3 HT2 HE2 HB2 HR2 HL2 d0 d1 d2 d3
                  go_wp2_with fail
                  refine (same_c bt L2 mis A2 c2 _ HT3.out (HE3.out.lower (Nat.zero_le _))).mono ?_
                  rintro e w8 ⟨rfl, k8⟩
                  have HT8 : Hid (TlbAt w8 bt L2 mis) := HT3.out.keep k8 (by simp)
                  have HE8 : Hid (Ens w8 (bt + 1) A2 L2) := HE3.out.keep k8 (by simp)
                  have HB8 : Hid (But [bt] w w8) := HB3.out.trans (k8.any _)
                  clear k8
                  go_wp2_with fail
                  refine (misses_c bt L2 mis _ HT8.out).mono ?_
                  rintro e w9 ⟨rfl, rfl⟩
                  go_wp2
                  go_roundg (100 - (m + 1))
                  case measure => omega
                  case rel => exact ⟨m + 1, mis, L2, A2, c2, by omega, by omega, by omega, by go_num, by go_num, rfl, HT8, HE8, HB8⟩
                ·
                  by_cases hk5 : K = 5
                  · subst hk5
                    go_wp2_with (first
                      | (refine wpList_load_mid rfl 30 _ rfl b (off + m * 5 + 1) rfl [.int .i64 S, .int .i64 P, .int .i64 F, .bool W] _ HRE.out Try.underlying30 rfl Try.sizeREntry ?_))
                    rw [← hq]
                    generalize wr.alloc (.cells #[.int .i64 S, .int .i64 P, .int .i64 F, .bool W] 30) = wA at HRN HTA HEA HBA hck ⊢
                    clear hq HT HE HB HRE hck
                    refine (dropSpace_c bt L mis S _ HTA.out).mono ?_
                    rintro e w2 ⟨rfl, h2, k2⟩
                    obtain ⟨L2, hL2⟩ : ∃ L2, L2 = stay (ofS S) L := ⟨_, rfl⟩
                    rw [← hL2] at h2 ⊢
                    have HR2 : Hid (w2.rangeAt q 0 [.int .i64 S, .int .i64 P, .int .i64 F, .bool W]) := range_keep HRN.out k2 (by simpa using hqb)
                    have HT2 : Hid (TlbAt w2 bt L2 mis) := h2
                    have HE2 : Hid (Ens w2 (bt + 1) A L) := HEA.out.keep k2 (by simp)
                    have HB2 : Hid (But [bt] w w2) := HBA.out.trans k2
                    have HL2 : Hid (stay (ofS S) L = L2) := hL2.symm
                    have hl28 : L2.length ≤ 8 := h2.most
                    have hl2l : L2.length ≤ L.length := by rw [hL2]; exact stay_len _ _
                    obtain ⟨d0, d1, d2, d3⟩ := four_cells HR2.out
                    clear h2 k2 hL2 HRN HTA HEA HBA
                    go_wp2_with fail
                    refine (rwS_c A c L S 0 _ (HE2.out.lower (Nat.zero_le _)) (by omega)).mono ?_
                    rintro e w3 ⟨A2, c2, rfl, -, -, e3, k3⟩
                    rw [HL2.out] at e3 ⊢
                    have HT3 : Hid (TlbAt w3 bt L2 mis) := HT2.out.keep k3 (by simp)
                    have HE3 : Hid (Ens w3 (bt + 1) A2 L2) := e3.lower HT2.out.lt
                    have HB3 : Hid (But [bt] w w3) := HB2.out.trans (k3.any _)
                    clear e3 k3 HT2 HE2 HB2 HR2 HL2 d0 d1 d2 d3
                    go_wp2_with fail
                    refine (same_c bt L2 mis A2 c2 _ HT3.out (HE3.out.lower (Nat.zero_le _))).mono ?_
                    rintro e w8 ⟨rfl, k8⟩
                    have HT8 : Hid (TlbAt w8 bt L2 mis) := HT3.out.keep k8 (by simp)
                    have HE8 : Hid (Ens w8 (bt + 1) A2 L2) := HE3.out.keep k8 (by simp)
                    have HB8 : Hid (But [bt] w w8) := HB3.out.trans (k8.any _)
                    clear k8
                    go_wp2_with fail
                    refine (misses_c bt L2 mis _ HT8.out).mono ?_
                    rintro e w9 ⟨rfl, rfl⟩
                    go_wp2
                    go_roundg (100 - (m + 1))
                    case measure => omega
                    case rel => exact ⟨m + 1, mis, L2, A2, c2, by omega, by omega, by omega, by go_num, by go_num, rfl, HT8, HE8, HB8⟩
                  ·
                    by_cases hk6 : K = 6
                    · subst hk6
                      go_wp2_with (first
                        | (refine wpList_load_mid rfl 30 _ rfl b (off + m * 5 + 1) rfl [.int .i64 S, .int .i64 P, .int .i64 F, .bool W] _ HRE.out Try.underlying30 rfl Try.sizeREntry ?_))
                      rw [← hq]
                      generalize wr.alloc (.cells #[.int .i64 S, .int .i64 P, .int .i64 F, .bool W] 30) = wA at HRN HTA HEA HBA hck ⊢
                      clear hq HT HE HB HRE hck
                      refine (dropPage_c bt L mis S P _ HTA.out).mono ?_
                      rintro e w2 ⟨rfl, h2, k2⟩
                      obtain ⟨L2, hL2⟩ : ∃ L2, L2 = stay (isE S P) L := ⟨_, rfl⟩
                      rw [← hL2] at h2 ⊢
                      have HR2 : Hid (w2.rangeAt q 0 [.int .i64 S, .int .i64 P, .int .i64 F, .bool W]) := range_keep HRN.out k2 (by simpa using hqb)
                      have HT2 : Hid (TlbAt w2 bt L2 mis) := h2
                      have HE2 : Hid (Ens w2 (bt + 1) A L) := HEA.out.keep k2 (by simp)
                      have HB2 : Hid (But [bt] w w2) := HBA.out.trans k2
                      have HL2 : Hid (stay (isE S P) L = L2) := hL2.symm
                      have hl28 : L2.length ≤ 8 := h2.most
                      have hl2l : L2.length ≤ L.length := by rw [hL2]; exact stay_len _ _
                      obtain ⟨d0, d1, d2, d3⟩ := four_cells HR2.out
                      clear h2 k2 hL2 HRN HTA HEA HBA
                      go_wp2_with fail
                      refine (rwP_c A c L S P _ (HE2.out.lower (Nat.zero_le _)) (by omega)).mono ?_
                      rintro e w3 ⟨A2, c2, rfl, -, -, e3, k3⟩
                      rw [HL2.out] at e3 ⊢
                      have HT3 : Hid (TlbAt w3 bt L2 mis) := HT2.out.keep k3 (by simp)
                      have HE3 : Hid (Ens w3 (bt + 1) A2 L2) := e3.lower HT2.out.lt
                      have HB3 : Hid (But [bt] w w3) := HB2.out.trans (k3.any _)
                      clear e3 k3 HT2 HE2 HB2 HR2 HL2 d0 d1 d2 d3
                      go_wp2_with fail
                      refine (same_c bt L2 mis A2 c2 _ HT3.out (HE3.out.lower (Nat.zero_le _))).mono ?_
                      rintro e w8 ⟨rfl, k8⟩
                      have HT8 : Hid (TlbAt w8 bt L2 mis) := HT3.out.keep k8 (by simp)
                      have HE8 : Hid (Ens w8 (bt + 1) A2 L2) := HE3.out.keep k8 (by simp)
                      have HB8 : Hid (But [bt] w w8) := HB3.out.trans (k8.any _)
                      clear k8
                      go_wp2_with fail
                      refine (misses_c bt L2 mis _ HT8.out).mono ?_
                      rintro e w9 ⟨rfl, rfl⟩
                      go_wp2
                      go_roundg (100 - (m + 1))
                      case measure => omega
                      case rel => exact ⟨m + 1, mis, L2, A2, c2, by omega, by omega, by omega, by go_num, by go_num, rfl, HT8, HE8, HB8⟩
                    ·
                      cases hge : getE S P L with
                      | some eg =>
                        obtain ⟨gs, gp, gf, gw⟩ := eg
                        have HGE : Hid (getE S P L = some ⟨gs, gp, gf, gw⟩) := hge
                        clear hge
                        go_wp2_with (first
                          | (refine wpList_load_mid rfl 30 _ rfl b (off + m * 5 + 1) rfl [.int .i64 S, .int .i64 P, .int .i64 F, .bool W] _ HRE.out Try.underlying30 rfl Try.sizeREntry ?_))
                        rw [← hq]
                        generalize wr.alloc (.cells #[.int .i64 S, .int .i64 P, .int .i64 F, .bool W] 30) = wA at HRN HTA HEA HBA hck ⊢
                        clear hq HT HE HB HRE hck
                        refine (get_c bt L mis S P _ HTA.out (by omega)).mono ?_
                        rintro e w2 ⟨rfl, h2, k2⟩
                        rw [misE_hit mis HGE.out] at h2
                        rw [HGE.out]
                        simp only [ansE]
                        have HR2 : Hid (w2.rangeAt q 0 [.int .i64 S, .int .i64 P, .int .i64 F, .bool W]) := range_keep HRN.out k2 (by simpa using hqb)
                        have HT2 : Hid (TlbAt w2 bt L mis) := h2
                        have HE2 : Hid (Ens w2 (bt + 1) A L) := HEA.out.keep k2 (by simp)
                        have HB2 : Hid (But [bt] w w2) := HBA.out.trans k2
                        clear h2 k2 HRN HTA HEA HBA
                        obtain ⟨x, hx⟩ : ∃ x, x = w2.heap.size := ⟨_, rfl⟩
                        have HX2 : Hid ((w2.alloc (.cells #[.int .i64 gs, .int .i64 gp, .int .i64 gf, .bool gw] 25)).rangeAt x 0 [.int .i64 gs, .int .i64 gp, .int .i64 gf, .bool gw]) := by
                          show World.rangeAt _ _ _ _
                          rw [hx]
                          exact new_range w2 [.int .i64 gs, .int .i64 gp, .int .i64 gf, .bool gw] _
                        have HR3 : Hid ((w2.alloc (.cells #[.int .i64 gs, .int .i64 gp, .int .i64 gf, .bool gw] 25)).rangeAt q 0 [.int .i64 S, .int .i64 P, .int .i64 F, .bool W]) := range_keep HR2.out ((But.refl [] w2).alloc _) (by simp)
                        have HT3 : Hid (TlbAt (w2.alloc (.cells #[.int .i64 gs, .int .i64 gp, .int .i64 gf, .bool gw] 25)) bt L mis) := HT2.out.keep ((But.refl [] w2).alloc _) (by simp)
                        have HE3 : Hid (Ens (w2.alloc (.cells #[.int .i64 gs, .int .i64 gp, .int .i64 gf, .bool gw] 25)) (bt + 1) A L) := HE2.out.keep ((But.refl [] w2).alloc _) (by simp)
                        have HB3 : Hid (But [bt] w (w2.alloc (.cells #[.int .i64 gs, .int .i64 gp, .int .i64 gf, .bool gw] 25))) := HB2.out.alloc _
                        obtain ⟨d0, d1, d2, d3⟩ := four_cells HR3.out
                        go_wp2_with fail
                        rw [← hx]
                        generalize w2.alloc (.cells #[.int .i64 gs, .int .i64 gp, .int .i64 gf, .bool gw] 25) = w3 at HX2 HR3 HT3 HE3 HB3 d0 d1 d2 d3 ⊢
                        clear hx HR2 HT2 HE2 HB2 d0 d1 d2 d3
                        refine (rget_c A c L S P _ (HE3.out.lower (Nat.zero_le _)) (by omega)).mono ?_
                        rintro e w5 ⟨rfl, k5⟩
                        rw [HGE.out]
                        simp only [ansE]
                        have HX5 : Hid (w5.rangeAt x 0 [.int .i64 gs, .int .i64 gp, .int .i64 gf, .bool gw]) := range_keep HX2.out k5 (by simp)
                        have HT5 : Hid (TlbAt w5 bt L mis) := HT3.out.keep k5 (by simp)
                        have HE5 : Hid (Ens w5 (bt + 1) A L) := HE3.out.keep k5 (by simp)
                        have HB5 : Hid (But [bt] w w5) := HB3.out.trans (k5.any _)
                        clear k5 HX2 HR3 HT3 HE3 HB3
                        obtain ⟨y, hy⟩ : ∃ y, y = w5.heap.size := ⟨_, rfl⟩
                        have hk6 : But [] w5 (w5.alloc (.cells #[.int .i64 gs, .int .i64 gp, .int .i64 gf, .bool gw] 30)) := (But.refl [] w5).alloc _
                        have HY6 : Hid ((w5.alloc (.cells #[.int .i64 gs, .int .i64 gp, .int .i64 gf, .bool gw] 30)).rangeAt y 0 [.int .i64 gs, .int .i64 gp, .int .i64 gf, .bool gw]) := by
                          show World.rangeAt _ _ _ _
                          rw [hy]
                          exact new_range w5 [.int .i64 gs, .int .i64 gp, .int .i64 gf, .bool gw] _
                        go_wp2
                        rw [← hy]
                        have hX6 := range_keep HX5.out hk6 (by simp)
                        have HT6 : Hid (TlbAt (w5.alloc (.cells #[.int .i64 gs, .int .i64 gp, .int .i64 gf, .bool gw] 30)) bt L mis) := HT5.out.keep hk6 (by simp)
                        have HE6 : Hid (Ens (w5.alloc (.cells #[.int .i64 gs, .int .i64 gp, .int .i64 gf, .bool gw] 30)) (bt + 1) A L) := HE5.out.keep hk6 (by simp)
                        have HB6 : Hid (But [bt] w (w5.alloc (.cells #[.int .i64 gs, .int .i64 gp, .int .i64 gf, .bool gw] 30))) := HB5.out.trans (hk6.any _)
                        generalize w5.alloc (.cells #[.int .i64 gs, .int .i64 gp, .int .i64 gf, .bool gw] 30) = w4 at HY6 hX6 HT6 HE6 HB6 ⊢
                        clear hy hk6 HX5 HT5 HE5 HB5
                        have S0 : w4.drew.cell? ⟨x, 0, none⟩ = some (.int .i64 gs) ∧ w4.drew.cell? ⟨x, 1, none⟩ = some (.int .i64 gp) ∧ w4.drew.cell? ⟨x, 2, none⟩ = some (.int .i64 gf) ∧ w4.drew.cell? ⟨x, 3, none⟩ = some (.bool gw) ∧ w4.drew.cell? ⟨y, 0, none⟩ = some (.int .i64 gs) ∧ w4.drew.cell? ⟨y, 1, none⟩ = some (.int .i64 gp) ∧ w4.drew.cell? ⟨y, 2, none⟩ = some (.int .i64 gf) ∧ w4.drew.cell? ⟨y, 3, none⟩ = some (.bool gw) ∧ SameS w4 w4.drew := by
                          obtain ⟨p0, p1, p2, p3⟩ := four_cells ((World.rangeAt_drew _ _ _ _).2 hX6)
                          obtain ⟨r0, r1, r2, r3⟩ := four_cells ((World.rangeAt_drew _ _ _ _).2 HY6.out)
                          exact ⟨p0, p1, p2, p3, r0, r1, r2, r3, (But.refl [] w4).drew⟩
                        have heq := eqEntry gs gp gf gw
                        clear hX6 HY6
                        go_region_held3 (fun w' => w'.cell? ⟨x, 0, none⟩ = some (.int .i64 gs) ∧ w'.cell? ⟨x, 1, none⟩ = some (.int .i64 gp) ∧ w'.cell? ⟨x, 2, none⟩ = some (.int .i64 gf) ∧ w'.cell? ⟨x, 3, none⟩ = some (.bool gw) ∧ w'.cell? ⟨y, 0, none⟩ = some (.int .i64 gs) ∧ w'.cell? ⟨y, 1, none⟩ = some (.int .i64 gp) ∧ w'.cell? ⟨y, 2, none⟩ = some (.int .i64 gf) ∧ w'.cell? ⟨y, 3, none⟩ = some (.bool gw) ∧ SameS w4 w')
                          (first | exact S0 | assumption | exact eight_keep (by assumption) (by assumption))
                          (first
                            | (go_at_call 7; refine (entry_c gs gp gf gw _).mono ?_; rintro e w7 ⟨rfl, k7⟩))
                        go_split_ands
                        have hk7 : But [] w4 w7 := ‹SameS w4 w7›
                        have HT7 : Hid (TlbAt w7 bt L mis) := HT6.out.keep hk7 (by simp)
                        have HE7 : Hid (Ens w7 (bt + 1) A L) := HE6.out.keep hk7 (by simp)
                        have HB7 : Hid (But [bt] w w7) := HB6.out.trans (hk7.any _)
                        clear hk7 HT6 HE6 HB6
                        go_wp2_with fail
                        refine (same_c bt L mis A c _ HT7.out (HE7.out.lower (Nat.zero_le _))).mono ?_
                        rintro e w8 ⟨rfl, k8⟩
                        have HT8 : Hid (TlbAt w8 bt L mis) := HT7.out.keep k8 (by simp)
                        have HE8 : Hid (Ens w8 (bt + 1) A L) := HE7.out.keep k8 (by simp)
                        have HB8 : Hid (But [bt] w w8) := HB7.out.trans (k8.any _)
                        clear k8
                        go_wp2_with fail
                        refine (misses_c bt L mis _ HT8.out).mono ?_
                        rintro e w9 ⟨rfl, rfl⟩
                        go_wp2
                        go_roundg (100 - (m + 1))
                        case measure => omega
                        case rel => exact ⟨m + 1, mis, L, A, c, by omega, by omega, by omega, by go_num, by go_num, rfl, HT8, HE8, HB8⟩
                      | none =>
                        have HGE : Hid (getE S P L = none) := hge
                        clear hge
                        go_wp2_with (first
                          | (refine wpList_load_mid rfl 30 _ rfl b (off + m * 5 + 1) rfl [.int .i64 S, .int .i64 P, .int .i64 F, .bool W] _ HRE.out Try.underlying30 rfl Try.sizeREntry ?_))
                        rw [← hq]
                        generalize wr.alloc (.cells #[.int .i64 S, .int .i64 P, .int .i64 F, .bool W] 30) = wA at HRN HTA HEA HBA hck ⊢
                        clear hq HT HE HB HRE hck
                        refine (get_c bt L mis S P _ HTA.out (by omega)).mono ?_
                        rintro e w2 ⟨rfl, h2, k2⟩
                        rw [misE_miss mis HGE.out] at h2
                        rw [HGE.out]
                        simp only [ansE]
                        have HR2 : Hid (w2.rangeAt q 0 [.int .i64 S, .int .i64 P, .int .i64 F, .bool W]) := range_keep HRN.out k2 (by simpa using hqb)
                        have HT2 : Hid (TlbAt w2 bt L (mis + 1)) := h2
                        have HE2 : Hid (Ens w2 (bt + 1) A L) := HEA.out.keep k2 (by simp)
                        have HB2 : Hid (But [bt] w w2) := HBA.out.trans k2
                        clear h2 k2 HRN HTA HEA HBA
                        obtain ⟨x, hx⟩ : ∃ x, x = w2.heap.size := ⟨_, rfl⟩
                        have HX2 : Hid ((w2.alloc (.cells #[.int .i64 0, .int .i64 0, .int .i64 0, .bool false] 25)).rangeAt x 0 [.int .i64 0, .int .i64 0, .int .i64 0, .bool false]) := by
                          show World.rangeAt _ _ _ _
                          rw [hx]
                          exact new_range w2 [.int .i64 0, .int .i64 0, .int .i64 0, .bool false] _
                        have HR3 : Hid ((w2.alloc (.cells #[.int .i64 0, .int .i64 0, .int .i64 0, .bool false] 25)).rangeAt q 0 [.int .i64 S, .int .i64 P, .int .i64 F, .bool W]) := range_keep HR2.out ((But.refl [] w2).alloc _) (by simp)
                        have HT3 : Hid (TlbAt (w2.alloc (.cells #[.int .i64 0, .int .i64 0, .int .i64 0, .bool false] 25)) bt L (mis + 1)) := HT2.out.keep ((But.refl [] w2).alloc _) (by simp)
                        have HE3 : Hid (Ens (w2.alloc (.cells #[.int .i64 0, .int .i64 0, .int .i64 0, .bool false] 25)) (bt + 1) A L) := HE2.out.keep ((But.refl [] w2).alloc _) (by simp)
                        have HB3 : Hid (But [bt] w (w2.alloc (.cells #[.int .i64 0, .int .i64 0, .int .i64 0, .bool false] 25))) := HB2.out.alloc _
                        obtain ⟨d0, d1, d2, d3⟩ := four_cells HR3.out
                        go_wp2_with fail
                        rw [← hx]
                        generalize w2.alloc (.cells #[.int .i64 0, .int .i64 0, .int .i64 0, .bool false] 25) = w3 at HX2 HR3 HT3 HE3 HB3 d0 d1 d2 d3 ⊢
                        clear hx HR2 HT2 HE2 HB2 d0 d1 d2 d3
                        refine (rget_c A c L S P _ (HE3.out.lower (Nat.zero_le _)) (by omega)).mono ?_
                        rintro e w5 ⟨rfl, k5⟩
                        rw [HGE.out]
                        simp only [ansE]
                        have HX5 : Hid (w5.rangeAt x 0 [.int .i64 0, .int .i64 0, .int .i64 0, .bool false]) := range_keep HX2.out k5 (by simp)
                        have HT5 : Hid (TlbAt w5 bt L (mis + 1)) := HT3.out.keep k5 (by simp)
                        have HE5 : Hid (Ens w5 (bt + 1) A L) := HE3.out.keep k5 (by simp)
                        have HB5 : Hid (But [bt] w w5) := HB3.out.trans (k5.any _)
                        clear k5 HX2 HR3 HT3 HE3 HB3
                        obtain ⟨y, hy⟩ : ∃ y, y = w5.heap.size := ⟨_, rfl⟩
                        have hk6 : But [] w5 (w5.alloc (.cells #[.int .i64 0, .int .i64 0, .int .i64 0, .bool false] 30)) := (But.refl [] w5).alloc _
                        have HY6 : Hid ((w5.alloc (.cells #[.int .i64 0, .int .i64 0, .int .i64 0, .bool false] 30)).rangeAt y 0 [.int .i64 0, .int .i64 0, .int .i64 0, .bool false]) := by
                          show World.rangeAt _ _ _ _
                          rw [hy]
                          exact new_range w5 [.int .i64 0, .int .i64 0, .int .i64 0, .bool false] _
                        go_wp2
                        rw [← hy]
                        have hX6 := range_keep HX5.out hk6 (by simp)
                        have HT6 : Hid (TlbAt (w5.alloc (.cells #[.int .i64 0, .int .i64 0, .int .i64 0, .bool false] 30)) bt L (mis + 1)) := HT5.out.keep hk6 (by simp)
                        have HE6 : Hid (Ens (w5.alloc (.cells #[.int .i64 0, .int .i64 0, .int .i64 0, .bool false] 30)) (bt + 1) A L) := HE5.out.keep hk6 (by simp)
                        have HB6 : Hid (But [bt] w (w5.alloc (.cells #[.int .i64 0, .int .i64 0, .int .i64 0, .bool false] 30))) := HB5.out.trans (hk6.any _)
                        generalize w5.alloc (.cells #[.int .i64 0, .int .i64 0, .int .i64 0, .bool false] 30) = w4 at HY6 hX6 HT6 HE6 HB6 ⊢
                        clear hy hk6 HX5 HT5 HE5 HB5
                        have S0 : w4.drew.cell? ⟨x, 0, none⟩ = some (.int .i64 0) ∧ w4.drew.cell? ⟨x, 1, none⟩ = some (.int .i64 0) ∧ w4.drew.cell? ⟨x, 2, none⟩ = some (.int .i64 0) ∧ w4.drew.cell? ⟨x, 3, none⟩ = some (.bool false) ∧ w4.drew.cell? ⟨y, 0, none⟩ = some (.int .i64 0) ∧ w4.drew.cell? ⟨y, 1, none⟩ = some (.int .i64 0) ∧ w4.drew.cell? ⟨y, 2, none⟩ = some (.int .i64 0) ∧ w4.drew.cell? ⟨y, 3, none⟩ = some (.bool false) ∧ SameS w4 w4.drew := by
                          obtain ⟨p0, p1, p2, p3⟩ := four_cells ((World.rangeAt_drew _ _ _ _).2 hX6)
                          obtain ⟨r0, r1, r2, r3⟩ := four_cells ((World.rangeAt_drew _ _ _ _).2 HY6.out)
                          exact ⟨p0, p1, p2, p3, r0, r1, r2, r3, (But.refl [] w4).drew⟩
                        have heq := eqEntry 0 0 0 false
                        clear hX6 HY6
                        go_region_held3 (fun w' => w'.cell? ⟨x, 0, none⟩ = some (.int .i64 0) ∧ w'.cell? ⟨x, 1, none⟩ = some (.int .i64 0) ∧ w'.cell? ⟨x, 2, none⟩ = some (.int .i64 0) ∧ w'.cell? ⟨x, 3, none⟩ = some (.bool false) ∧ w'.cell? ⟨y, 0, none⟩ = some (.int .i64 0) ∧ w'.cell? ⟨y, 1, none⟩ = some (.int .i64 0) ∧ w'.cell? ⟨y, 2, none⟩ = some (.int .i64 0) ∧ w'.cell? ⟨y, 3, none⟩ = some (.bool false) ∧ SameS w4 w')
                          (first | exact S0 | assumption | exact eight_keep (by assumption) (by assumption))
                          (first
                            | (go_at_call 7; refine (entry_c 0 0 0 false _).mono ?_; rintro e w7 ⟨rfl, k7⟩))
                        go_split_ands
                        have hk7 : But [] w4 w7 := ‹SameS w4 w7›
                        have HT7 : Hid (TlbAt w7 bt L (mis + 1)) := HT6.out.keep hk7 (by simp)
                        have HE7 : Hid (Ens w7 (bt + 1) A L) := HE6.out.keep hk7 (by simp)
                        have HB7 : Hid (But [bt] w w7) := HB6.out.trans (hk7.any _)
                        clear hk7 HT6 HE6 HB6
                        go_wp2_with fail
                        refine (same_c bt L (mis + 1) A c _ HT7.out (HE7.out.lower (Nat.zero_le _))).mono ?_
                        rintro e w8 ⟨rfl, k8⟩
                        have HT8 : Hid (TlbAt w8 bt L (mis + 1)) := HT7.out.keep k8 (by simp)
                        have HE8 : Hid (Ens w8 (bt + 1) A L) := HE7.out.keep k8 (by simp)
                        have HB8 : Hid (But [bt] w w8) := HB7.out.trans (k8.any _)
                        clear k8
                        go_wp2_with fail
                        refine (misses_c bt L (mis + 1) _ HT8.out).mono ?_
                        rintro e w9 ⟨rfl, rfl⟩
                        go_wp2
                        go_roundg (100 - (m + 1))
                        case measure => omega
                        case rel => exact ⟨m + 1, (mis + 1), L, A, c, by omega, by omega, by omega, by go_num, by go_num, rfl, HT8, HE8, HB8⟩
      · obtain rfl : m = 100 := by omega
        go_wp2_with fail
        refine (awake_c _).mono ?_
        rintro e w8 ⟨rfl, k8⟩
        have hE8 : Hid (But [bt] w w8) := HB.out.trans (k8.any _)
        clear k8
        go_wp2
        go_ret
        exact ⟨rfl, HK.out _ hE8.out⟩
    · obtain rfl : m = len0 := by omega
      go_wp2_with fail
      refine (awake_c _).mono ?_
      rintro e w8 ⟨rfl, k8⟩
      have hE8 : Hid (But [bt] w w8) := HB.out.trans (k8.any _)
      clear k8
      go_wp2
      go_ret
      exact ⟨rfl, HK.out _ hE8.out⟩

set_option maxRecDepth 100000 in
theorem lifted (os : Os) (started : os.Started) (H : Type) (enc : TypeId × Value → H) :
    ReturnsInHanded {} Try.checked os 3 .any (Rows.tlbPlaysSpec.pre6 enc Try.prog Try.f3 Rows.tlbPlaysRow.domain false) (Rows.tlbPlaysSpec.post enc Try.prog Try.f3 false true false false) := by
  refine returnsInHanded_of_change (C := Try.checked) own started (by kernel_rfl) Try.func3
    (ChangeSpec.witness6 (enc := enc) (C := Try.checked) false ⟨#[], #[.slice none 0 0], []⟩ 8 (by kernel_rfl) (by kernel_rfl) (by kernel_rfl) (by kernel_rfl)) ?_
  intro W base args ds gs before hval0 hW hcnd _
  have hval : ∀ (j : Nat) t v, Try.f3.params[j]? = some t → args[j]? = some v → Value.okWide Try.prog W .any base t v := hval0
  have hW' := hW
  obtain ⟨p, q, hA0, hV, rfl, hfz, hnd⟩ := hW
  have hA : DataW.TrodAll enc Try.prog W 0 (fun _ => true) true Try.f3.params.toList args.toList ds p := hA0
  rw [Try.params3] at hA hval
  obtain ⟨v0, vs0, d0, ds0, p0, q0, hargs, rfl, rfl, h0, t0⟩ := trodAll_cons hA
  obtain ⟨rfl, rfl, rfl⟩ := trodAll_nil t0
  obtain rfl : args = #[v0] := by cases args; simp_all
  obtain ⟨rfl, rfl⟩ := trodVars_none hV
  have k0 := h0
  have lt0 : ∀ x ∈ p0, x.block < W.heap.size := by obtain ⟨m, hm⟩ := k0; exact DataW.trod_lt m _ _ _ hm
  obtain ⟨A0, len0, cap0, rfl⟩ := okWide_slice Try.underlying22 (hval 0 22 v0 rfl rfl)
  have r0 := rowOf_open Try.underlying22 flatDeed (by decide) h0
  clear hA0 hval0
  refine (walk W A0 len0 cap0 r0).mono fun e W' ⟨he, hg⟩ => ?_
  subst he
  exact ⟨_, rfl, _, _, _, [], _, [], hW', (trodAll_cons_mk (shut_bool Try.underlying4 _) trodAll_mk0), (trodAll_cons_mk (Below.trod laidOut (by kernel_rfl) (of_decide_eq_true (by kernel_rfl)) k0 hg lt0) trodAll_mk0), rfl, hg.frame _, (fun h => by cases h)⟩

theorem over : Rows.tlbPlaysRow.holds Try.pinned (OpenSpec.ofChange Rows.tlbPlaysSpec) :=
  OpenClaim.holds_of_wide 3 Try.f3 rfl rfl rfl rfl rfl rfl rfl ⟨rfl, rfl, rfl, rfl, rfl⟩ rfl rfl rfl rfl rfl (by kernel_rfl) Try.func3 (by kernel_rfl)
    (of_decide_eq_true (by kernel_rfl)) (by unfold Func.isWrapper; first | (rw [if_pos (by decide +kernel)]; kernel_rfl) | (rw [if_neg (by decide +kernel)]; exact ⟨rfl, rfl⟩))
    (fun os started H enc _ => lifted os started H enc)
end Go.Proofs.Ytpceailgnneejaa.tlbPlays
namespace Go.Proofs.Ytpceailgnneejaa
/-- The statement, by its short name. -/
theorem tlbPlays_holds : Rows.TlbPlaysSaid := tlbPlays.over
#print axioms tlbPlays_holds
end Go.Proofs.Ytpceailgnneejaa
