/-
  Layer 12 (caps): the contract of the document's Revoke, over the translated program.
-/
import Derived.Test.YtlppfcoclpdanaaCsRefN
import Derived.Test.YtlppfcoclpdanaaCsRev
namespace Go.Proofs.Ytlppfcoclpdanaa.Cs
open Go.ChangeShapes Go.WideShapes Go.ChangeAt Go.RowKit
open Wh Sn
set_option linter.unusedVariables false
set_option maxRecDepth 20000

def rvB (T : Tr) (a : Nat) (self : Bool) (i : Nat) : Bool := und T a i || (self && decide (i = a))
theorem rvL_self {T : Tr} {a : Nat} {self : Bool} {l : List Nat} (h : ∀ x, x ∈ l ↔ rvB T a self x = true) : rvL T l = rvT T a self := funext fun i => by
  unfold rvL rvT
  by_cases e : i ∈ l
  · rw [if_pos e, if_pos (show (und T a i || (self && decide (i = a))) = true from (h i).1 e)]
  · rw [if_neg e, if_neg (show ¬ (und T a i || (self && decide (i = a))) = true from fun h2 => e ((h i).2 h2))]
theorem rvB_lt {T : Tr} {m : Nat} (hW : Wf T m) {a : Nat} (ha : a < 64) {self : Bool} {x : Nat} (h : rvB T a self x = true) : x < 64 := by
  unfold rvB at h
  simp at h
  rcases h with h | h
  · exact (und_lt hW h).2.2.2.2
  · omega
theorem rvB_count {T : Tr} {m : Nat} (hW : Wf T m) {a : Nat} (ha : a < 64) : (nums (rvB T a false) 64).length = rvC T a ∧ (nums (rvB T a true) 64).length = rvC T a + 1 := by
  constructor
  · unfold rvC
    congr 2
    exact funext fun x => by simp [rvB]
  · have h := nodup_eq (l := nums (rvB T a true) 64) (k := nums (und T a) 64 ++ [a]) (nums_nodup _ _)
      (List.nodup_append.2 ⟨nums_nodup _ _, by simp, fun x hx y hy e => by
        simp at hy
        subst hy; subst e
        exact (und_lt hW ((nums_mem _ _ _).1 hx).2).2.2.2.1 rfl⟩)
      (fun x => by
        rw [nums_mem, List.mem_append, nums_mem]
        simp [rvB]
        constructor
        · rintro ⟨h1, h2 | h2⟩
          · exact .inl ⟨h1, h2⟩
          · exact .inr h2
        · rintro (⟨h1, h2⟩ | h2)
          · exact ⟨h1, .inl h2⟩
          · exact ⟨by omega, .inr h2⟩)
    rw [h, List.length_append]
    rfl
theorem r4_keep {wb wp wc : World} {p q r s : Nat} {v1 v2 : Value} (k : But [] wp wc) (h : wp.cell? ⟨p, 0, none⟩ = some v1 ∧ wp.cell? ⟨q, r, none⟩ = some v2 ∧ But [] wb wp) :
    wc.cell? ⟨p, 0, none⟩ = some v1 ∧ wc.cell? ⟨q, r, none⟩ = some v2 ∧ But [] wb wc :=
  ⟨cell_keep h.1 k (by simp), cell_keep h.2.1 k (by simp), h.2.2.trans k⟩
set_option maxHeartbeats 4000000 in
theorem rRevoke_c (bx bl m : Nat) (T : Tr) (a : Nat) (ha : a < 64) (self : Bool) (w : World) (h : RfAt w bx bl T m) (hW : Wf T m) (hga : 0 < (T a).gen) :
    Calls Try.prog 30 #[.pointer (some ⟨bx, 0, none⟩), .int .i64 a, .bool self] w fun e w' =>
      e = .returned (.int .i64 ((nums (rvB T a self) 64).length : Nat)) ∧ RfAt w' bx bl (rvT T a self) m ∧ But [bl] w w' := by
  have H := hid h
  have HW := hid hW
  have HG := hid hga
  have hlt := h.lt
  have HNE : Hid (bx < w.heap.size ∧ bl < w.heap.size) := hlt
  clear h hW hga hlt
  go_enter Try.func30, Try.ntmps30
  go_wp2
  go_loopg [7, 8] 65 (fun g0 v i wx => ∃ (k n cv : Nat) (Av : Option Addr), k + g0 = 65 ∧ k ≤ 64 ∧ i = .int .i64 k ∧ v = .slice Av n cv ∧ Hid (Que wx w.heap.size 1 (.slice Av n cv) n (ic (nums (rvB T a self) k))) ∧ Hid (But [] w wx))
  case atStart => exact ⟨0, 0, 0, none, by omega, by omega, rfl, rfl, Que.nil _ _ _, But.refl _ _⟩
  case round =>
    obtain ⟨k, n, cv, Av, hkg, hk, rfl, rfl, HQ, HB⟩ := hrel
    by_cases hlt : k < 64
    · have hkI : (k : Int) < 64 := by omega
      have HR := hid (H.out.keep0 HB.out)
      have hc0 := HR.out.c0
      have hcg := HR.out.g hlt
      have hn := nums_succ (rvB T a self) k
      have hle := nums_le (rvB T a self) k
      have HNO : Hid (rvB T a self k = false → nums (rvB T a self) (k + 1) = nums (rvB T a self) k) := fun h => by rw [hn, h]; simp
      have HYS : Hid (rvB T a self k = true → nums (rvB T a self) (k + 1) = nums (rvB T a self) k ++ [k]) := fun h => by rw [hn, h]; simp
      have hm : n ≤ 1025 := by
        have := HQ.out.1
        rw [ic_len] at this
        omega
      clear hn hle
      by_cases hg : (T k).gen = 0
      · have hbk : rvB T a self k = false := by
          unfold rvB
          rw [und_none hg]
          have : k ≠ a := fun e => by subst e; have := HG.out; omega
          simp [this]
        have HN := hid (HNO.out hbk)
        rw [hg] at hcg
        clear hbk hg
        go_wp2
        go_roundg (65 - (k + 1))
        case measure => omega
        case rel => exact ⟨k + 1, n, cv, Av, by omega, by omega, by go_num, rfl, by rw [HN.out]; exact HQ.out, HB.out⟩
      · have hd : decide (0 < (T k).gen) = true := decide_eq_true (by omega)
        generalize (T k).gen = gg at hcg hd hg
        clear hg
        go_wp2_with fail
        refine (rUnder_c bx bl m T k a hlt wr HR.out HW.out.bound).mono ?_
        rintro e w1 ⟨rfl, rfl⟩
        by_cases hb : rvB T a self k = true
        · have HN := hid (HYS.out hb)
          obtain ⟨g', off', c', w5, hr5, hq5, hk5, ho5⟩ := que_push (P := Try.prog) 82 3 _ Try.underlying82 Cs.Try.infoInt rfl (by decide) (by decide) HQ.out (ic [k]) rfl (ic_one _) HB.out.size (by omega)
          have HQ5 : Hid (Que w5 w.heap.size 1 (.slice (some ⟨g', off', none⟩) (n + 1) c') (n + 1) (ic (nums (rvB T a self) (k + 1)))) := by
            show Que _ _ _ _ _ _
            rw [HN.out, ic_app]
            exact hq5
          have HB5 := hid (but_own HB.out hk5 (fun i hi => (HQ.out.lt i hi).1))
          have HR5 := hid hr5
          clear hr5 hq5 hk5 ho5
          unfold rvB at hb
          cases hu : und T a k with
          | true =>
            clear hb hu
            go_wp2_with (first | (at_builtin; refine wpList_append_known _ rfl _ _ 82 rfl _ _ rfl rfl HR5.out ?_))
            go_roundg (65 - (k + 1))
            case measure => omega
            case rel => exact ⟨k + 1, _, _, _, by omega, by omega, by go_num, rfl, HQ5.out, HB5.out⟩
          | false =>
            rw [hu] at hb
            simp at hb
            obtain ⟨hb1, hb2⟩ := hb
            subst hb1
            subst hb2
            clear hu
            go_wp2_with (first | (at_builtin; refine wpList_append_known _ rfl _ _ 82 rfl _ _ rfl rfl HR5.out ?_))
            go_roundg (65 - (k + 1))
            case measure => omega
            case rel => exact ⟨k + 1, _, _, _, by omega, by omega, by go_num, rfl, HQ5.out, HB5.out⟩
        · have hb : rvB T a self k = false := by simpa using hb
          have HN := hid (HNO.out hb)
          unfold rvB at hb
          simp at hb
          obtain ⟨hu, hs⟩ := hb
          rw [hu]
          clear hu
          cases self with
          | false =>
            clear hs
            go_wp2
            go_roundg (65 - (k + 1))
            case measure => omega
            case rel => exact ⟨k + 1, n, cv, Av, by omega, by omega, by go_num, rfl, by rw [HN.out]; exact HQ.out, HB.out⟩
          | true =>
            have hs := hs rfl
            have hne : ((k : Int) == (a : Int)) = false := by simp; omega
            clear hs
            go_wp2
            go_roundg (65 - (k + 1))
            case measure => omega
            case rel => exact ⟨k + 1, n, cv, Av, by omega, by omega, by go_num, rfl, by rw [HN.out]; exact HQ.out, HB.out⟩
    · obtain rfl : k = 64 := by omega
      obtain ⟨w9, hw9⟩ : ∃ w9, w9 = wr := ⟨_, rfl⟩
      rw [← hw9] at HQ HB ⊢
      clear hw9
      have hd : decide ((64 : Int) < 64) = false := by decide
      obtain ⟨L, hL⟩ : ∃ L, L = nums (rvB T a self) 64 := ⟨_, rfl⟩
      obtain ⟨hn, hat⟩ := que_at HQ.out
      rw [← hL] at hn hat
      have hmem : ∀ x, x ∈ L ↔ rvB T a self x = true := fun x => by
        rw [hL, nums_mem]
        exact ⟨fun h => h.2, fun h => ⟨rvB_lt HW.out ha h, h⟩⟩
      have HALL := hid (rvL_self hmem)
      have hle := nums_le (rvB T a self) 64
      rw [← hL] at hle
      have hn64 : n ≤ 64 := by omega
      have HAT := hid hat
      have HLT : Hid (∀ j, j < n → L.getD j 0 < 64) := fun j hj => rvB_lt HW.out ha ((hmem _).1 (getD_mem (by omega)))
      have HN := hid hn
      have HLL := hid hL
      have HR := hid (H.out.keep0 HB.out)
      have hc0 := HR.out.c0
      clear hn hat hmem hle hL
      go_wp2
      go_loopg [9] (n + 1) (fun g0 i wx => ∃ (k : Nat), k + g0 = n + 1 ∧ k ≤ n ∧ i = .int .i64 k ∧ Hid (RfAt wx bx bl (rvL T (L.take k)) m) ∧ Hid (But [bl] w9 wx))
      case atStart => exact ⟨0, by omega, by omega, rfl, by show RfAt _ _ _ _ _; rw [List.take_zero, rvL_nil]; exact HR.out, But.refl _ _⟩
      case round =>
        obtain ⟨k, hkg, hk, rfl, HF, HB2⟩ := hrel
        by_cases hlt : k < n
        · have hkI : (k : Int) < (n : Int) := by omega
          obtain ⟨ga, oa, rfl, hga0, hga, hca⟩ := HAT.out k hlt
          have hca := cell_keep hca HB2.out (by have := HNE.out; simp; omega)
          have hp64 := HLT.out k hlt
          have hsn := rvL_snoc T (L.take k) (L.getD k 0)
          rw [← take_snoc (by have := HN.out; omega)] at hsn
          have HSN := hid hsn
          generalize L.getD k 0 = p at *
          have hpI : (p : Int) < 64 := by omega
          have hS0 : wr.drew.cell? ⟨bx, 0, none⟩ = some (.slice (some ⟨bl, 0, none⟩) 64 64) ∧ wr.drew.cell? ⟨ga, oa + k, none⟩ = some (.int .i64 p) ∧ wr.drew.there bl (p * 1026) 1026 ∧ But [] wr wr.drew :=
            ⟨HF.out.c0, hca, (HF.out.keep0 (But.refl [] wr).drew).th hp64, (But.refl [] wr).drew⟩
          clear hsn hga0 hga hc0
          go_upto_region 10 with fail
          refine wp_region_noPanic ?_
          refine till_begin (fun w' => w'.cell? ⟨bx, 0, none⟩ = some (.slice (some ⟨bl, 0, none⟩) 64 64) ∧ w'.cell? ⟨ga, oa + k, none⟩ = some (.int .i64 p) ∧ w'.there bl (p * 1026) 1026 ∧ But [] wr w') 10 (by kernel_rfl) ?_
          refine till_take 0 (some 47) (.pointer (some ⟨bx, 0, none⟩)) rfl rfl (by kernel_rfl) (by kernel_rfl) (by kernel_rfl) (by kernel_rfl) (by decide) (fun _ _ _ h => h) (Or.inl ⟨by rfl, fun w' hw' => by go_simp⟩) hS0 ?_
          simp only [Act.put, List.setIfInBounds_toArray, List.set_cons_zero, List.set_cons_succ]
          refine till_take 1 (some 48) (.pointer (some ⟨bx, 0, none⟩)) rfl rfl (by kernel_rfl) (by kernel_rfl) (by kernel_rfl) (by kernel_rfl) (by decide) (fun _ _ _ h => h) (Or.inl ⟨by rfl, fun w' hw' => by go_simp⟩) hS0 ?_
          simp only [Act.put, List.setIfInBounds_toArray, List.set_cons_zero, List.set_cons_succ]
          refine till_take 2 (some 49) (.pointer (some ⟨bx, 0, none⟩)) rfl rfl (by kernel_rfl) (by kernel_rfl) (by kernel_rfl) (by kernel_rfl) (by decide) (fun _ _ _ h => h) (Or.inl ⟨by rfl, fun w' hw' => by go_simp⟩) hS0 ?_
          simp only [Act.put, List.setIfInBounds_toArray, List.set_cons_zero, List.set_cons_succ]
          refine till_take 3 (some 50) (.slice (some ⟨bl, 0, none⟩) 64 64) rfl rfl (by kernel_rfl) (by kernel_rfl) (by kernel_rfl) (by kernel_rfl) (by decide) (fun _ _ _ h => h) (Or.inl ⟨by rfl, fun w' hw' => by obtain ⟨hw1, -⟩ := hw'; go_simp⟩) hS0 ?_
          simp only [Act.put, List.setIfInBounds_toArray, List.set_cons_zero, List.set_cons_succ]
          refine till_take 4 (some 51) (.slice (some ⟨ga, oa, none⟩) n cv) rfl rfl (by kernel_rfl) (by kernel_rfl) (by kernel_rfl) (by kernel_rfl) (by decide) (fun _ _ _ h => h) (Or.inl ⟨by rfl, fun w' hw' => by go_simp⟩) hS0 ?_
          simp only [Act.put, List.setIfInBounds_toArray, List.set_cons_zero, List.set_cons_succ]
          refine till_take 5 (some 52) (.int .i64 k) rfl rfl (by kernel_rfl) (by kernel_rfl) (by kernel_rfl) (by kernel_rfl) (by decide) (fun _ _ _ h => h) (Or.inl ⟨by rfl, fun w' hw' => by go_simp⟩) hS0 ?_
          simp only [Act.put, List.setIfInBounds_toArray, List.set_cons_zero, List.set_cons_succ]
          refine till_take 6 (some 53) (.pointer (some ⟨ga, oa + k, none⟩)) rfl rfl (by kernel_rfl) (by kernel_rfl) (by kernel_rfl) (by kernel_rfl) (by decide) (fun _ _ _ h => h) (Or.inl ⟨by rfl, fun w' hw' => by go_simp⟩) hS0 ?_
          simp only [Act.put, List.setIfInBounds_toArray, List.set_cons_zero, List.set_cons_succ]
          refine till_take 7 (some 54) (.int .i64 p) rfl rfl (by kernel_rfl) (by kernel_rfl) (by kernel_rfl) (by kernel_rfl) (by decide) (fun _ _ _ h => h) (Or.inl ⟨by rfl, fun w' hw' => by obtain ⟨-, hw1, -⟩ := hw'; go_simp⟩) hS0 ?_
          simp only [Act.put, List.setIfInBounds_toArray, List.set_cons_zero, List.set_cons_succ]
          refine till_take 8 (some 55) (.agg (nc nd0).toArray) rfl rfl (by kernel_rfl) (by kernel_rfl) (by kernel_rfl) (by kernel_rfl) (by decide) (fun _ _ _ h => h) (yieldsIf_build (by rfl) 46 [] rfl (nc nd0).toArray [] rfl bNode) hS0 ?_
          simp only [Act.put, List.setIfInBounds_toArray, List.set_cons_zero, List.set_cons_succ]
          refine till_take 9 (some 56) (.pointer (some ⟨bl, p * 1026, none⟩)) rfl rfl (by kernel_rfl) (by kernel_rfl) (by kernel_rfl) (by kernel_rfl) (by decide) (fun _ _ _ h => h) (Or.inl ⟨by rfl, fun w' hw' => by go_simp⟩) hS0 ?_
          simp only [Act.put, List.setIfInBounds_toArray, List.set_cons_zero, List.set_cons_succ]
          refine till_one' 10 rfl (by kernel_rfl) (by rfl) (fun K hK => ?_)
          refine wp_store_mid _ _ _ rfl bl (p * 1026) (nc nd0).toArray rfl rfl (by rw [ncs]; exact hS0.2.2.1) (iNode' _) (nc_all _) ?_
          refine hK.out _ _ ⟨fun h => absurd rfl h, ?_⟩
          clear hK K
          refine till_done (by kernel_rfl) ?_ _
          refine NoPanic.normal ?_
          have hk7 : But [bl] wr.drew (wr.drew.setCells bl (p * 1026) (nc nd0)) := (But.refl [bl] _).setCells (by simp) _ _
          have hF7 := (HF.out.keep0 (But.refl [] wr).drew).put hp64 nd0
          rw [HSN.out] at hF7
          have HF7 := hid hF7
          have HB7 := hid ((HB2.out.trans ((But.refl [] wr).drew.any _)).trans hk7)
          clear hk7 hF7 hS0 hca
          generalize wr.drew.setCells bl (p * 1026) (nc nd0) = w7 at *
          go_wp2
          go_roundg (n + 1 - (k + 1))
          case measure => omega
          case rel => exact ⟨k + 1, by omega, by omega, by go_num, HF7.out, HB7.out⟩
        · obtain rfl : k = n := by omega
          have HF9 : Hid (RfAt wr bx bl (rvT T a self) m) := by
            have := HF.out
            rw [List.take_of_length_le (by have := HN.out; omega), HALL.out] at this
            exact this
          clear HF
          go_wp2
          go_ret
          exact ⟨by rw [← HLL.out, ← HN.out]; rfl, HF9.out, but_more (HB.out.any [bl]) HB2.out (by simp)⟩
end Go.Proofs.Ytlppfcoclpdanaa.Cs
