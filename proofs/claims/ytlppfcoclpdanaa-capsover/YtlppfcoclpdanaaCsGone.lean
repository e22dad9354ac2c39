/-
  Layer 12 (caps): caps that are gone, as a list; what is lent is as much as the ones that have it hold.
-/
import Derived.Test.YtlppfcoclpdanaaCsFlat
import Derived.Test.YtlppfcoclpdanaaCsOver
import Derived.Test.YtlppfcoclpdanaaWhole
namespace Go.Proofs.Ytlppfcoclpdanaa.Cs
open Go.ChangeShapes Go.WideShapes Go.ChangeAt Go.RowKit
open Wh Sn
set_option linter.unusedVariables false

/-- Caps that were. -/
def gc (l : List (Nat × Nat)) : List Value := l.flatMap fun p => [Value.int .i64 (p.1 : Nat), .int .u64 (p.2 : Nat)]
theorem gc_len (l : List (Nat × Nat)) : (gc l).length = l.length * 2 := by
  induction l with
  | nil => rfl
  | cons a l ih => simp only [gc, List.flatMap_cons, List.length_append, List.length_cons, List.length_nil] at ih ⊢; omega
theorem gc_snoc (l : List (Nat × Nat)) (p g : Nat) : gc (l ++ [(p, g)]) = gc l ++ [.int .i64 (p : Nat), .int .u64 (g : Nat)] := by simp [gc]
theorem gc_get : ∀ (l : List (Nat × Nat)) (j : Nat), j < l.length → ∃ p, p ∈ l ∧ (gc l)[j * 2]? = some (.int .i64 (p.1 : Nat)) ∧ (gc l)[j * 2 + 1]? = some (.int .u64 (p.2 : Nat))
  | [], j, h => by simp at h
  | a :: l, 0, h => ⟨a, by simp, rfl, rfl⟩
  | a :: l, j + 1, h => by
    obtain ⟨p, hp, h1, h2⟩ := gc_get l j (by simpa using h)
    refine ⟨p, by simp [hp], ?_⟩
    rw [show (j + 1) * 2 = j * 2 + 1 + 1 by omega, show j * 2 + 1 + 1 + 1 = (j * 2 + 1) + 1 + 1 by omega]
    exact ⟨h1, h2⟩
/-- A cap of a row of a call's own, as it is read. -/
theorem cap_at {w : World} {base n c j : Nat} {A : Option Addr} {xs : List Value} {u v : Value} (h : Que w base 2 (.slice A n c) n xs) (hj : j < n) (hu : xs[j * 2]? = some u) (hv : xs[j * 2 + 1]? = some v) :
    ∃ g off, A = some ⟨g, off, none⟩ ∧ base ≤ g ∧ g < w.heap.size ∧ w.cell? ⟨g, off + j * 2, none⟩ = some u ∧ w.cell? ⟨g, off + (j * 2 + 1), none⟩ = some v := by
  obtain ⟨g, off, cap, e, hb, hg, _, hr⟩ := h.row (by omega)
  injection e with e1 _ _
  exact ⟨g, off, e1, hb, hg, hr _ _ hu, hr _ _ hv⟩
theorem gone_at {w : World} {base n c j : Nat} {A : Option Addr} {l : List (Nat × Nat)} (h : Que w base 2 (.slice A n c) n (gc l)) (hj : j < n) :
    ∃ g off p, A = some ⟨g, off, none⟩ ∧ p ∈ l ∧ w.cell? ⟨g, off + j * 2, none⟩ = some (.int .i64 (p.1 : Nat)) ∧ w.cell? ⟨g, off + (j * 2 + 1), none⟩ = some (.int .u64 (p.2 : Nat)) := by
  obtain ⟨p, hp, h1, h2⟩ := gc_get l j (by have := h.1; rw [gc_len] at this; omega)
  obtain ⟨g, off, e, _, _, h3, h4⟩ := cap_at h hj h1 h2
  exact ⟨g, off, p, e, hp, h3, h4⟩
theorem caps_at {w : World} {base n c j : Nat} {A : Option Addr} {T : Tr} {L : List Nat} (h : Que w base 2 (.slice A n c) n (kc T L)) (hj : j < n) :
    ∃ g off, A = some ⟨g, off, none⟩ ∧ w.cell? ⟨g, off + j * 2, none⟩ = some (.int .i64 (L.getD j 0 : Nat)) ∧ w.cell? ⟨g, off + (j * 2 + 1), none⟩ = some (.int .u64 ((T (L.getD j 0)).gen : Nat)) := by
  obtain ⟨h1, h2⟩ := kc_get T L j (by have := h.1; rw [kc_len] at this; omega)
  obtain ⟨g, off, e, _, _, h3, h4⟩ := cap_at h hj h1 h2
  exact ⟨g, off, e, h3, h4⟩
theorem range_getD {k n : Nat} (h : k < n) : (List.range n).getD k 0 = k := by simp [List.getD_eq_getElem?_getD, h]
/-- Some that are gone are never there again. -/
structure Gn (w : World) (B0 bt bx bl : Nat) (T : Tr) (m i : Nat) (A : Option Addr) (n c : Nat) (l : List (Nat × Nat)) (wx : World) : Prop where
  ex : ∃ Y, Lw w bt bx bl Y T m i wx ∧ ∀ g, (Value.slice A n c).ownBlock = some g → g ∈ Y
  q : Que wx B0 2 (.slice A n c) n (gc l)
  b : bt < B0 ∧ bx < B0 ∧ bl < B0
  le : B0 ≤ wx.heap.size
  g : ∀ x, x ∈ l → 0 < x.2 ∧ x.2 ≤ m ∧ (T x.1).gen ≠ x.2
section
variable {w wx wy : World} {B0 bt bx bl m i n c : Nat} {T : Tr} {A : Option Addr} {l : List (Nat × Nat)}
theorem Gn.keep (h : Gn w B0 bt bx bl T m i A n c l wx) (k : But [] wx wy) : Gn w B0 bt bx bl T m i A n c l wy := by
  obtain ⟨Y, h1, h2⟩ := h.ex
  exact ⟨⟨Y, h1.keep k, h2⟩, h.q.keep0 k, h.b, Nat.le_trans h.le k.size, h.g⟩
theorem Gn.bo (h : Gn w B0 bt bx bl T m i A n c l wx) : ∃ Y, Bo wx bt bx bl Y T m := by
  obtain ⟨Y, h1, h2⟩ := h.ex
  exact ⟨Y, h1.bo⟩
theorem Gn.wf (h : Gn w B0 bt bx bl T m i A n c l wx) : Wf T m := by
  obtain ⟨Y, h1, h2⟩ := h.ex
  exact h1.bo.wf
theorem Gn.but (h : Gn w B0 bt bx bl T m i A n c l wx) : But [] w wx := by
  obtain ⟨Y, h1, h2⟩ := h.ex
  exact h1.but
theorem Gn.mle (h : Gn w B0 bt bx bl T m i A n c l wx) : m ≤ i + 1 := by
  obtain ⟨Y, h1, h2⟩ := h.ex
  exact h1.le
theorem Gn.rf (h : Gn w B0 bt bx bl T m i A n c l wx) : RfAt wx bx bl T m := by
  obtain ⟨Y, h1, h2⟩ := h.ex
  exact h1.bo.rf
theorem Gn.tr (h : Gn w B0 bt bx bl T m i A n c l wx) : ∃ Z f, TrAt wx bt Z T m f := by
  obtain ⟨Y, h1, h2⟩ := h.ex
  obtain ⟨f, hf⟩ := h1.bo.tr
  exact ⟨_, f, hf⟩
theorem Gn.no (h : Gn w B0 bt bx bl T m i A n c l wx) {x : Nat × Nat} (hx : x ∈ l) : isB T (x.1 : Nat) x.2 = false := by
  obtain ⟨h1, h2, h3⟩ := h.g x hx
  unfold isB
  rw [Int.toNat_natCast, decide_eq_false h3, Bool.and_false]
/-- A deed is done. -/
theorem Gn.does (h : Gn w B0 bt bx bl T m i A n c l wx) (K at_ F To : Int) (G : Nat) (hm : m ≤ 100000) :
    (∃ Y, Bo wx bt bx bl Y T m) ∧ ∀ (Y : List Nat) (T' : Tr) (m' : Nat), Lw w bt bx bl Y T m i wx → (∀ g, (Value.slice A n c).ownBlock = some g → g ∈ Y) → Bo wy bt bx bl Y T' m' → Stp T m T' m' → But [bt, bx, bl] wx wy → Gn w B0 bt bx bl T' m' (i + 1) A n c l wy :=
  ⟨h.bo, fun Y T' m' h1 h2 hb hs k => ⟨⟨Y, h1.step hb hs k, h2⟩, h.q.keep k (fun g hg => by have := (h.q.lt g hg).1; have := h.b; simp; omega), h.b, Nat.le_trans h.le k.size, fun x hx => by
    obtain ⟨g1, g2, g3⟩ := h.g x hx
    refine ⟨g1, Nat.le_trans g2 hs.1, ?_⟩
    rcases hs.2.2 x.1 with e | e | e
    · rw [e]; exact g3
    · omega
    · omega⟩⟩
/-- One more is gone. -/
theorem Gn.push (h : Gn w B0 bt bx bl T m i A n c l wx) {k G g' off' c' : Nat} (hq : Que wy B0 2 (.slice (some ⟨g', off', none⟩) (n + 1) c') (n + 1) (gc l ++ [.int .i64 (k : Nat), .int .u64 (G : Nat)]))
    (hk : But (Value.slice A n c).ownBlock.toList wx wy) (ho : (Value.slice A n c).ownBlock = some g' ∨ wx.heap.size < g') (hg : 0 < G ∧ G ≤ m ∧ (T k).gen ≠ G) : Gn w B0 bt bx bl T m i (some ⟨g', off', none⟩) (n + 1) c' (l ++ [(k, G)]) wy := by
  obtain ⟨Y, h1, h2⟩ := h.ex
  have hL : ∀ x, x ∈ (Value.slice A n c).ownBlock.toList → x ∈ Y := fun x hx => h2 x (by simpa using hx)
  have hB : ∀ x, x ∈ (Value.slice A n c).ownBlock.toList → B0 ≤ x ∧ x < wx.heap.size := fun x hx => h.q.lt x hx
  have hb := h.b
  obtain ⟨f, hf⟩ := h1.bo.tr
  have hN : ∀ x, x < B0 → x ∉ (Value.slice A n c).ownBlock.toList := fun x hx hm => by have := (hB x hm).1; omega
  have hf' := hf.keep hk (hN bt hb.1) (fun x hx => by simp [hL x hx])
  have hg'' : g' < wy.heap.size := (hq.lt g' (by simp [Value.ownBlock])).2
  have hf2 : TrAt wy bt (bt :: bx :: bl :: g' :: Y) T m f := by
    refine ⟨hf'.vb, by simp, fun z hz => ?_, hf'.gen, hf'.par, fun p hp => ?_, hf'.made⟩
    · simp only [List.mem_cons] at hz
      rcases hz with rfl | rfl | rfl | rfl | hz
      · exact hf'.low _ (by simp)
      · exact hf'.low _ (by simp)
      · exact hf'.low _ (by simp)
      · exact hg''
      · exact hf'.low _ (by simp [hz])
    · obtain ⟨A1, n1, c1, e, hs, ho1⟩ := hf.set p hp
      obtain ⟨A2, n2, c2, e', hs', ho'⟩ := hf'.set p hp
      rw [e] at e'
      injection e' with e1 e2 e3
      subst e1; subst e2; subst e3
      refine ⟨A1, n1, c1, e, hs', fun g off ea h0 hm => ?_⟩
      simp only [List.mem_cons] at hm
      have hno := ho1 g off ea h0
      simp only [List.mem_cons, not_or] at hno
      rcases hm with hm | hm | hm | hm | hm
      · exact hno.1 hm
      · exact hno.2.1 hm
      · exact hno.2.2.1 hm
      · rcases ho with ho | ho
        · exact hno.2.2.2 (by rw [hm]; exact hL g' (by rw [ho]; simp))
        · obtain ⟨g2, off2, e2, _, hlt, _⟩ := hs.at_ (k := 0) (by omega)
          rw [ea] at e2
          injection e2 with e2
          injection e2 with e2 _ _
          omega
      · exact hno.2.2.2 hm
  refine ⟨⟨g' :: Y, ⟨⟨⟨f, hf2⟩, h1.bo.rf.keep hk (hN bx hb.2.1) (hN bl hb.2.2), h1.bo.wf, h1.bo.n1, h1.bo.n2⟩, h1.le, but_own h1.but hk (fun x hx => ?_), h1.o1, h1.o2, h1.o3⟩, fun g e => ?_⟩, by rw [gc_snoc]; exact hq, hb, Nat.le_trans h.le hk.size, fun x hx => ?_⟩
  · have := (hB x hx).1; have := h1.o1; omega
  · simp [Value.ownBlock] at e
    simp [e]
  · rcases List.mem_append.1 hx with hx | hx
    · exact h.g x hx
    · simp at hx
      subst hx
      exact hg
end
theorem but_own' {l : List Nat} {u w1 w2 : World} (h : But [] u w1) (k : But l w1 w2) (hl : ∀ i, i ∈ l → u.heap.size ≤ i) : But [] u w2 := but_own h k hl
/-- As many numbers as both have. -/
theorem nums_wi {f g : Nat → Bool} (h : ∀ x, f x = true → g x = false) : ∀ n, (nums (wi f g) n).length = (nums f n).length + (nums g n).length := by
  intro n
  induction n with
  | zero => rfl
  | succ n ih =>
    simp only [nums, List.range_succ, List.filter_append, List.length_append] at ih ⊢
    have e : (List.filter (wi f g) [n]).length = (List.filter f [n]).length + (List.filter g [n]).length := by
      cases h1 : f n with
      | true => simp [wi, lay, h1, h n h1]
      | false => cases h2 : g n <;> simp [wi, lay, h1, h2]
    omega
theorem lent_step {T : Tr} {m : Nat} (h : Wf T m) {a j : Nat} (hj : j < (kids T a).length) : (nums (sAny T ((kids T a).take (j + 1))) 1024).length = (nums (sAny T ((kids T a).take j)) 1024).length + (nums (T ((kids T a).getD j 0)).st 1024).length := by
  rw [take_snoc hj, ← sAny_snoc, nums_wi]
  intro x hx
  unfold sAny at hx
  obtain ⟨p, hp, hx⟩ := List.any_eq_true.1 hx
  obtain ⟨i, hi, e⟩ := List.mem_take_iff_getElem.1 hp
  have hil : i < (kids T a).length := by omega
  have hpm : p ∈ kids T a := by rw [← e]; exact List.getElem_mem hil
  have hqm := getD_mem hj
  have hne : p ≠ (kids T a).getD j 0 := fun e2 => by
    have := getD_inj (kids_nodup T a) hil hj (by rw [← e2, ← e, List.getD_eq_getElem?_getD, List.getElem?_eq_getElem hil]; rfl)
    omega
  rw [kids_mem h] at hpm hqm
  have h0 : ∀ q, (T q).par = (a : Int) → q ≠ 0 := fun q hq e => by subst e; rw [h.rpar] at hq; omega
  exact h.apart p _ x hne hpm.1 hqm.1 (h0 p hpm.2) (h0 _ hqm.2) (by rw [hpm.2, hqm.2]) hx
/-- Whom a cap is derived from has its numbers. -/
theorem par_within {T : Tr} {m : Nat} (h : Wf T m) (k : Nat) (G : Nat) : ∃ (pa : Int) (pg : Nat) (ok : Bool), ParV T k G = .tuple #[.agg #[.int .i64 pa, .int .u64 pg], .bool ok] ∧ (ok = true → ((nums (wo (setS T k G) (setS T pa pg)) 1024).length == 0) = true) := by
  cases e : (isB T k G && decide ((k : Int) ≠ 0)) with
  | false => exact ⟨0, 0, false, ParV_no e, fun h => (by cases h)⟩
  | true =>
    simp only [Bool.and_eq_true, decide_eq_true_eq] at e
    obtain ⟨h1, h2⟩ := e
    obtain ⟨a, ea, ha, hG, hg⟩ := isB_iff.1 h1
    obtain rfl : k = a := by omega
    obtain ⟨q, hq, h3, h4, h5⟩ := h.par k (by omega) (by omega)
    refine ⟨q, (T q).gen, true, ParV_yes h1 (by omega) hq, fun _ => ?_⟩
    rw [setS_yes h1, setS_yes (isB_nat (h.lt q h3) h3 rfl), len_nz]
    cases hz : nz (wo (T k).st (T q).st) with
    | false => rfl
    | true =>
      obtain ⟨x, hx⟩ := (nz_iff (wo_lim (h.lim k))).1 hz
      rw [wo_true] at hx
      rw [h5 x hx.1] at hx
      cases hx.2
/-- What a cap has lent, one derived cap behind the other. -/
theorem chs_step {T : Tr} {m : Nat} (h : Wf T m) {k G j : Nat} (hj : j < (chS T k G).length) :
    isB T ((chS T k G).getD j 0 : Nat) (T ((chS T k G).getD j 0)).gen = true ∧ (nums (sAny T ((chS T k G).take (j + 1))) 1024).length = (nums (sAny T ((chS T k G).take j)) 1024).length + (nums (T ((chS T k G).getD j 0)).st 1024).length := by
  unfold chS at hj ⊢
  by_cases hi : isB T k G = true
  · rw [if_pos hi] at hj ⊢
    have hm := getD_mem hj
    rw [kids_mem h] at hm
    exact ⟨isB_nat (h.lt _ hm.1) hm.1 rfl, lent_step h hj⟩
  · rw [if_neg hi] at hj
    simp at hj
theorem chs_lent (T : Tr) (k G : Nat) : lentG T k G = sAny T (chS T k G) := by
  unfold chS
  by_cases hi : isB T k G = true
  · rw [if_pos hi, lentG_yes hi]; rfl
  · rw [if_neg hi]
    funext x
    unfold lentG
    rw [show isB T k G = false by simpa using hi]
    rfl
theorem chs_len (T : Tr) (k G : Nat) : (chS T k G).length ≤ 64 := by
  unfold chS
  by_cases hi : isB T k G = true
  · rw [if_pos hi]; exact nums_le _ 64
  · rw [if_neg hi]; simp
theorem was_at {w : World} {base n c g off : Nat} {T : Tr} (h : Que w base 2 (.slice (some ⟨g, off, none⟩) n c) n (kc T (List.range n))) {j : Nat} (hj : j < n) :
    w.cell? ⟨g, off + j * 2, none⟩ = some (.int .i64 (j : Nat)) ∧ w.cell? ⟨g, off + j * 2 + 1, none⟩ = some (.int .u64 ((T j).gen : Nat)) := by
  obtain ⟨g', off', e, h1, h2⟩ := caps_at h hj
  injection e with e
  injection e with e1 e2 _
  subst e1; subst e2
  rw [range_getD hj] at h1 h2
  exact ⟨h1, h2⟩
theorem not_was {T : Tr} {k G : Nat} (hk : k < 64) (hG : 0 < G) (h : isB T k G = false) : (T k).gen ≠ G := fun e => by
  rw [isB_nat hk hG e] at h; cases h
end Go.Proofs.Ytlppfcoclpdanaa.Cs
