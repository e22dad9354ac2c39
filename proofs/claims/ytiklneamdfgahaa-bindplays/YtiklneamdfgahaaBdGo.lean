/-
  Layer 15 (bind): the map ranged over, in whatever order its entries come, while some of them are deleted; the contract of maps.DeleteFunc at this map, over the translated program.
-/
import Derived.Test.YtiklneamdfgahaaBdPages
namespace Go.Proofs.Ytiklneamdfgahaa.Bd
open Go.ChangeShapes Go.WideShapes Go.ChangeAt Go.RowKit
open Go.Maps (Keyed)
set_option linter.unusedVariables false
set_option maxRecDepth 20000

/-- A binding, in a box that nobody opens by himself. -/
structure Bx where
  f : Int
  u : Bool
/-- The step of a range over such a map. -/
theorem wpList_next_kb {w : World} {ops : Array Oper} {rest : List Oper} {o : Oper} {a : Act} {Q : Exit → Act → World → Prop} (hg : o.guard = none) (it : Operand) (hop : o.op = Op.next it false)
    (b r n : Nat) (D : DataW Unit) (left : Lit → Bool) (cnt : Nat) (hit : a.eval it = .pointer (some ⟨r, 0, none⟩)) (h : w.ranges Try.prog pT rdB b r n D left cnt)
    (hDone : (∀ l, left l = false) → wpList Try.prog ops Q rest (a.put o.dst (.tuple #[.bool false])) w)
    (hMore : ∀ (s p : Int) (b' : Bx) (w' : World) (cnt' : Nat), I64 s → I64 p → left (kl s p) = true → (∀ zd, D.atKey (kl s p) zd = bd (b'.f, b'.u)) → w'.ranges Try.prog pT rdB b r n D (fun z => left z && !z.sameKey (kl s p)) cnt' → cnt' < cnt →
      w.grownBy w' (some r) → (Instr.entry (.pointer (some ⟨r, 0, none⟩))).run Try.prog w' = .ok (.tuple #[.agg #[.int .i64 s, .int .i64 p], .agg #[.int .i64 b'.f, .bool b'.u]]) w' →
      wpList Try.prog ops Q rest (a.put o.dst (.tuple #[.bool true, .agg #[.int .i64 s, .int .i64 p], .agg #[.int .i64 b'.f, .bool b'.u]])) w') :
    wpList Try.prog ops Q (o :: rest) a w :=
  wpList_next_ranges w hg it hop pT keyed rdB (fun x : Int × Int => pk x.1 x.2) bk (fun key l hkey => by obtain ⟨s, p, rfl, _⟩ := key_inv hkey; exact ⟨(s, p), rfl⟩) (fun v y hv => by obtain ⟨c, rfl, _⟩ := rdB_inv hv; exact ⟨c, rfl⟩)
    b r n D left cnt hit h (fun _ hl => hDone hl) (fun x c l y w' cnt' hkey hlk hv hat hrg hlt hgr hsz hen => by
      obtain ⟨s, p⟩ := x
      obtain ⟨s', p', e, i1, i2⟩ := key_inv hkey
      have es : s = s' ∧ p = p' := by simpa [pk] using e
      obtain ⟨rfl, rfl⟩ := es
      have hl : kl s p = l := Option.some.inj ((key_of i1 i2).symm.trans hkey)
      subst hl
      rw [rdB_mk] at hv
      injection hv with hv
      subst hv
      exact hMore s p ⟨c.1, c.2⟩ w' cnt' i1 i2 hlk hat hrg hlt hgr hen)
/-- How a place reads, as a key. -/
noncomputable def klk (k : Nat) : Lit := kl ((k / 32 : Nat) : Int) ((k % 32 : Nat) : Int)
theorem klk_pl {s p : Int} (h : hsP s p) : klk (pl s p) = kl s p := by unfold klk; rw [pl_div h, pl_mod h]
theorem klk_ne {s p : Int} (h : hsP s p) {k : Nat} (hk : k < 2048) (hne : k ≠ pl s p) : (klk k).sameKey (kl s p) = false := by
  refine Maps.sameKey_ne fun e => hne ?_
  obtain ⟨i1, i2⟩ := hs_i64 h
  obtain ⟨j1, j2⟩ := hs_i64 (hs_of hk)
  obtain ⟨e1, e2⟩ := kl_inj j1 j2 i1 i2 e
  rw [← pl_of k, e1, e2]
theorem kl_same {s p : Int} (h : hsP s p) : (kl s p).sameKey (kl s p) = true := by
  obtain ⟨i1, i2⟩ := hs_i64 h
  exact WideAt.sameKey_self (kl_key i1 i2)
theorem Rp.has_k {D : DataW Unit} {T : Tb} (h : Rp D T) {k : Nat} (hk : k < 2048) : Maps.has D (klk k) = (T k).isSome := by
  obtain ⟨j1, j2⟩ := hs_i64 (hs_of hk)
  unfold klk
  rw [h.has _ _ j1 j2, gt_of T hk]
/-- Which of the bindings go. -/
def goes (T : Tb) (pd : Nat → Fw → Bool) (k : Nat) : Bool := match T k with | some b => pd k b | none => false
theorem goes_some {T : Tb} {pd : Nat → Fw → Bool} {k : Nat} {b : Fw} (h : T k = some b) : goes T pd k = pd k b := by unfold goes; rw [h]
theorem goes_none {T : Tb} {pd : Nat → Fw → Bool} {k : Nat} (h : T k = none) : goes T pd k = false := by unfold goes; rw [h]
/-- How far the deletions are: those that are left to come are there as they were. -/
structure Dg (w : World) (mb r : Nat) (T : Tb) (g : Nat → Bool) (wr : World) (left : Lit → Bool) (cnt : Nat) (D : DataW Unit) (T' : Tb) : Prop where
  rg : wr.ranges Try.prog pT rdB mb r 2048 D left cnt
  rp : Rp D T'
  ok : Ok T'
  eq : ∀ k, k < 2048 → T' k = if left (klk k) = false ∧ g k = true then none else T k
  sub : ∀ l, left l = true → Maps.has D l = true
  kp : But [mb] w wr
  hr : w.heap.size ≤ r
section
variable {w wr : World} {mb r cnt : Nat} {T T' : Tb} {g : Nat → Bool} {left : Lit → Bool} {D : DataW Unit}
theorem Dg.keep (h : Dg w mb r T g wr left cnt D T') {w' : World} (k : But [] wr w') : Dg w mb r T g w' left cnt D T' :=
  ⟨h.rg.kept (row := none) (But.toGrown k (by simp)) (by simp) (by simp), h.rp, h.ok, h.eq, h.sub, h.kp.trans (k.any _), h.hr⟩
/-- The entry that has come. -/
theorem Dg.at_ (h : Dg w mb r T g wr left cnt D T') {s p : Int} {b : Fw} (i1 : I64 s) (i2 : I64 p) (hl : left (kl s p) = true) (hat : ∀ zd, D.atKey (kl s p) zd = bd b) : hsP s p ∧ T' (pl s p) = some b ∧ T (pl s p) = some b := by
  have h1 := h.sub _ hl
  rw [h.rp.has s p i1 i2] at h1
  obtain ⟨b', hb'⟩ := Option.isSome_iff_exists.1 h1
  have e : b' = b := bd_inj ((h.rp.val s p b' i1 i2 hb' .nil).symm.trans (hat .nil))
  subst e
  have hs := (h.ok.gt hb').1
  rw [gt_in hs] at hb'
  refine ⟨hs, hb', ?_⟩
  have := h.eq (pl s p) (pl_lt hs)
  rw [hb'] at this
  split at this
  · cases this
  · exact this.symm
theorem Dg.stay (h : Dg w mb r T g wr left cnt D T') {s p : Int} {b : Fw} (hs : hsP s p) (hT : T (pl s p) = some b) (hg : g (pl s p) = false) {w' : World} {cnt' : Nat}
    (hrg : w'.ranges Try.prog pT rdB mb r 2048 D (fun z => left z && !z.sameKey (kl s p)) cnt') (k : But [r] wr w') : Dg w mb r T g w' (fun z => left z && !z.sameKey (kl s p)) cnt' D T' := by
  refine ⟨hrg, h.rp, h.ok, fun k hk => ?_, fun l hl => h.sub l (by simp only [Bool.and_eq_true] at hl; exact hl.1), (h.kp.wider (l' := [mb, r]) (by simp)).trans (k.wider (by simp)) |>.strike (fun i hi hlt => by
    simp at hi
    rcases hi with rfl | rfl
    · simp
    · have := h.hr; omega), h.hr⟩
  by_cases e : k = pl s p
  · subst e
    rw [if_neg (by rw [hg]; simp), h.eq _ hk, if_neg (by rw [hg]; simp)]
  · rw [h.eq k hk, klk_ne hs hk e]
    simp
theorem Dg.gone (h : Dg w mb r T g wr left cnt D T') {s p : Int} (hs : hsP s p) (hg : g (pl s p) = true) {w' : World} {cnt' : Nat}
    (hrg : w'.ranges Try.prog pT rdB mb r 2048 (D.del (kl s p)) (fun z => left z && !z.sameKey (kl s p)) cnt') (k : But [mb, r] wr w') : Dg w mb r T g w' (fun z => left z && !z.sameKey (kl s p)) cnt' (D.del (kl s p)) (up T' (pl s p) none) := by
  have hok := h.ok.drop s p
  rw [show dl T' s p = up T' (pl s p) none from if_pos hs] at hok
  refine ⟨hrg, h.rp.del (h.rg.owns.tidy keyed) hs, hok, fun k hk => ?_, fun l hl => ?_, (h.kp.wider (l' := [mb, r]) (by simp)).trans k |>.strike (fun i hi hlt => by
    simp at hi
    rcases hi with rfl | rfl
    · simp
    · have := h.hr; omega), h.hr⟩
  · by_cases e : k = pl s p
    · subst e
      rw [up_same, if_pos]
      rw [klk_pl hs, kl_same hs]
      simp [hg]
    · rw [up_else _ _ _ _ e, h.eq k hk, klk_ne hs hk e]
      simp
  · simp only [Bool.and_eq_true, Bool.not_eq_true'] at hl
    rw [Maps.has_del_other (fun e => by
      have := hl.2
      rw [e, kl_same hs] at this
      cases this)]
    exact h.sub l hl.1
theorem Dg.start {w0 : World} (ho : Ok T) (hr : Rp D T) (hrg : w0.ranges Try.prog pT rdB mb r 2048 D (Maps.has D) cnt) (k : But [] w w0) (hle : w.heap.size ≤ r) (hg : ∀ k, g k = true → (T k).isSome = true) : Dg w mb r T g w0 (Maps.has D) cnt D T :=
  ⟨hrg, hr, ho, fun i hi => by
    rw [hr.has_k hi]
    split
    · rename_i hc
      rw [hg i hc.2] at hc
      cases hc.1
    · rfl, fun _ h => h, k.any _, hle⟩
theorem Dg.done (h : Dg w mb r T g wr left cnt D T') (ho : Ok T) (hl : ∀ l, left l = false) : MpAt wr mb (cut T g) := by
  have e : T' = cut T g := by
    funext k
    by_cases hk : k < 2048
    · rw [h.eq k hk, hl]
      unfold cut
      cases g k <;> simp
    · have h1 : T' k = none := by
        cases hb : T' k with
        | none => rfl
        | some b => exact absurd (h.ok k b hb).1 hk
      have h2 : cut T g k = none := by
        cases hb : cut T g k with
        | none => rfl
        | some b => exact absurd ((ho.cut g) k b hb).1 hk
      rw [h1, h2]
  rw [← e]
  exact ⟨D, h.rg.owns, h.rp⟩
end
set_option maxHeartbeats 4000000 in
theorem df_some (mb : Nat) (T : Tb) (gf : Nat) (cb : Array Value) (pd : Nat → Fw → Bool) (w : World) (h : MpAt w mb T) (ho : Ok T)
    (eg : ∀ args w, (callFunc gf args).run Try.prog w = .ok (.enter gf args) w)
    (hdel : ∀ (W : World) (s p f : Int) (u : Bool), But [mb] w W → hsP s p → T (pl s p) = some (f, u) →
      Calls Try.prog gf (#[.agg #[.int .i64 s, .int .i64 p], .agg #[.int .i64 f, .bool u]] ++ cb) W fun e w' => e = .returned (.bool (pd (pl s p) (f, u))) ∧ But [] W w') :
    Calls Try.prog 35 #[.map (some mb), .func (.func gf) #[] cb] w fun e w' => e = .returned (.tuple #[]) ∧ MpAt w' mb (cut T (goes T pd)) ∧ But [mb] w w' := by
  obtain ⟨D0, hown, hr⟩ := h
  have HR := hid hr
  have HO := hid ho
  have HD := hid hdel
  have hz1 : ∀ w, (zeroValue pT).run Try.prog w = .ok (.agg #[.int .i64 0, .int .i64 0]) w := fun w => by kernel_rfl
  have hz2 := zBind
  clear hdel hr ho
  go_enter Try.func35, Try.ntmps35
  go_wp2_with (first
    | (at_range; refine wpList_range_own _ rfl _ 54 rfl pT bT keyed Try.underlying54 rdB mb 2048 _ rfl hown ?_; intro w0 hrg0 hg0 hs0)
    | go_in)
  go_frame
  have HS : Hid (Dg w mb w.heap.size T (goes T pd) w0 (Maps.has D0) (Maps.size D0) D0 T) :=
    Dg.start HO.out HR.out hrg0 ((But.refl [] w).grown hg0 (fun k hk => by cases hk)) (Nat.le_refl _) (fun k hk => by
      cases hb : T k with
      | none => rw [goes_none hb] at hk; cases hk
      | some b => rfl)
  clear hown hrg0 hg0 hs0 HR
  generalize w.heap.size = r at HS ⊢
  go_loopw [8] (fun _ wr => ∃ (left : Lit → Bool) (cnt : Nat) (D : DataW Unit) (T' : Tb), Hid (Dg w mb r T (goes T pd) wr left cnt D T'))
    (fun _ wr => wr.rangeLeft mb r)
  case atStart => exact ⟨_, _, _, _, HS.out⟩
  case round =>
    clear HS
    obtain ⟨left, cnt, D, T', HG⟩ := hrel
    go_wp2_with (first
      | (at_next; refine wpList_next_kb rfl _ rfl mb r 2048 _ _ _ rfl HG.out.rg ?_ ?_)
      | go_in)
    · intro hl0
      have HL := hid hl0
      clear hl0
      go_wp2
      go_end0
      exact ⟨rfl, HG.out.done HO.out HL.out, HG.out.kp⟩
    · intro s p b w1 cnt1 i1 i2 hlx hat hrg1 hlt hg1 hen
      have HX := hid (HG.out.at_ i1 i2 hlx hat)
      have HRG := hid hrg1
      have HLT := hid hlt
      have hk1 : But [r] wr w1 := (But.refl [r] wr).grown hg1 (fun k hk => .inl (by injection hk with hk; simp [hk]))
      have HK1 := hid hk1
      obtain ⟨f, u⟩ := b
      clear i1 i2 hlx hat hrg1 hg1 hlt hk1
      obtain ⟨g, hg⟩ : ∃ g, g = w1.heap.size := ⟨_, rfl⟩
      have hrA := new_range w1 [.int .i64 s, .int .i64 p] 61
      have hrB := new_range (w1.alloc (.cells #[.int .i64 s, .int .i64 p] 61)) [.int .i64 f, .bool u] 36
      have hk2 : But [] (w1.alloc (.cells #[.int .i64 s, .int .i64 p] 61)) ((w1.alloc (.cells #[.int .i64 s, .int .i64 p] 61)).alloc (.cells #[.int .i64 f, .bool u] 36)) := (But.refl [] _).alloc _
      have hrA2 := range_keep hrA hk2 (by simp)
      have hsz : (w1.alloc (.cells #[.int .i64 s, .int .i64 p] 61)).heap.size = w1.heap.size + 1 := by simp
      rw [hsz, ← hg] at hrB
      rw [← hg] at hrA2
      have HRA := hid hrA2
      have HRB := hid hrB
      have HK2 := hid (((But.refl [] w1).alloc (.cells #[.int .i64 s, .int .i64 p] 61)).alloc (.cells #[.int .i64 f, .bool u] 36))
      clear hrA hrB hk2 hrA2 hsz
      go_upto_region 3 with fail
      rw [← hg]
      clear hg
      generalize (w1.alloc (.cells #[.int .i64 s, .int .i64 p] 61)).alloc (.cells #[.int .i64 f, .bool u] 36) = w2 at HRA HRB HK2 ⊢
      have ha0 := range_cells HRA.out 0 _ rfl
      have ha1 := range_cells HRA.out 1 _ rfl
      have hb0 := range_cells HRB.out 0 _ rfl
      have hb1 := range_cells HRB.out 1 _ rfl
      simp only [Nat.zero_add] at ha0 ha1 hb0 hb1
      have hrg2 := HRG.out.kept (row := none) (But.toGrown HK2.out (by simp)) (by simp) (by simp)
      have hkp : But [mb] w w2 := ((HG.out.kp.wider (l' := [mb, r]) (by simp)).trans ((HK1.out.wider (by simp)).trans (HK2.out.any _))).strike (fun i hi hlt => by
        simp at hi
        rcases hi with rfl | rfl
        · simp
        · have := HG.out.hr; omega)
      have hc := HD.out w2 s p f u hkp HX.out.1 HX.out.2.2
      have HRG2 := hid hrg2
      have HGO : Hid (goes T pd (pl s p) = pd (pl s p) (f, u)) := goes_some HX.out.2.2
      clear hrg2 hkp
      cases hp : pd (pl s p) (f, u) with
      | false =>
        rw [hp] at hc HGO
        clear hp
        have HC := hid hc
        clear hc
        go_wp2_with fail
        refine HC.out.mono ?_
        rintro e w3 ⟨rfl, k3⟩
        have HK3 := hid k3
        clear k3
        go_wp2
        have k3 := HK3.out
        have HS3 := HG.out.stay HX.out.1 HX.out.2.2 HGO.out (HRG2.out.kept (row := none) (But.toGrown k3 (by simp)) (by simp) (by simp)) (HK1.out.trans ((HK2.out.any _).trans (k3.any _)))
        go_roundw
        case rel => exact ⟨_, _, _, _, HS3⟩
        case measure => rw [HS3.rg.left_eq, HG.out.rg.left_eq]; exact HLT.out
      | true =>
        rw [hp] at hc HGO
        clear hp
        have HC := hid hc
        clear hc
        go_wp2_with fail
        refine HC.out.mono ?_
        rintro e w3 ⟨rfl, k3⟩
        have HK3 := hid k3
        have hrg3 := HRG2.out.kept (row := none) (But.toGrown k3 (by simp)) (by simp) (by simp)
        have HA3 := hid (range_keep HRA.out k3 (by simp))
        have hI := hs_i64 HX.out.1
        have HKEY := hid (key_of hI.1 hI.2)
        clear k3 ha0 ha1 hb0 hb1 hI
        have ha0 := range_cells HA3.out 0 _ rfl
        have ha1 := range_cells HA3.out 1 _ rfl
        simp only [Nat.zero_add] at ha0 ha1
        go_wp2_with (first
          | (at_delete; refine wpList_delete_ranges _ rfl _ _ 54 pT rfl bT keyed Try.underlying54 rdB mb r 2048 _ _ _ rfl hrg3 _ (kl s p) rfl HKEY.out ?_; intro w4 cnt4 hrg4 hle hturn; go_frame)
          | go_in)
        rw [Maps.strike_twice] at hrg4
        have HS4 := HG.out.gone HX.out.1 HGO.out hrg4 ((HK1.out.wider (by simp)).trans ((HK2.out.any _).trans ((HK3.out.any _).trans ((but_turned hturn).wider (by simp)))))
        go_roundw
        case rel => exact ⟨_, _, _, _, HS4⟩
        case measure => rw [HS4.rg.left_eq, HG.out.rg.left_eq]; have := HLT.out; omega
end Go.Proofs.Ytiklneamdfgahaa.Bd
