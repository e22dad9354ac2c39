/-
  Layer 15 (bind): a deed done in both, over the translated program.
-/
import Derived.Test.YtiklneamdfgahaaBdRef3
namespace Go.Proofs.Ytiklneamdfgahaa.Bd
open Go.ChangeShapes Go.WideShapes Go.ChangeAt Go.RowKit
open Wh
set_option linter.unusedVariables false
set_option maxRecDepth 20000

theorem bd1_some {T : Tb} {k : Nat} (h : bd1 T k = true) : ∃ b, T k = some b := by
  unfold bd1 at h
  exact Option.isSome_iff_exists.1 h
theorem mn_page {T : Tb} {s p : Int} (h : hsP s p) (k : Nat) (hk : k < 2048) : mn T s p 0 k = (k == pl s p) := by
  have h' := h
  obtain ⟨⟨h0, h1⟩, h2, h3⟩ := h'
  unfold mn
  rw [if_neg (by omega), show decide (p < 0) = false from decide_eq_false (by omega)]
  have e1 := pl_div h
  have e2 := pl_mod h
  by_cases e : k = pl s p
  · subst e
    rw [e1, e2]
    simp
  · have : ¬ (((k / 32 : Nat) : Int) = s ∧ ((k % 32 : Nat) : Int) = p) := fun hh => e (by rw [← pl_of k, hh.1, hh.2])
    rw [show (k == pl s p) = false by simpa using e]
    by_cases h4 : ((k / 32 : Nat) : Int) = s
    · have h5 : ¬ ((k % 32 : Nat) : Int) = p := fun h5 => this ⟨h4, h5⟩
      rw [decide_eq_false h5]; simp
    · rw [decide_eq_false h4]; simp
theorem cut_page {T : Tb} (ho : Ok T) {s p : Int} (h : hsP s p) : cutn T (mn T s p 0) 2048 = dl T s p := by
  rw [cutn_all ho, dl_cut T s p h]
  exact cut_congr ho fun k hk _ => mn_page h k hk
theorem gS_at {T : Tb} {s : Int} {k : Nat} (h : bd1 T k = true) : gS T s k = (((k / 32 : Nat) : Int) == s) := by
  obtain ⟨b, hb⟩ := bd1_some h
  exact goes_some hb
theorem mn_space (T : Tb) {s : Int} (h0 : 0 ≤ s) (k : Nat) (hb : bd1 T k = true) : mn T s (-1) 0 k = gS T s k := by
  rw [gS_at hb]
  unfold mn
  rw [if_neg (by omega)]
  by_cases h : ((k / 32 : Nat) : Int) = s
  · simp [h]
  · rw [decide_eq_false h, show (((k / 32 : Nat) : Int) == s) = false by simpa using h]; rfl
theorem mn_frame (T : Tb) (f : Int) (k : Nat) (hb : bd1 T k = true) : mn T (-1) 0 f k = isF T f k := by
  obtain ⟨b, hb⟩ := bd1_some hb
  rw [isF_some hb]
  unfold mn
  rw [if_pos (by omega), hb]
  rfl
theorem rdrop_page (b : Nat) (T : Tb) (s p : Int) (w : World) (h : RfAt w b T) (ho : Ok T) (hs : hsP s p) :
    Calls Try.prog 22 #[.pointer (some ⟨b, 0, none⟩), .int .i64 s, .int .i64 p, .int .i64 0] w fun r w' => (∃ n, r = .returned (.int .i64 n)) ∧ Rl b (dl T s p) w w' :=
  (rdrop_all b T s p 0 w h).mono fun r w' hh => ⟨⟨_, hh.1⟩, by rw [← cut_page ho hs]; exact hh.2⟩
theorem rdrop_space (b : Nat) (T : Tb) (s : Int) (w : World) (h : RfAt w b T) (ho : Ok T) (h0 : 0 ≤ s) :
    Calls Try.prog 22 #[.pointer (some ⟨b, 0, none⟩), .int .i64 s, .int .i64 (-1), .int .i64 0] w fun r w' => r = .returned (.int .i64 (dn T (gS T s) 2048 : Nat)) ∧ Rl b (cut T (gS T s)) w w' := by
  have h1 := rdrop_all b T s (-1) 0 w h
  rw [cutn_all ho, dn_congr (fun k _ hb => mn_space T h0 k hb), cut_congr ho (fun k _ hb => mn_space T h0 k hb)] at h1
  exact h1
theorem rdrop_frame (b : Nat) (T : Tb) (f : Int) (w : World) (h : RfAt w b T) (ho : Ok T) :
    Calls Try.prog 22 #[.pointer (some ⟨b, 0, none⟩), .int .i64 (-1), .int .i64 0, .int .i64 f] w fun r w' => r = .returned (.int .i64 (dn T (isF T f) 2048 : Nat)) ∧ Rl b (cut T (isF T f)) w w' := by
  have h1 := rdrop_all b T (-1) 0 f w h
  rw [cutn_all ho, dn_congr (fun k _ hb => mn_frame T f k hb), cut_congr ho (fun k _ hb => mn_frame T f k hb)] at h1
  exact h1
/-- A space below 0 has nothing. -/
theorem gS_neg (T : Tb) {s : Int} (h : s < 0) : dn T (gS T s) 2048 = 0 ∧ cut T (gS T s) = T := by
  have e : ∀ k, gS T s k = false := fun k => by
    cases hb : T k with
    | none => exact goes_none hb
    | some b =>
      rw [show gS T s k = (((k / 32 : Nat) : Int) == s) from goes_some hb]
      simp
      omega
  constructor
  · exact ct_none 2048 (fun k _ => by rw [e k]; simp)
  · funext k
    unfold cut
    rw [e k]
    simp
/-- Both tables, and a deed's box. -/
structure Sq (w : World) (m0 : Option Nat) (bx bl g : Nat) (cs : List Value) (mo : Option Nat) (T T2 : Tb) (wx : World) : Prop where
  tb : TbAt wx bx mo T
  rf : RfAt wx bl T2
  ok2 : Ok T2
  box : wx.rangeAt g 0 cs
  kp : But (bx :: bl :: m0.toList) w wx
  nw : ∀ m, mo = some m → m0 = some m ∨ w.heap.size ≤ m
  nb : ∀ m, mo = some m → m ≠ bl ∧ m ≠ g
  ne : bx ≠ bl
  gx : g ≠ bx
  gl : g ≠ bl
  gn : g < wx.heap.size
/-- .. whichever map it is. -/
def Sx (w : World) (m0 : Option Nat) (bx bl g : Nat) (cs : List Value) (T T2 : Tb) (wx : World) : Prop := ∃ mo, Sq w m0 bx bl g cs mo T T2 wx
section
variable {w wx : World} {m0 mo : Option Nat} {bx bl g : Nat} {cs : List Value} {T T2 : Tb}
theorem Sq.left (h : Sq w m0 bx bl g cs mo T T2 wx) {T' : Tb} {w' : World} (hl : Lf bx mo T' wx w') : Sx w m0 bx bl g cs T' T2 w' := by
  obtain ⟨mo', h1, k1, m1⟩ := hl
  have hml : ∀ i, i ∈ bx :: mo.toList → i ≠ bl ∧ i ≠ g := fun i hi => by
    simp at hi
    rcases hi with rfl | hi
    · exact ⟨h.ne, h.gx.symm⟩
    · exact h.nb i hi
  have hlt := h.rf.lt
  have hgn := h.gn
  refine ⟨mo', h1, h.rf.keep k1 (fun hi => (hml _ hi).1 rfl), h.ok2, range_keep h.box k1 (fun hi => (hml _ hi).2 rfl), ?_, fun m hm => ?_, fun m hm => ?_, h.ne, h.gx, h.gl, Nat.lt_of_lt_of_le hgn k1.size⟩
  · refine ((h.kp.wider (l' := bx :: bl :: (m0.toList ++ mo.toList)) (fun i hi => by simp at hi ⊢; rcases hi with hi | hi | hi <;> simp [hi])).trans (k1.wider (fun i hi => by simp at hi ⊢; rcases hi with hi | hi <;> simp [hi]))).strike (fun i hi hlt => ?_)
    simp at hi ⊢
    rcases hi with hi | hi | hi | hi
    · exact .inl hi
    · exact .inr (.inl hi)
    · exact .inr (.inr hi)
    · rcases h.nw i hi with hm | hm
      · exact .inr (.inr hm)
      · omega
  · rcases m1 m hm with hh | hh
    · exact h.nw m hh
    · exact .inr (Nat.le_trans h.kp.size hh)
  · rcases m1 m hm with hh | hh
    · exact h.nb m hh
    · exact ⟨by omega, by omega⟩
theorem Sq.right (h : Sq w m0 bx bl g cs mo T T2 wx) {T' : Tb} {w' : World} (hl : Rl bl T' wx w') (ho : Ok T') : Sx w m0 bx bl g cs T T' w' :=
  ⟨mo, h.tb.keep hl.2 (by simpa using h.ne) (fun m hm => by simpa using (h.nb m hm).1), hl.1, ho, range_keep h.box hl.2 (by simpa using h.gl), h.kp.trans (hl.2.wider (by simp)), h.nw, h.nb, h.ne, h.gx, h.gl, Nat.lt_of_lt_of_le h.gn hl.2.size⟩
theorem Sq.ask (h : Sq w m0 bx bl g cs mo T T2 wx) {w' : World} (k : But [] wx w') : Sx w m0 bx bl g cs T T2 w' :=
  ⟨mo, h.tb.keep0 k, h.rf.keep k (by simp), h.ok2, range_keep h.box k (by simp), h.kp.trans (k.any _), h.nw, h.nb, h.ne, h.gx, h.gl, Nat.lt_of_lt_of_le h.gn k.size⟩
theorem Sx.ask (h : Sx w m0 bx bl g cs T T2 wx) {w' : World} (k : But [] wx w') : Sx w m0 bx bl g cs T T2 w' := by
  obtain ⟨mo, h⟩ := h
  exact h.ask k
theorem Sx.box (h : Sx w m0 bx bl g cs T T2 wx) : wx.rangeAt g 0 cs := by
  obtain ⟨mo, h⟩ := h
  exact h.box
end
section
variable {w wx : World} {m0 : Option Nat} {bx bl g : Nat} {K s p f : Int} {u : Bool} {T T2 : Tb}
theorem s1234 (h : Hid (Sx w m0 bx bl g [.int .i64 K, .int .i64 s, .int .i64 p, .int .i64 f, .bool u] T T2 wx)) : wx.cell? ⟨g, 1, none⟩ = some (.int .i64 s) ∧ wx.cell? ⟨g, 2, none⟩ = some (.int .i64 p) ∧ wx.cell? ⟨g, 3, none⟩ = some (.int .i64 f) ∧ wx.cell? ⟨g, 4, none⟩ = some (.bool u) :=
  ⟨range_cells h.out.box 1 _ rfl, range_cells h.out.box 2 _ rfl, range_cells h.out.box 3 _ rfl, range_cells h.out.box 4 _ rfl⟩
theorem s3 (h : Hid (Sx w m0 bx bl g [.int .i64 K, .int .i64 s, .int .i64 p, .int .i64 f, .bool u] T T2 wx)) : wx.cell? ⟨g, 3, none⟩ = some (.int .i64 f) := range_cells h.out.box 3 _ rfl
theorem put_s {cs : List Value} (h : Sx w m0 bx bl g cs T T2 wx) (s p f : Int) (u : Bool) :
    Calls Try.prog 18 #[.pointer (some ⟨bx, 0, none⟩), .int .i64 s, .int .i64 p, .agg #[.int .i64 f, .bool u]] wx fun r w' => r = .returned (.bool (ptB s p f)) ∧ Hid (Sx w m0 bx bl g cs (pt T s p (f, u)) T2 w') := by
  obtain ⟨mo, h⟩ := h
  exact (put_c bx mo T s p f u wx h.tb).mono fun r w' hh => ⟨hh.1, h.left hh.2⟩
theorem rput_s {cs : List Value} (h : Sx w m0 bx bl g cs T T2 wx) (s p f : Int) (u : Bool) :
    Calls Try.prog 21 #[.pointer (some ⟨bl, 0, none⟩), .int .i64 s, .int .i64 p, .int .i64 f, .bool u] wx fun r w' => r = .returned (.bool (ptB s p f)) ∧ Hid (Sx w m0 bx bl g cs T (pt T2 s p (f, u)) w') := by
  obtain ⟨mo, h⟩ := h
  exact (rput_c bl T2 s p f u wx h.rf).mono fun r w' hh => ⟨hh.1, h.right hh.2 (h.ok2.put _ _ _)⟩
theorem rget_s {cs : List Value} (h : Sx w m0 bx bl g cs T T2 wx) (s p : Int) :
    Calls Try.prog 9 #[.pointer (some ⟨bl, 0, none⟩), .int .i64 s, .int .i64 p] wx fun r w' => r = .returned (.agg #[.bool (gtb T2 s p), .int .i64 (gtv T2 s p).1, .bool (gtv T2 s p).2]) ∧ Hid (Sx w m0 bx bl g cs T T2 w') := by
  obtain ⟨mo, h⟩ := h
  exact (rget_v bl T2 s p wx h.rf).mono fun r w' hh => ⟨hh.1, h.ask hh.2⟩
theorem drop_s {cs : List Value} (h : Sx w m0 bx bl g cs T T2 wx) (s p : Int) (i1 : I64 s) (i2 : I64 p) :
    Calls Try.prog 19 #[.pointer (some ⟨bx, 0, none⟩), .int .i64 s, .int .i64 p] wx fun r w' => r = .returned (.bool (gtb T s p)) ∧ Hid (Sx w m0 bx bl g cs (dl T s p) T2 w') := by
  obtain ⟨mo, h⟩ := h
  exact (drop1_c bx mo T s p wx h.tb i1 i2).mono fun r w' hh => ⟨hh.1, h.left hh.2⟩
theorem rdrop_s {cs : List Value} (h : Sx w m0 bx bl g cs T T2 wx) (s p : Int) (hs : hsP s p) :
    Calls Try.prog 22 #[.pointer (some ⟨bl, 0, none⟩), .int .i64 s, .int .i64 p, .int .i64 0] wx fun r w' => (∃ n, r = .returned (.int .i64 n)) ∧ Hid (Sx w m0 bx bl g cs T (dl T2 s p) w') := by
  obtain ⟨mo, h⟩ := h
  exact (rdrop_page bl T2 s p wx h.rf h.ok2 hs).mono fun r w' hh => ⟨hh.1, h.right hh.2 (h.ok2.drop _ _)⟩
theorem empty_s {cs : List Value} (h : Sx w m0 bx bl g cs T T2 wx) (s : Int) :
    Calls Try.prog 20 #[.pointer (some ⟨bx, 0, none⟩), .int .i64 s] wx fun r w' => r = .returned (.int .i64 (dn T (gS T s) 2048 : Nat)) ∧ Hid (Sx w m0 bx bl g cs (cut T (gS T s)) T2 w') := by
  obtain ⟨mo, h⟩ := h
  exact (empty_c bx mo T s wx h.tb).mono fun r w' hh => ⟨hh.1, h.left hh.2⟩
theorem rempty_s {cs : List Value} (h : Sx w m0 bx bl g cs T T2 wx) (s : Int) (h0 : 0 ≤ s) :
    Calls Try.prog 22 #[.pointer (some ⟨bl, 0, none⟩), .int .i64 s, .int .i64 (-1), .int .i64 0] wx fun r w' => r = .returned (.int .i64 (dn T2 (gS T2 s) 2048 : Nat)) ∧ Hid (Sx w m0 bx bl g cs T (cut T2 (gS T2 s)) w') := by
  obtain ⟨mo, h⟩ := h
  exact (rdrop_space bl T2 s wx h.rf h.ok2 h0).mono fun r w' hh => ⟨hh.1, h.right hh.2 (h.ok2.cut _)⟩
theorem release_s {cs : List Value} (h : Sx w m0 bx bl g cs T T2 wx) (f : Int) :
    Calls Try.prog 17 #[.pointer (some ⟨bx, 0, none⟩), .int .i64 f] wx fun r w' => r = .returned (.int .i64 (dn T (isF T f) 2048 : Nat)) ∧ Hid (Sx w m0 bx bl g cs (cut T (isF T f)) T2 w') := by
  obtain ⟨mo, h⟩ := h
  exact (release_c bx mo T f wx h.tb).mono fun r w' hh => ⟨hh.1, h.left hh.2⟩
theorem rrelease_s {cs : List Value} (h : Sx w m0 bx bl g cs T T2 wx) (f : Int) :
    Calls Try.prog 22 #[.pointer (some ⟨bl, 0, none⟩), .int .i64 (-1), .int .i64 0, .int .i64 f] wx fun r w' => r = .returned (.int .i64 (dn T2 (isF T2 f) 2048 : Nat)) ∧ Hid (Sx w m0 bx bl g cs T (cut T2 (isF T2 f)) w') := by
  obtain ⟨mo, h⟩ := h
  exact (rdrop_frame bl T2 f wx h.rf h.ok2).mono fun r w' hh => ⟨hh.1, h.right hh.2 (h.ok2.cut _)⟩
end
/-- What a deed leaves. -/
def Dn (bx bl : Nat) (m0 : Option Nat) (w w' : World) : Prop := ∃ mo' T', TbAt w' bx mo' T' ∧ RfAt w' bl T' ∧ But (bx :: bl :: m0.toList) w w' ∧ ∀ m, mo' = some m → m ≠ bl ∧ (m0 = some m ∨ w.heap.size ≤ m)
theorem Sx.dn {w wx : World} {m0 : Option Nat} {bx bl g : Nat} {cs : List Value} {T : Tb} (h : Sx w m0 bx bl g cs T T wx) : Dn bx bl m0 w wx := by
  obtain ⟨mo, h⟩ := h
  exact ⟨mo, T, h.tb, h.rf, h.kp, fun m hm => ⟨(h.nb m hm).1, h.nw m hm⟩⟩
set_option maxHeartbeats 2000000 in
theorem does_c (bx bl : Nat) (m0 : Option Nat) (T : Tb) (K s p f : Int) (u : Bool) (w : World) (ht : TbAt w bx m0 T) (hr : RfAt w bl T) (hne : bx ≠ bl) (hm : ∀ m, m0 = some m → m ≠ bl) (i1 : I64 s) (i2 : I64 p) :
    Calls Try.prog 7 #[.pointer (some ⟨bx, 0, none⟩), .pointer (some ⟨bl, 0, none⟩), .agg #[.int .i64 K, .int .i64 s, .int .i64 p, .int .i64 f, .bool u]] w fun r w' => r = .returned (.bool true) ∧ Dn bx bl m0 w w' := by
  obtain ⟨g, hg⟩ : ∃ g, g = w.heap.size := ⟨_, rfl⟩
  have H1 : Hid (Sx w m0 bx bl g [.int .i64 K, .int .i64 s, .int .i64 p, .int .i64 f, .bool u] T T (w.alloc (.cells #[.int .i64 K, .int .i64 s, .int .i64 p, .int .i64 f, .bool u] 33))) := by
    have hb := new_range w [.int .i64 K, .int .i64 s, .int .i64 p, .int .i64 f, .bool u] 33
    rw [← hg] at hb
    have h1 := ht.lt
    have h2 := hr.lt
    have k0 : But [] w (w.alloc (.cells #[.int .i64 K, .int .i64 s, .int .i64 p, .int .i64 f, .bool u] 33)) := (But.refl [] w).alloc _
    exact ⟨m0, ht.keep0 k0, hr.keep k0 (by simp), ht.ok, hb, k0.any _, fun m hm => .inl hm, fun m hmm => ⟨hm m hmm, by have := ht.map.lt m hmm; omega⟩, hne, by omega, by omega, by simp; omega⟩
  have HI := hid (And.intro i1 i2)
  have HOK := hid ht.ok
  have hfl := fld0
  clear ht hr hm i1 i2 hne
  go_enter Try.func7, Try.ntmps7
  go_upto_region 1 with fail
  rw [← hg]
  generalize w.alloc (.cells #[.int .i64 K, .int .i64 s, .int .i64 p, .int .i64 f, .bool u] 33) = w1 at H1 ⊢
  clear hg
  have hck := range_cells H1.out.box 0 _ rfl
  simp only [Nat.zero_add] at hck
  have H1d : Hid (Sx w m0 bx bl g [.int .i64 K, .int .i64 s, .int .i64 p, .int .i64 f, .bool u] T T w1.drew) := H1.out.ask (But.refl [] _).drew
  by_cases hK : K = 0 ∨ K = 1 ∨ K = 2 ∨ K = 3 ∨ K = 4
  · rcases hK with rfl | rfl | rfl | rfl | rfl
    all_goals (
      go_wp2
      go_region_held3 (fun w' => w'.cell? ⟨g, 1, none⟩ = some (.int .i64 s) ∧ w'.cell? ⟨g, 2, none⟩ = some (.int .i64 p) ∧ w'.cell? ⟨g, 3, none⟩ = some (.int .i64 f) ∧ w'.cell? ⟨g, 4, none⟩ = some (.bool u))
        (first | assumption | exact s1234 (by assumption))
        (first
          | (go_at_call 18; refine (put_s H1d.out s p f u).mono ?_; rintro e w3 ⟨rfl, H3⟩)
          | (go_at_call 21; refine (rput_s H3.out s p f u).mono ?_; rintro e w4 ⟨rfl, H4⟩))
      go_wp2
      go_ret
      exact ⟨rfl, H4.out.dn⟩)
  · have n0 : ¬ K = 0 := fun e => hK (.inl e)
    have n1 : ¬ K = 1 := fun e => hK (.inr (.inl e))
    have n2 : ¬ K = 2 := fun e => hK (.inr (.inr (.inl e)))
    have n3 : ¬ K = 3 := fun e => hK (.inr (.inr (.inr (.inl e))))
    have n4 : ¬ K = 4 := fun e => hK (.inr (.inr (.inr (.inr e))))
    have m0' : (K == 0) = false := by simpa using n0
    have m1' : (K == 1) = false := by simpa using n1
    have m2' : (K == 2) = false := by simpa using n2
    have m3' : (K == 3) = false := by simpa using n3
    have m4' : (K == 4) = false := by simpa using n4
    clear hK
    by_cases hK : K = 5
    · subst hK
      clear n0 n1 n2 n3 n4 m0' m1' m2' m3' m4'
      obtain ⟨hc1, hc2, -, -⟩ := s1234 H1
      go_wp2_with fail
      refine (rget_s H1.out s p).mono ?_
      cases hb : gt T s p with
      | none =>
        obtain ⟨e1, e2⟩ := gtb_none hb
        have HDL := hid (dl_none hb)
        have HE1 := hid e1
        rw [e1, e2]
        rintro e w2 ⟨rfl, H2⟩
        clear hb e1 e2 hc1 hc2
        obtain ⟨hc1, hc2, -, -⟩ := s1234 H2
        go_wp2_with fail
        refine (drop_s H2.out s p HI.out.1 HI.out.2).mono ?_
        rw [HE1.out, HDL.out]
        rintro e w3 ⟨rfl, H3⟩
        go_wp2
        go_ret
        exact ⟨rfl, H3.out.dn⟩
      | some bb =>
        obtain ⟨e1, e2⟩ := gtb_some hb
        have HE1 := hid e1
        have HSP := hid (HOK.out.gt hb).1
        rw [e1, e2]
        rintro e w2 ⟨rfl, H2⟩
        clear hb e1 e2 hc1 hc2
        obtain ⟨hc1, hc2, -, -⟩ := s1234 H2
        go_wp2_with fail
        refine (rdrop_s H2.out s p HSP.out).mono ?_
        rintro e w3 ⟨⟨n, rfl⟩, H3⟩
        clear hc1 hc2
        obtain ⟨hc1, hc2, -, -⟩ := s1234 H3
        go_wp2_with fail
        refine (drop_s H3.out s p HI.out.1 HI.out.2).mono ?_
        rw [HE1.out]
        rintro e w4 ⟨rfl, H4⟩
        go_wp2
        go_ret
        exact ⟨rfl, H4.out.dn⟩
    · have n5 : ¬ K = 5 := hK
      have m5' : (K == 5) = false := by simpa using n5
      clear hK
      by_cases hK : K = 6
      · subst hK
        clear n0 n1 n2 n3 n4 n5 m0' m1' m2' m3' m4' m5'
        obtain ⟨hc1, hc2, -, -⟩ := s1234 H1
        by_cases h0 : 0 ≤ s
        · have h0' : decide (0 ≤ s) = true := decide_eq_true h0
          have H0 := hid h0
          clear h0
          go_wp2_with fail
          refine (rempty_s H1.out s H0.out).mono ?_
          rintro e w2 ⟨rfl, H2⟩
          clear hc1 hc2
          obtain ⟨hc1, hc2, -, -⟩ := s1234 H2
          go_wp2_with fail
          refine (empty_s H2.out s).mono ?_
          rintro e w3 ⟨rfl, H3⟩
          go_wp2
          go_ret
          exact ⟨by simp, H3.out.dn⟩
        · have h0' : decide (0 ≤ s) = false := decide_eq_false h0
          have hS := gS_neg T (s := s) (by omega)
          have HS := hid hS
          clear h0 hS
          go_wp2_with fail
          refine (empty_s H1.out s).mono ?_
          rw [HS.out.1, HS.out.2]
          rintro e w3 ⟨rfl, H3⟩
          go_wp2
          go_ret
          exact ⟨rfl, H3.out.dn⟩
      · have n6 : ¬ K = 6 := hK
        have m6' : (K == 6) = false := by simpa using n6
        clear hK
        by_cases hK : K = 7
        · subst hK
          clear n0 n1 n2 n3 n4 n5 n6 m0' m1' m2' m3' m4' m5' m6'
          go_wp2
          go_region_held3 (fun w' => w'.cell? ⟨g, 3, none⟩ = some (.int .i64 f))
            (first | assumption | exact s3 (by assumption))
            (first
              | (go_at_call 17; refine (release_s H1d.out f).mono ?_; rintro e w3 ⟨rfl, H3⟩)
              | (go_at_call 22; refine (rrelease_s H3.out f).mono ?_; rintro e w4 ⟨rfl, H4⟩))
          go_wp2
          go_ret
          exact ⟨rfl, H4.out.dn⟩
        · have n7 : ¬ K = 7 := hK
          have m7' : (K == 7) = false := by simpa using n7
          clear hK
          go_wp2
          go_ret
          exact ⟨rfl, H1.out.dn⟩
end Go.Proofs.Ytiklneamdfgahaa.Bd
