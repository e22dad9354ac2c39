/-
  Layer 13 (ledger): a deed done in both, over the translated program.
-/
import Derived.Test.YtcdbdgmjdmkfeaaLgRef3
import Derived.Test.YtcdbdgmjdmkfeaaLgMove
namespace Go.Proofs.Ytcdbdgmjdmkfeaa.Lg
open Go.ChangeShapes Go.WideShapes Go.ChangeAt Go.RowKit
set_option linter.unusedVariables false
set_option maxRecDepth 20000

/-- Both ledgers, and a deed's box. -/
structure Sq (w : World) (bx bl g : Nat) (K e t k n : Int) (q u q2 u2 : Tb) (T : Nat → Int) (wx : World) : Prop where
  ld : LdAt wx bx 0 q u
  rf : RfAt wx bl q2 u2
  ok : Ok q u T
  ok2 : Ok q2 u2 T
  box : wx.rangeAt g 0 [.int .i64 K, .int .i64 e, .int .i64 t, .int .i64 k, .int .i64 n]
  kp : But [bx, bl] w wx
  ne : bx ≠ bl
  gx : g ≠ bx
  gl : g ≠ bl
section
variable {w wx : World} {bx bl g : Nat} {K e t k n : Int} {q u q2 u2 : Tb} {T : Nat → Int}
theorem Sq.drew (h : Sq w bx bl g K e t k n q u q2 u2 T wx) : Sq w bx bl g K e t k n q u q2 u2 T wx.drew :=
  ⟨h.ld.keep (But.refl [] _).drew (by simp), h.rf.keep (But.refl [] _).drew (by simp), h.ok, h.ok2, (World.rangeAt_drew _ _ _ _).2 h.box, h.kp.drew, h.ne, h.gx, h.gl⟩
theorem Sq.left (h : Sq w bx bl g K e t k n q u q2 u2 T wx) {q' u' : Tb} {w' : World} (hl : Lf bx q' u' wx w') (ho : Ok q' u' T) : Sq w bx bl g K e t k n q' u' q2 u2 T w' :=
  ⟨hl.1, h.rf.keep hl.2 (by simpa using h.ne.symm), ho, h.ok2, range_keep h.box hl.2 (by simpa using h.gx), h.kp.trans (hl.2.wider (by simp)), h.ne, h.gx, h.gl⟩
theorem Sq.right (h : Sq w bx bl g K e t k n q u q2 u2 T wx) {q' u' : Tb} {w' : World} (hl : Rl bl q' u' wx w') (ho : Ok q' u' T) : Sq w bx bl g K e t k n q u q' u' T w' :=
  ⟨h.ld.keep hl.2 (by simpa using h.ne), hl.1, h.ok, ho, range_keep h.box hl.2 (by simpa using h.gl), h.kp.trans (hl.2.wider (by simp)), h.ne, h.gx, h.gl⟩
theorem Sq.c (h : Sq w bx bl g K e t k n q u q2 u2 T wx) : wx.cell? ⟨g, 0, none⟩ = some (.int .i64 K) := range_cells h.box 0 _ rfl
theorem s134 (h : Hid (Sq w bx bl g K e t k n q u q2 u2 T wx)) : wx.cell? ⟨g, 1, none⟩ = some (.int .i64 e) ∧ wx.cell? ⟨g, 3, none⟩ = some (.int .i64 k) ∧ wx.cell? ⟨g, 4, none⟩ = some (.int .i64 n) :=
  ⟨range_cells h.out.box 1 _ rfl, range_cells h.out.box 3 _ rfl, range_cells h.out.box 4 _ rfl⟩
theorem s1234 (h : Hid (Sq w bx bl g K e t k n q u q2 u2 T wx)) : wx.cell? ⟨g, 1, none⟩ = some (.int .i64 e) ∧ wx.cell? ⟨g, 2, none⟩ = some (.int .i64 t) ∧ wx.cell? ⟨g, 3, none⟩ = some (.int .i64 k) ∧ wx.cell? ⟨g, 4, none⟩ = some (.int .i64 n) :=
  ⟨range_cells h.out.box 1 _ rfl, range_cells h.out.box 2 _ rfl, range_cells h.out.box 3 _ rfl, range_cells h.out.box 4 _ rfl⟩
theorem s12 (h : Hid (Sq w bx bl g K e t k n q u q2 u2 T wx)) : wx.cell? ⟨g, 1, none⟩ = some (.int .i64 e) ∧ wx.cell? ⟨g, 2, none⟩ = some (.int .i64 t) :=
  ⟨range_cells h.out.box 1 _ rfl, range_cells h.out.box 2 _ rfl⟩
theorem take_s (h : Sq w bx bl g K e t k n q u q2 u2 T wx) :
    Calls Try.prog 13 #[.pointer (some ⟨bx, 0, none⟩), .int .i64 e, .int .i64 k, .int .i64 n] wx fun r w' => r = .returned (.int .i64 (tkC q u e k n)) ∧ Hid (Sq w bx bl g K e t k n q (tkU q u e k n) q2 u2 T w') :=
  (take_c bx q u T e k n wx h.ld h.ok).mono fun r w' hh => ⟨hh.1, h.left hh.2 (h.ok.take e k n)⟩
theorem rtake_s (h : Sq w bx bl g K e t k n q u q2 u2 T wx) :
    Calls Try.prog 17 #[.pointer (some ⟨bl, 0, none⟩), .int .i64 e, .int .i64 k, .int .i64 n, .bool false] wx fun r w' => r = .returned (.int .i64 (tkC q2 u2 e k n)) ∧ Hid (Sq w bx bl g K e t k n q u q2 (tkU q2 u2 e k n) T w') :=
  (rtake_c bl q2 u2 T e k n wx h.rf h.ok2).mono fun r w' hh => ⟨hh.1, h.right hh.2 (h.ok2.take e k n)⟩
theorem free_s (h : Sq w bx bl g K e t k n q u q2 u2 T wx) :
    Calls Try.prog 14 #[.pointer (some ⟨bx, 0, none⟩), .int .i64 e, .int .i64 k, .int .i64 n] wx fun r w' => r = .returned (.int .i64 (frC u e k n)) ∧ Hid (Sq w bx bl g K e t k n q (frU u e k n) q2 u2 T w') :=
  (free_c bx q u T e k n wx h.ld h.ok).mono fun r w' hh => ⟨hh.1, h.left hh.2 (h.ok.free e k n)⟩
theorem rfree_s (h : Sq w bx bl g K e t k n q u q2 u2 T wx) :
    Calls Try.prog 17 #[.pointer (some ⟨bl, 0, none⟩), .int .i64 e, .int .i64 k, .int .i64 n, .bool true] wx fun r w' => r = .returned (.int .i64 (frC u2 e k n)) ∧ Hid (Sq w bx bl g K e t k n q u q2 (frU u2 e k n) T w') :=
  (rfree_c bl q2 u2 T e k n wx h.rf h.ok2).mono fun r w' hh => ⟨hh.1, h.right hh.2 (h.ok2.free e k n)⟩
theorem move_s (h : Sq w bx bl g K e t k n q u q2 u2 T wx) :
    Calls Try.prog 15 #[.pointer (some ⟨bx, 0, none⟩), .int .i64 e, .int .i64 t, .int .i64 k, .int .i64 n] wx fun r w' => r = .returned (.int .i64 (mvC q u e t k n)) ∧ Hid (Sq w bx bl g K e t k n (mvQ q u e t k n) u q2 u2 T w') :=
  (move_c bx q u T e t k n wx h.ld h.ok).mono fun r w' hh => ⟨hh.1, h.left hh.2 (h.ok.moved e t k n)⟩
theorem rmove_s (h : Sq w bx bl g K e t k n q u q2 u2 T wx) :
    Calls Try.prog 18 #[.pointer (some ⟨bl, 0, none⟩), .int .i64 e, .int .i64 t, .int .i64 k, .int .i64 n] wx fun r w' => r = .returned (.int .i64 (mvC q2 u2 e t k n)) ∧ Hid (Sq w bx bl g K e t k n q u (mvQ q2 u2 e t k n) u2 T w') :=
  (rmove_c bl q2 u2 T e t k n wx h.rf h.ok2).mono fun r w' hh => ⟨hh.1, h.right hh.2 (h.ok2.moved e t k n)⟩
theorem close_s (h : Sq w bx bl g K e t k n q u q2 u2 T wx) :
    Calls Try.prog 16 #[.pointer (some ⟨bx, 0, none⟩), .int .i64 e, .int .i64 t] wx fun r w' => r = .returned (.int .i64 (clC e t)) ∧ Hid (Sq w bx bl g K e t k n (clQ q e t) (clU u e t) q2 u2 T w') :=
  (close_c bx q u T e t wx h.ld h.ok).mono fun r w' hh => ⟨hh.1, h.left hh.2 (h.ok.closed e t)⟩
theorem rclose_s (h : Sq w bx bl g K e t k n q u q2 u2 T wx) :
    Calls Try.prog 19 #[.pointer (some ⟨bl, 0, none⟩), .int .i64 e, .int .i64 t] wx fun r w' => r = .returned (.int .i64 (clC e t)) ∧ Hid (Sq w bx bl g K e t k n q u (clQ q2 e t) (clU u2 e t) T w') :=
  (rclose_c bl q2 u2 T e t wx h.rf h.ok2).mono fun r w' hh => ⟨hh.1, h.right hh.2 (h.ok2.closed e t)⟩
end
/-- Both are there, and are the same. -/
def Bo (bx bl : Nat) (T : Nat → Int) (w : World) : Prop := ∃ q u, LdAt w bx 0 q u ∧ RfAt w bl q u ∧ Ok q u T
def Dn (bx bl : Nat) (T : Nat → Int) (w w' : World) : Prop := Bo bx bl T w' ∧ But [bx, bl] w w'
theorem Sq.dn {w wx : World} {bx bl g : Nat} {K e t k n : Int} {q u : Tb} {T : Nat → Int} (h : Sq w bx bl g K e t k n q u q u T wx) : Dn bx bl T w wx := ⟨⟨q, u, h.ld, h.rf, h.ok⟩, h.kp⟩
theorem Sq.dnN {w wx : World} {bx bl g : Nat} {K e t k n : Int} {q u : Tb} {T : Nat → Int} (h : Sq w bx bl g K e t k n q u q u T wx) (m : Nat) : Dn bx bl T w (wx.drewN m) :=
  ⟨⟨q, u, h.ld.keep ((But.refl [] _).drewN m) (by simp), h.rf.keep ((But.refl [] _).drewN m) (by simp), h.ok⟩, h.kp.drewN m⟩
set_option maxHeartbeats 1000000 in
theorem does_c (bx bl : Nat) (T : Nat → Int) (K e t k n : Int) (w : World) (h : Bo bx bl T w) (hne : bx ≠ bl) :
    Calls Try.prog 8 #[.pointer (some ⟨bx, 0, none⟩), .pointer (some ⟨bl, 0, none⟩), .agg #[.int .i64 K, .int .i64 e, .int .i64 t, .int .i64 k, .int .i64 n]] w fun r w' => r = .returned (.bool true) ∧ Dn bx bl T w w' := by
  obtain ⟨q, u, hl, hr, ho⟩ := h
  obtain ⟨g, hg⟩ : ∃ g, g = w.heap.size := ⟨_, rfl⟩
  have H1 : Hid (Sq w bx bl g K e t k n q u q u T (w.alloc (.cells #[.int .i64 K, .int .i64 e, .int .i64 t, .int .i64 k, .int .i64 n] 30))) := by
    have hb := new_range w [.int .i64 K, .int .i64 e, .int .i64 t, .int .i64 k, .int .i64 n] 30
    rw [← hg] at hb
    have h1 := hl.lt
    have h2 := hr.lt
    exact ⟨hl.keep ((But.refl [] _).alloc _) (by simp), hr.keep ((But.refl [] _).alloc _) (by simp), ho, ho, hb, (But.refl _ _).alloc _, hne, by omega, by omega⟩
  clear hl hr ho
  go_enter Try.func8, Try.ntmps8
  go_upto_region 1 with fail
  rw [← hg]
  generalize w.alloc (.cells #[.int .i64 K, .int .i64 e, .int .i64 t, .int .i64 k, .int .i64 n] 30) = w1 at H1 ⊢
  clear hg
  have hck := H1.out.c
  have H1d : Hid (Sq w bx bl g K e t k n q u q u T w1.drew) := H1.out.drew
  by_cases hK : K = 0
  · subst hK
    go_wp2
    go_region_held3 (fun w' => w'.cell? ⟨g, 1, none⟩ = some (.int .i64 e) ∧ w'.cell? ⟨g, 3, none⟩ = some (.int .i64 k) ∧ w'.cell? ⟨g, 4, none⟩ = some (.int .i64 n))
      (first | assumption | exact s134 (by assumption))
      (first
        | (go_at_call 13; refine (take_s H1d.out).mono ?_; rintro e w3 ⟨rfl, H3⟩)
        | (go_at_call 17; refine (rtake_s H3.out).mono ?_; rintro e w4 ⟨rfl, H4⟩))
    go_wp2
    go_ret
    exact ⟨rfl, H4.out.dn⟩
  · have hK0 : ¬ K = 0 := hK
    have hb0 : (K == 0) = false := by simpa using hK
    clear hK
    by_cases hK : K = 1
    · subst hK
      go_wp2
      go_region_held3 (fun w' => w'.cell? ⟨g, 1, none⟩ = some (.int .i64 e) ∧ w'.cell? ⟨g, 3, none⟩ = some (.int .i64 k) ∧ w'.cell? ⟨g, 4, none⟩ = some (.int .i64 n))
        (first | assumption | exact s134 (by assumption))
        (first
          | (go_at_call 13; refine (take_s H1d.out).mono ?_; rintro e w3 ⟨rfl, H3⟩)
          | (go_at_call 17; refine (rtake_s H3.out).mono ?_; rintro e w4 ⟨rfl, H4⟩))
      go_wp2
      go_ret
      exact ⟨rfl, H4.out.dn⟩
    · have hK1 : ¬ K = 1 := hK
      have hb1 : (K == 1) = false := by simpa using hK
      clear hK
      by_cases hK : K = 2
      · subst hK
        go_wp2
        go_region_held3 (fun w' => w'.cell? ⟨g, 1, none⟩ = some (.int .i64 e) ∧ w'.cell? ⟨g, 3, none⟩ = some (.int .i64 k) ∧ w'.cell? ⟨g, 4, none⟩ = some (.int .i64 n))
          (first | assumption | exact s134 (by assumption))
          (first
            | (go_at_call 14; refine (free_s H1d.out).mono ?_; rintro e w3 ⟨rfl, H3⟩)
            | (go_at_call 17; refine (rfree_s H3.out).mono ?_; rintro e w4 ⟨rfl, H4⟩))
        go_wp2
        go_ret
        exact ⟨rfl, H4.out.dn⟩
      · have hK2 : ¬ K = 2 := hK
        have hb2 : (K == 2) = false := by simpa using hK
        clear hK
        by_cases hK : K = 3
        · subst hK
          go_wp2
          go_region_held3 (fun w' => w'.cell? ⟨g, 1, none⟩ = some (.int .i64 e) ∧ w'.cell? ⟨g, 2, none⟩ = some (.int .i64 t) ∧ w'.cell? ⟨g, 3, none⟩ = some (.int .i64 k) ∧ w'.cell? ⟨g, 4, none⟩ = some (.int .i64 n))
            (first | assumption | exact s1234 (by assumption))
            (first
              | (go_at_call 15; refine (move_s H1d.out).mono ?_; rintro e w3 ⟨rfl, H3⟩)
              | (go_at_call 18; refine (rmove_s H3.out).mono ?_; rintro e w4 ⟨rfl, H4⟩))
          go_wp2
          go_ret
          exact ⟨rfl, H4.out.dn⟩
        · have hK3 : ¬ K = 3 := hK
          have hb3 : (K == 3) = false := by simpa using hK
          clear hK
          by_cases hK : K = 4
          · subst hK
            go_wp2
            go_region_held3 (fun w' => w'.cell? ⟨g, 1, none⟩ = some (.int .i64 e) ∧ w'.cell? ⟨g, 2, none⟩ = some (.int .i64 t) ∧ w'.cell? ⟨g, 3, none⟩ = some (.int .i64 k) ∧ w'.cell? ⟨g, 4, none⟩ = some (.int .i64 n))
              (first | assumption | exact s1234 (by assumption))
              (first
                | (go_at_call 15; refine (move_s H1d.out).mono ?_; rintro e w3 ⟨rfl, H3⟩)
                | (go_at_call 18; refine (rmove_s H3.out).mono ?_; rintro e w4 ⟨rfl, H4⟩))
            go_wp2
            go_ret
            exact ⟨rfl, H4.out.dn⟩
          · have hK4 : ¬ K = 4 := hK
            have hb4 : (K == 4) = false := by simpa using hK
            clear hK
            by_cases hK : K = 5
            · subst hK
              go_wp2
              go_region_held3 (fun w' => w'.cell? ⟨g, 1, none⟩ = some (.int .i64 e) ∧ w'.cell? ⟨g, 2, none⟩ = some (.int .i64 t))
                (first | assumption | exact s12 (by assumption))
                (first
                  | (go_at_call 16; refine (close_s H1d.out).mono ?_; rintro e w3 ⟨rfl, H3⟩)
                  | (go_at_call 19; refine (rclose_s H3.out).mono ?_; rintro e w4 ⟨rfl, H4⟩))
              go_wp2
              go_ret
              exact ⟨rfl, H4.out.dn⟩
            · have hK5 : ¬ K = 5 := hK
              have hb5 : (K == 5) = false := by simpa using hK
              clear hK
              go_wp2
              go_ret
              exact ⟨rfl, H1.out.dn⟩
end Go.Proofs.Ytcdbdgmjdmkfeaa.Lg
