/-
  Layer 11 (names): the document's tables in memory; contracts of its Get, Find, Names, Drop and Through, over the translated program.
-/
import Derived.Test.YtfjkbfcfceckgaaNmAdd
namespace Go.Proofs.Ytfjkbfcfceckgaa.Nm
open Go.ChangeShapes Go.WideShapes Go.ChangeAt Go.RowKit
open Wh Sn
set_option linter.unusedVariables false
set_option maxRecDepth 20000

/-- What so many names mean, as cells. -/
def cv (T : Tf) (n : Nat) : List Value := (List.range n).map fun j => Value.int .i64 (T j)
theorem cv_len (T : Tf) (n : Nat) : (cv T n).length = n := by simp [cv]
theorem cv_get (T : Tf) (n j : Nat) (h : j < n) : (cv T n)[j]? = some (.int .i64 (T j)) := by simp [cv, h]
theorem cv_one (T : Tf) (n : Nat) : ∀ v ∈ cv T n, v.oneCell' = true := by
  intro v hv
  simp only [cv, List.mem_map] at hv
  obtain ⟨i, _, rfl⟩ := hv
  rfl
theorem cv_succ (T : Tf) (n : Nat) : cv T (n + 1) = cv T n ++ [.int .i64 (T n)] := by simp [cv, List.range_succ]
theorem cv_congr {T U : Tf} {n : Nat} (h : ∀ j, j < n → T j = U j) : cv T n = cv U n := by
  unfold cv
  exact List.map_congr_left (fun j hj => by rw [h j (List.mem_range.1 hj)])
theorem cv_set (T : Tf) (n k : Nat) (v : Int) : (cv T n).set k (.int .i64 v) = cv (upd T k v) n := by
  apply List.ext_getElem?
  intro j
  by_cases hj : j < n
  · rw [cv_get _ _ _ hj]
    by_cases e : j = k
    · subst e
      rw [List.getElem?_set_self (by rw [cv_len]; exact hj)]
      unfold upd
      rw [if_pos rfl]
    · rw [List.getElem?_set_ne (by omega), cv_get _ _ _ hj]
      unfold upd
      rw [if_neg e]
  · rw [List.getElem?_eq_none (by rw [List.length_set, cv_len]; omega), List.getElem?_eq_none (by rw [cv_len]; omega)]
/-- A table of the document lies at A, its block from lo on. -/
def Dl (w : World) (lo : Nat) (A : Option Addr) (n : Nat) (T : Tf) : Prop :=
  n = 0 ∨ ∃ g off, A = some ⟨g, off, none⟩ ∧ lo ≤ g ∧ g < w.heap.size ∧ ∀ j, j < n → w.cell? ⟨g, off + j, none⟩ = some (.int .i64 (T j))
section
variable {w w' : World} {lo n : Nat} {A : Option Addr} {T : Tf}
theorem Dl.at_ (h : Dl w lo A n T) {k : Nat} (hk : k < n) : ∃ g off, A = some ⟨g, off, none⟩ ∧ lo ≤ g ∧ g < w.heap.size ∧ ∀ j, j < n → w.cell? ⟨g, off + j, none⟩ = some (.int .i64 (T j)) := by
  rcases h with h | h
  · omega
  · exact h
theorem Dl.keep {l : List Nat} (h : Dl w lo A n T) (k : But l w w') (hl : ∀ x, x ∈ l → x < lo) : Dl w' lo A n T := by
  rcases h with h | ⟨g, off, e, h1, h2, hc⟩
  · exact .inl h
  · exact .inr ⟨g, off, e, h1, Nat.lt_of_lt_of_le h2 k.size, fun j hj => (k.cell (p := ⟨g, off + j, none⟩) h2 (fun hm => by have h9 : g < lo := hl _ hm; omega)).trans (hc j hj)⟩
theorem Dl.keep0 (h : Dl w lo A n T) (k : But [] w w') : Dl w' lo A n T := h.keep k (by simp)
theorem Dl.wider {lo' : Nat} (h : Dl w lo A n T) (hl : lo' ≤ lo) : Dl w lo' A n T := by
  rcases h with h | ⟨g, off, e, h1, h2, hc⟩
  · exact .inl h
  · exact .inr ⟨g, off, e, by omega, h2, hc⟩
theorem Dl.of_que {v : Value} (h : Que w lo 1 v n (cv T n)) : ∃ A c, v = .slice A n c ∧ Dl w lo A n T := by
  rcases h.2 with ⟨rfl, rfl⟩ | ⟨g, off, cap, rfl, hb, hg, hnc, hcm, hth, hr⟩
  · exact ⟨_, _, rfl, .inl rfl⟩
  · exact ⟨_, _, rfl, .inr ⟨g, off, rfl, hb, hg, fun j hj => hr j _ (cv_get T n j hj)⟩⟩
end
/-- All elements appended onto nil. -/
theorem que_copy {w : World} {lo n c : Nat} {A : Option Addr} {T : Tf} (h : Dl w lo A n T) (hn : n ≤ 512) :
    ∃ v' w', (Builtin.append_ #[29, 29] 29 #[.slice none 0 0, .slice A n c]).run Try.prog w = .ok v' w' ∧ Que w' w.heap.size 1 v' n (cv T n) ∧ But [] w w' := by
  obtain ⟨i0, hi, hz0, hz1, hz2⟩ := info_parts Nm.Try.infoInt
  have hs : Src Try.prog 1 29 (.slice A n c) n (cv T n) w := by
    cases A with
    | none =>
      have h0 : n = 0 := by
        rcases h with h | ⟨g, off, e, _⟩
        · exact h
        · cases e
      subst h0
      exact Src.ofNil w Try.underlying29 c
    | some a =>
      refine Src.ofSlice w Try.underlying29 a n c (cv T n) (by rw [cv_len, Nat.mul_one]) (fun j u hu => ?_) (cv_one T n)
      have hj : j < n := by have := (List.getElem?_eq_some_iff.1 hu).1; rwa [cv_len] at this
      rw [cv_get _ _ _ hj] at hu
      obtain rfl := Option.some.inj hu
      obtain ⟨g, off, e, h1, h2, hc⟩ := h.at_ hj
      injection e with e
      subst e
      rw [Addr.add_mid]
      exact hc j hj
  obtain ⟨v', w', hr, hq, hk, ho⟩ := run_append_que (P := Try.prog) w w.heap.size 29 29 3 i0 _ 1 8 Try.underlying29 hi hz0 hz1 hz2 rfl (by decide) (.slice none 0 0) 0 [] (Que.nil _ _ _) (.slice A n c) n (cv T n) hs (by unfold maxLen; omega) (by omega) (Nat.le_refl _)
  refine ⟨v', w', hr, by simpa using hq, hk.wider (by simp [Value.ownBlock])⟩
/-- What a name of a list means. -/
def rg (T : Tf) (n : Nat) (m : Int) : Int := if 0 ≤ m ∧ m < n then T m.toNat else -1
set_option maxHeartbeats 1000000 in
theorem rget_c (A : Option Addr) (n c lo : Nat) (T : Tf) (m : Int) (w : World) (h : Dl w lo A n T) :
    Calls Try.prog 22 #[.slice A n c, .int .i64 m] w fun e w' => e = .returned (.int .i64 (rg T n m)) ∧ w = w' := by
  by_cases hm : 0 ≤ m ∧ m < n
  · obtain ⟨j, rfl⟩ : ∃ j : Nat, m = j := ⟨m.toNat, by omega⟩
    have hj : j < n := by omega
    obtain ⟨g, off, rfl, h1, h2, hc⟩ := h.at_ hj
    have hca := hc j hj
    have e : rg T n j = T j := if_pos hm
    rw [e]
    generalize T j = x at *
    have hjn : (j : Int) < n := by omega
    clear h hc e hm h1 h2
    go_enter Try.func22, Try.ntmps22
    go_wp2
    go_ret
    exact ⟨rfl, rfl⟩
  · have e : rg T n m = -1 := if_neg hm
    rw [e]
    by_cases h0 : m < 0
    · clear h hm e
      go_enter Try.func22, Try.ntmps22
      go_wp2
      go_ret
      exact ⟨rfl, rfl⟩
    · have h5 : (n : Int) ≤ m := by omega
      clear h hm e
      go_enter Try.func22, Try.ntmps22
      go_wp2
      go_ret
      exact ⟨rfl, rfl⟩
/-- The name that means m, of so many; -1, if none. -/
def rf (T : Tf) (n : Nat) (m : Int) : Int := if 0 ≤ m ∧ lst T m n < n then (lst T m n : Int) else -1
set_option maxHeartbeats 1000000 in
theorem rfind_c (A : Option Addr) (n c lo : Nat) (T : Tf) (m : Int) (w : World) (h : Dl w lo A n T) (hn : n ≤ 512) :
    Calls Try.prog 14 #[.slice A n c, .int .i64 m] w fun e w' => e = .returned (.int .i64 (rf T n m)) ∧ But [] w w' := by
  have H := hid h
  clear h
  by_cases h0 : m < 0
  · have e : rf T n m = -1 := if_neg (by omega)
    rw [e]
    clear e
    go_enter Try.func14, Try.ntmps14
    go_wp2
    go_loopg [5] (n + 1) (fun g0 i wx => ∃ j : Nat, j + g0 = n + 1 ∧ j ≤ n ∧ i = .int .i64 j ∧ Hid (But [] w wx))
    case atStart => exact ⟨0, by omega, by omega, rfl, But.refl _ _⟩
    case round =>
      obtain ⟨j, hjg, hj, rfl, HB⟩ := hrel
      by_cases hlt : j < n
      · have hjI : (j : Int) < n := by omega
        go_wp2
        go_roundg (n + 1 - (j + 1))
        case measure => omega
        case rel => exact ⟨j + 1, by omega, by omega, by go_num, HB.out⟩
      · obtain rfl : j = n := by omega
        go_wp2
        go_ret
        exact ⟨rfl, HB.out⟩
  · have h0' : 0 ≤ m := by omega
    go_enter Try.func14, Try.ntmps14
    go_wp2
    go_loopg [5] (n + 1) (fun g0 i wx => ∃ j : Nat, j + g0 = n + 1 ∧ j ≤ n ∧ i = .int .i64 j ∧ Hid (∀ q, q < j → T q ≠ m) ∧ Hid (But [] w wx))
    case atStart => exact ⟨0, by omega, by omega, rfl, fun q hq => absurd hq (Nat.not_lt_zero _), But.refl _ _⟩
    case round =>
      obtain ⟨j, hjg, hj, rfl, HN, HB⟩ := hrel
      by_cases hlt : j < n
      · have hjI : (j : Int) < n := by omega
        obtain ⟨g, off, rfl, h1, h2, hcs⟩ := H.out.at_ hlt
        have hc := cell_keep (hcs j hlt) HB.out (by simp)
        clear hcs h1 h2
        by_cases hv : T j = m
        · rw [hv] at hc
          have e : Hid (rf T n m = j) := by
            show rf T n m = j
            unfold rf
            rw [lst_eq (Nat.le_of_lt hlt) HN.out (fun _ => hv), if_pos ⟨h0', hlt⟩]
          clear hv
          go_wp2
          go_ret
          exact ⟨by rw [e.out]; rfl, HB.out⟩
        · have hne : (T j == m) = false := by simpa using hv
          have HN1 : Hid (∀ q, q < j + 1 → T q ≠ m) := fun q hq => by
            rcases Nat.lt_or_ge q j with h | h
            · exact HN.out q h
            · obtain rfl : q = j := by omega
              exact hv
          generalize T j = x at hc hne
          clear hv HN
          go_wp2
          go_roundg (n + 1 - (j + 1))
          case measure => omega
          case rel => exact ⟨j + 1, by omega, by omega, by go_num, HN1.out, HB.out⟩
      · obtain rfl : j = n := by omega
        have e : Hid (rf T j m = -1) := by
          show rf T j m = -1
          unfold rf
          rw [lst_eq (Nat.le_refl _) HN.out (fun h => absurd h (Nat.lt_irrefl _)), if_neg (fun h => absurd h.2 (Nat.lt_irrefl _))]
        go_wp2
        go_ret
        exact ⟨by rw [e.out]; rfl, HB.out⟩

set_option maxHeartbeats 2000000 in
theorem rnames_c (A : Option Addr) (n c lo : Nat) (T : Tf) (w : World) (h : Dl w lo A n T) (hn : n ≤ 512) :
    Calls Try.prog 28 #[.slice A n c] w (Tells w (nums (has T) n)) := by
  have H := hid h
  clear h
  go_enter Try.func28, Try.ntmps28
  go_wp2
  go_loopg [3, 4] (n + 1) (fun g0 v i wx => ∃ (k m cv : Nat) (Av : Option Addr), k + g0 = n + 1 ∧ k ≤ n ∧ i = .int .i64 k ∧ v = .slice Av m cv ∧ Hid (Que wx w.heap.size 1 (.slice Av m cv) m (ic (nums (has T) k))) ∧ Hid (But [] w wx))
  case atStart => exact ⟨0, 0, 0, none, by omega, by omega, rfl, rfl, Que.nil _ _ _, But.refl _ _⟩
  case round =>
    obtain ⟨k, m, cv, Av, hkg, hk, rfl, rfl, HQ, HB⟩ := hrel
    by_cases hlt : k < n
    · have hkI : (k : Int) < n := by omega
      obtain ⟨g, off, rfl, h1, h2, hcs⟩ := H.out.at_ hlt
      have hc := cell_keep (hcs k hlt) HB.out (by simp)
      have hn1 := nums_succ (has T) k
      clear hcs h1 h2
      by_cases hv : 0 ≤ T k
      · rw [show has T k = true from decide_eq_true hv] at hn1
        have hm : m ≤ 1025 := by
          have := HQ.out.1
          rw [ic_len] at this
          have := nums_le (has T) k
          omega
        obtain ⟨g', off', c', w5, hr5, hq5, hk5, ho5⟩ := que_push (P := Try.prog) 29 3 _ Try.underlying29 Nm.Try.infoInt rfl (by decide) (by decide) HQ.out (ic [k]) rfl (ic_one _) HB.out.size (by omega)
        have HR5 : Hid ((Builtin.append_ #[29, 29] 29 #[.slice Av m cv, .slice (some ⟨wr.heap.size, 0, none⟩) 1 1]).run Try.prog (wr.alloc (.cells #[.int .i64 k] 3)) = .ok (.slice (some ⟨g', off', none⟩) (m + 1) c') w5) := hr5
        have HQ5 : Hid (Que w5 w.heap.size 1 (.slice (some ⟨g', off', none⟩) (m + 1) c') (m + 1) (ic (nums (has T) (k + 1)))) := by
          show Que _ _ _ _ _ _
          rw [hn1]
          simp only [if_true]
          rw [ic_app]
          exact hq5
        have HB5 := hid (but_own HB.out hk5 (fun i hi => (HQ.out.lt i hi).1))
        generalize T k = x at hc hv
        clear hr5 hq5 hk5 ho5 hn1 HQ HB
        go_wp2_with (first | (at_builtin; refine wpList_append_known _ rfl _ _ 29 rfl _ _ rfl rfl HR5.out ?_))
        go_roundg (n + 1 - (k + 1))
        case measure => omega
        case rel => exact ⟨k + 1, _, _, _, by omega, by omega, by go_num, rfl, HQ5.out, HB5.out⟩
      · have HN : Hid (nums (has T) (k + 1) = nums (has T) k) := by
          show _ = _; rw [hn1, show has T k = false from decide_eq_false hv]; simp
        have hv' : T k < 0 := by omega
        generalize T k = x at hc hv'
        clear hv hn1
        go_wp2
        go_roundg (n + 1 - (k + 1))
        case measure => omega
        case rel => exact ⟨k + 1, m, cv, Av, by omega, by omega, by go_num, rfl, by rw [HN.out]; exact HQ.out, HB.out⟩
    · obtain rfl : k = n := by omega
      go_wp2
      go_ret
      obtain ⟨A', c', hv, hl', hr'⟩ := que_rd HQ.out
      injection hv with h1 h2 h3
      subst h1; subst h3
      exact ⟨_, _, _, rfl, by omega, hr', HB.out, que_fm HQ.out⟩
/-- What a call that tells a list ends in. -/
def Lists (w : World) (lo n : Nat) (T : Tf) (e : Ending) (w' : World) : Prop := ∃ A c, e = .returned (.slice A n c) ∧ Dl w' lo A n T ∧ But [] w w'
set_option maxHeartbeats 2000000 in
theorem rthrough_c (A A' : Option Addr) (n n' c c' lo lo' : Nat) (T U : Tf) (w : World) (h : Dl w lo A n T) (h' : Dl w lo' A' n' U) (hn : n ≤ 512) :
    Calls Try.prog 17 #[.slice A n c, .slice A' n' c'] w (Lists w w.heap.size n (fun j => rg U n' (T j))) := by
  have H := hid h
  have H' := hid h'
  clear h h'
  go_enter Try.func17, Try.ntmps17
  go_wp2
  go_loopg [5, 6] (n + 1) (fun g0 v i wx => ∃ (k cv1 : Nat) (Av : Option Addr), k + g0 = n + 1 ∧ k ≤ n ∧ i = .int .i64 k ∧ v = .slice Av k cv1 ∧ Hid (Que wx w.heap.size 1 (.slice Av k cv1) k (cv (fun j => rg U n' (T j)) k)) ∧ Hid (But [] w wx))
  case atStart => exact ⟨0, 0, none, by omega, by omega, rfl, rfl, Que.nil _ _ _, But.refl _ _⟩
  case round =>
    obtain ⟨k, cv1, Av, hkg, hk, rfl, rfl, HQ, HB⟩ := hrel
    by_cases hlt : k < n
    · have hkI : (k : Int) < n := by omega
      obtain ⟨g, off, rfl, h1, h2, hcs⟩ := H.out.at_ hlt
      have hc := cell_keep (hcs k hlt) HB.out (by simp)
      clear hcs h1 h2
      obtain ⟨g', off', c5, w5, hr5, hq5, hk5, ho5⟩ := que_push (P := Try.prog) 29 3 _ Try.underlying29 Nm.Try.infoInt rfl (by decide) (by decide) HQ.out [.int .i64 (rg U n' (T k))] rfl (one_int _ _) HB.out.size (by omega)
      have HR5 : Hid ((Builtin.append_ #[29, 29] 29 #[.slice Av k cv1, .slice (some ⟨wr.heap.size, 0, none⟩) 1 1]).run Try.prog (wr.alloc (.cells #[.int .i64 (rg U n' (T k))] 3)) = .ok (.slice (some ⟨g', off', none⟩) (k + 1) c5) w5) := hr5
      have HQ5 : Hid (Que w5 w.heap.size 1 (.slice (some ⟨g', off', none⟩) (k + 1) c5) (k + 1) (cv (fun j => rg U n' (T j)) (k + 1))) := by
        show Que _ _ _ _ _ _
        rw [cv_succ]
        exact hq5
      have HB5 := hid (but_own HB.out hk5 (fun i hi => (HQ.out.lt i hi).1))
      have HG := hid (H'.out.keep0 HB.out)
      generalize T k = x at hc HR5
      clear hr5 hq5 hk5 ho5 HQ HB
      go_wp2_with fail
      refine (rget_c A' n' c' lo' U x _ HG.out).mono ?_
      rintro e w4 ⟨rfl, rfl⟩
      generalize rg U n' x = y at HR5 ⊢
      go_wp2_with (first | (at_builtin; refine wpList_append_known _ rfl _ _ 29 rfl _ _ rfl rfl HR5.out ?_))
      go_roundg (n + 1 - (k + 1))
      case measure => omega
      case rel => exact ⟨k + 1, _, _, by omega, by omega, by go_num, rfl, HQ5.out, HB5.out⟩
    · obtain rfl : k = n := by omega
      go_wp2
      go_ret
      obtain ⟨A5, c5, hv, hd⟩ := Dl.of_que HQ.out
      injection hv with h1 h2 h3
      subst h1; subst h3
      exact ⟨_, _, rfl, hd, HB.out⟩
end Go.Proofs.Ytfjkbfcfceckgaa.Nm
