/-
  The chapter's examples are read as it says; as many words are read as the limit says, and no more.
-/
import Derived.Test.YteacdjakdkdbnaaGreatDoorAsmRead
namespace Go.Proofs.YteacdjakdkdbnaaGreatDoor
open Go.RowKit
set_option linter.unusedVariables false
set_option linter.unusedSimpArgs false
set_option maxRecDepth 20000

def awTxt : Bs := [97, 58, 32, 106, 109, 112, 32, 97, 10, 115, 101, 116, 32, 114, 49, 32, 53]
theorem aw_rd : rdOf awTxt = ([301989888, 17825797], 0, 0) := by kernel_rfl
theorem aw_ascii : AsciiL awTxt := by unfold AsciiL awTxt; decide

set_option maxHeartbeats 1000000 in
theorem awake_c (w : World) (hN : NamesOk w) (hE : ErrsOk w) : Calls Tryz.prog 10 #[] w fun e w' => e = .returned (.bool true) ∧ Below w.heap.size w w' := by
  have hr := read_c awTxt aw_ascii (by decide) w hN hE
  have hr' : Calls Tryz.prog 7 #[.string ⟨#[97, 58, 32, 106, 109, 112, 32, 97, 10, 115, 101, 116, 32, 114, 49, 32, 53]⟩] w fun e w' => ∃ g cap, e = .returned (.tuple #[.slice (some ⟨g, 0, none⟩) 2 cap, .int .i64 0, .int .i64 0]) ∧ w'.cell? ⟨g, 0, none⟩ = some (.int .u32 301989888) ∧ w'.cell? ⟨g, 1, none⟩ = some (.int .u32 17825797) ∧ Below w.heap.size w w' :=
    hr.mono fun e w' ⟨hb, v, he, ho⟩ => by
      rw [aw_rd] at he ho
      obtain ⟨g, cap, rfl, _, _, _, _, hc⟩ := own_row ho (by decide)
      exact ⟨g, cap, he, hc 0 (by decide), hc 1 (by decide), hb⟩
  clear hr hN hE
  go_enter Tryz.func10, Tryz.ntmps10
  go_wp2_with (go_at_call 7; refine hr'.mono ?_; clear hr'; rintro e w1 ⟨g, cap, rfl, c0, c1, hb⟩)
  go_ret
  exact ⟨rfl, hb⟩

/-! ### many words -/
def w7 : Bs := [119, 111, 114, 100, 32, 55]
def rep (k : Nat) : Bs := (List.replicate k (w7 ++ [10])).flatten
theorem rep_front (k : Nat) : rep (k + 1) = w7 ++ 10 :: rep k := by unfold rep; rw [List.replicate_succ, List.flatten_cons]; simp
theorem rep_back (k : Nat) : rep (k + 1) = rep k ++ [119, 111, 114, 100, 32, 55, 10] := by unfold rep; rw [List.replicate_succ', List.flatten_append]; simp [w7]
theorem rep_len (k : Nat) : (rep k).length = 7 * k := by
  induction k with
  | zero => rfl
  | succ k ih => rw [rep_back, List.length_append, ih]; simp; omega
theorem rep_ascii (k : Nat) : AsciiL (rep k) := by
  induction k with
  | zero => intro c hc; cases hc
  | succ k ih =>
    rw [rep_back]
    intro c hc
    rcases List.mem_append.1 hc with h | h
    · exact ih c h
    · exact (by decide : ∀ c ∈ ([119, 111, 114, 100, 32, 55, 10] : Bs), c.toNat < 128) c h
theorem lines_w7 (t : Bs) : linesOf (w7 ++ 10 :: t) = w7 :: linesOf t := by
  have h : Lib.indexByte (w7 ++ 10 :: t) 10 = (6 : Nat) := by simp [w7, Lib.indexByte]
  rw [linesOf_some _ 6 h]
  rfl
theorem lines_rep (k : Nat) : linesOf (rep k) = List.replicate k w7 ++ [[]] := by
  induction k with
  | zero => rfl
  | succ k ih => rw [rep_front, lines_w7, ih, List.replicate_succ]; rfl
theorem line_w7 : lineOf w7 = (none, [[119, 111, 114, 100], [55]]) := by kernel_rfl
theorem line_nil : lineOf [] = (none, []) := by kernel_rfl
theorem word_w7 (L : Labs) (here : Nat) : wordOf L here [[119, 111, 114, 100], [55]] = some 7 := by
  rw [show ([119, 111, 114, 100] : Bs) = wordB from rfl, wordOf_word]
  have h1 : isNum [55] = true := by kernel_rfl
  have h2 : Lib.parseUintB 32 [55] = .ok 7 := by kernel_rfl
  simp [h1, h2]
theorem labs_rep : ∀ (k : Nat) (L : Labs) (j : Nat), labsTo (L, j) (List.replicate k w7 ++ [[]]) = some (L, j + k)
  | 0, L, j => by
    have : labStep (L, j) [] = some (L, j) := by unfold labStep; rw [line_nil]; rfl
    simp only [List.replicate_zero, List.nil_append, labsTo, this]; rfl
  | k + 1, L, j => by
    have : labStep (L, j) w7 = some (L, j + 1) := by unfold labStep; rw [line_w7]; rfl
    rw [List.replicate_succ, List.cons_append, labsTo, this]
    show labsTo (L, j + 1) (List.replicate k w7 ++ [[]]) = _
    rw [labs_rep k L (j + 1)]
    congr 2; omega
theorem step_w7 (ws : List Int) : rdStep [] ws w7 = if 512 ≤ ws.length then .error 22 else .ok (ws ++ [7]) := by
  unfold rdStep
  rw [line_w7]
  simp only [List.length_cons, List.length_nil, word_w7]
  rfl
theorem step_nil (ws : List Int) : rdStep [] ws [] = .ok ws := by unfold rdStep; rw [line_nil]; rfl
theorem rd_rep : ∀ (k : Nat) (ws : List Int) (c : Nat), ws.length + k ≤ 512 → rdFrom [] ws c (List.replicate k w7 ++ [[]]) = (ws ++ List.replicate k 7, 0, 0)
  | 0, ws, c, h => by simp only [List.replicate_zero, List.nil_append, rdFrom, step_nil, List.append_nil]
  | k + 1, ws, c, h => by
    rw [List.replicate_succ, List.cons_append, rdFrom, step_w7, if_neg (by omega)]
    show rdFrom [] (ws ++ [7]) (c + 1) _ = _
    rw [rd_rep k (ws ++ [7]) (c + 1) (by simp; omega)]
    simp [List.replicate_succ]
theorem rd_over : ∀ (k : Nat) (ws : List Int) (c : Nat), ws.length + k = 512 → rdFrom [] ws c (List.replicate (k + 1) w7 ++ [[]]) = ([], c + k + 1, 22)
  | 0, ws, c, h => by
    rw [show List.replicate (0 + 1) w7 ++ [[]] = w7 :: [[]] from rfl, rdFrom, step_w7, if_pos (by omega)]
  | k + 1, ws, c, h => by
    rw [List.replicate_succ, List.cons_append, rdFrom, step_w7, if_neg (by omega)]
    show rdFrom [] (ws ++ [7]) (c + 1) _ = _
    rw [rd_over k (ws ++ [7]) (c + 1) (by simp; omega)]
    congr 2; omega
theorem rdOf_rep (k : Nat) (h : k ≤ 512) : rdOf (rep k) = (List.replicate k 7, 0, 0) := by
  unfold rdOf
  rw [lines_rep, findFrom_all _ _ _ 0 (labs_rep k [] 0)]
  show rdFrom [] [] 0 _ = _
  rw [rd_rep k [] 0 (by simpa using h)]
  rfl
theorem rdOf_513 : rdOf (rep 513) = ([], 513, 22) := by
  unfold rdOf
  rw [lines_rep, findFrom_all _ _ _ 0 (labs_rep 513 [] 0)]
  exact rd_over 512 [] 0 rfl

theorem and3 (x : Int) : bits .and .i64 x 3 = x % 4 := by
  have h3 : (BitVec.ofInt 64 3).toNat = 2 ^ 2 - 1 := by decide
  have key : (BitVec.ofInt 64 x &&& BitVec.ofInt 64 3).toNat = (x % ((2 ^ 64 : Nat) : Int)).toNat % 2 ^ 2 := by
    rw [BitVec.toNat_and, BitVec.toNat_ofInt, h3, Nat.and_two_pow_sub_one_eq_mod]
  show IntKind.i64.wrap ((BitVec.ofInt 64 x &&& BitVec.ofInt 64 3).toNat : Nat) = x % 4
  rw [key]
  have e : (((x % ((2 ^ 64 : Nat) : Int)).toNat % 2 ^ 2 : Nat) : Int) = x % 4 := by omega
  rw [e]
  have h0 : 0 ≤ x % 4 := by omega
  have h1 : x % 4 < 4 := by omega
  have : x % 4 = 0 ∨ x % 4 = 1 ∨ x % 4 = 2 ∨ x % 4 = 3 := by omega
  rcases this with h | h | h | h <;> rw [h] <;> rfl

theorem append_lit (a : Bs) : (BA a ++ ⟨#[119, 111, 114, 100, 32, 55, 10]⟩ : ByteArray) = BA (a ++ [119, 111, 114, 100, 32, 55, 10]) := append_BA a [119, 111, 114, 100, 32, 55, 10]

theorem row_len {w : World} {B : Nat} {e : TypeId} {v : Value} {n : Nat} {xs : List Value} (h : w.ownsRow B e 1 v n xs) : ∃ a c, v = .slice a n c := by
  obtain ⟨hl, ⟨rfl, rfl⟩ | ⟨g, cap, cur, rfl, _⟩⟩ := h
  · exact ⟨_, _, rfl⟩
  · exact ⟨_, _, rfl⟩

set_option maxHeartbeats 1000000 in
theorem most_c (a : Int) (w : World) (hN : NamesOk w) (hE : ErrsOk w) : Calls Tryz.prog 5 #[.int .i64 a] w fun e w' => e = .returned (.bool true) ∧ Below w.heap.size w w' := by
  have hand := and3 a
  obtain ⟨m, hm, hm3⟩ : ∃ m : Nat, a % 4 = m ∧ m ≤ 3 := ⟨(a % 4).toNat, by omega, by omega⟩
  rw [hm] at hand
  have h6 : 6 < w.heap.size := by obtain ⟨-, e, h, -⟩ := hE; exact lt_of_cell h
  have HN : Hid _ := hN
  have HE : Hid _ := hE
  clear hm hN hE
  go_enter Tryz.func5, Tryz.ntmps5
  go_wp2
  go_loop [3, 4] (fun s i => ∃ k : Nat, k ≤ 510 + m ∧ i = .int .i64 k ∧ s = .string (BA (rep k))) (fun _ i => 510 + m - (intOf i).toNat)
  case atStart => exact ⟨0, by omega, rfl, rfl⟩
  case round =>
    obtain ⟨k, hk, rfl, rfl⟩ := hrel
    have hbl : (BA (rep k)).size = 7 * k := by rw [BA_size]; exact rep_len k
    by_cases hlt : k < 510 + m
    · have happ := append_lit (rep k)
      rw [← rep_back] at happ
      go_wp2
      go_round
      case rel => exact ⟨k + 1, by omega, by go_num, rfl⟩
      case measure => simp [intOf] <;> omega
    · obtain rfl : k = 510 + m := by omega
      have hr := read_c (rep (510 + m)) (rep_ascii _) (by rw [rep_len]; omega) w HN.out HE.out
      by_cases h3 : m = 3
      · subst h3
        have hr' : Calls Tryz.prog 7 #[.string (BA (rep (510 + 3)))] w fun e w' => ∃ a c, e = .returned (.tuple #[.slice a 0 c, .int .i64 513, .int .i64 22]) ∧ Below w.heap.size w w' :=
          hr.mono fun e w' ⟨hb, v, he, ho⟩ => by
            rw [show (510 + 3) = 513 from rfl, rdOf_513] at he ho
            obtain ⟨a, c, rfl⟩ := row_len ho
            exact ⟨a, c, he, hb⟩
        clear hr
        go_wp2_with (first
          | (go_at_call 7; refine hr'.mono ?_; clear hr'; rintro e w1 ⟨a1, c1, rfl, hb⟩)
          | (go_at_call 10; refine (awake_c _ (NamesOk.below HN.out hb (by omega)) (ErrsOk.below HE.out hb h6)).mono ?_; rintro e w2 ⟨rfl, hb2⟩))
        go_ret
        exact ⟨rfl, hb.trans (hb2.mono hb.size)⟩
      · have hr' : Calls Tryz.prog 7 #[.string (BA (rep (510 + m)))] w fun e w' => ∃ a c, e = .returned (.tuple #[.slice a (510 + m) c, .int .i64 0, .int .i64 0]) ∧ Below w.heap.size w w' :=
          hr.mono fun e w' ⟨hb, v, he, ho⟩ => by
            rw [rdOf_rep _ (by omega)] at he ho
            obtain ⟨a, c, rfl⟩ := row_len ho
            rw [List.length_replicate] at he
            exact ⟨a, c, he, hb⟩
        have hg : ¬ (512 : Int) < 510 + (m : Int) := by omega
        clear hr
        go_wp2_with (first
          | (go_at_call 7; refine hr'.mono ?_; clear hr'; rintro e w1 ⟨a1, c1, rfl, hb⟩)
          | (go_at_call 10; refine (awake_c _ (NamesOk.below HN.out hb (by omega)) (ErrsOk.below HE.out hb h6)).mono ?_; rintro e w2 ⟨rfl, hb2⟩))
        go_ret
        exact ⟨rfl, hb.trans (hb2.mono hb.size)⟩
end Go.Proofs.YteacdjakdkdbnaaGreatDoor
