/-
  Layer 4 (frames): contracts of New, Twin (with slices.Clone), Others, over the translated program.
-/
import Derived.Test.YtjlcncdhlcpklaaFrCalls
import Derived.Test.YtjlcncdhlcpklaaMem
import Derived.Deep.LoopGhost
import Derived.ChangeKeysEq
import Derived.WalkMore
namespace Go.Proofs.Ytjlcncdhlcpklaa.Fr
open Go.ChangeShapes Go.WideShapes Go.ChangeAt Go.RowKit
set_option linter.unusedVariables false
set_option maxRecDepth 20000

theorem Try.infoPg : (Try.prog.info? 50).map (fun i => (i.zero, i.size, i.bytes)) = some (some (.agg (Array.replicate 16 (.int .u32 0))), 16, 64) := by kernel_rfl
theorem made_get (n j : Nat) (hj : j < n) : (madeCells (Array.replicate 16 (Value.int .u32 0)) n)[j]? = some (.int .u32 0) := by
  have : j % 16 < 16 := Nat.mod_lt _ (by omega)
  simp [madeCells, hj, this]
theorem new_blk (w : World) (n : Nat) (t : TypeId) : Blk (w.alloc (.cells (madeCells (Array.replicate 16 (Value.int .u32 0)) (n * 16)) t)) w.heap.size (List.replicate (16 * n) 0) := fun j hj => by
  rw [List.length_replicate] at hj
  rw [cell_of_row _ _ j _ t (0, 0) (heap_alloc_last w _), frozen_of_row _ _ j _ t (heap_alloc_last w _), made_get _ _ (by omega)]
  exact ⟨by simp [List.getD, hj], rfl⟩

theorem new_c (n : Nat) (w : World) (h0 : 0 < n) (h1 : n ≤ 256) :
    Calls Try.prog 16 #[.int .i64 n] w fun e w' => ∃ bm bp, e = .returned (.pointer (some ⟨bm, 0, none⟩)) ∧ w.heap.size ≤ bm ∧ w.heap.size ≤ bp ∧ MemAt w' bm bp n (List.replicate (16 * n) 0) ∧ But [] w w' := by
  obtain ⟨i0, hi, hz0, hz1, hz2⟩ := info_parts Try.infoPg
  have hmk : ∀ w, (Instr.makeSlice 85 (.int .i64 n) (.int .i64 n)).run Try.prog w = .ok (.slice (some ⟨w.heap.size, 0, none⟩) n n) (w.alloc (.cells (madeCells (Array.replicate 16 (Value.int .u32 0)) (n * 16)) 50)) := fun w => by
    have := run_make (P := Try.prog) w 85 50 i0 _ Try.underlying85 hi hz0 .i64 .i64 n n (by omega) (Int.le_refl _) (by rw [hz2]; omega) (by omega)
    simpa [hz1, Value.cells] using this
  clear hi hz0 hz1 hz2
  go_enter Try.func16, Try.ntmps16
  go_wp2
  go_ret
  refine ⟨w.heap.size + 1, w.heap.size, rfl, by omega, by omega, ⟨⟨n, ?_⟩, by omega, by simp, h0, h1, ?_⟩, ((But.refl _ _).alloc _).alloc _⟩
  · have e : (w.alloc (.cells (madeCells (Array.replicate 16 (Value.int .u32 0)) (n * 16)) 50)).heap.size = w.heap.size + 1 := by simp
    rw [← e]
    exact cell_one_new _ _ _ 0 _ rfl
  · exact (new_blk w n _).keep ((But.refl [] _).alloc _) (by simp)
theorem new_no (n : Int) (w : World) (h : n < 1 ∨ 256 < n) :
    Calls Try.prog 16 #[.int .i64 n] w fun e w' => e = .returned (.pointer none) ∧ w = w' := by
  go_enter Try.func16, Try.ntmps16
  by_cases h1 : n < 1
  · go_wp2
    go_ret
    exact ⟨rfl, rfl⟩
  · have h2 : 256 < n := by omega
    clear h
    go_wp2
    go_ret
    exact ⟨rfl, rfl⟩

/-- A row of words of the call's own (so many cells an element): where it lies, what it holds. -/
theorem own_blk {w : World} {base n size : Nat} {e : TypeId} {v : Value} {xs : List Int} (h : w.ownsRow base e size v n (xs.map (Value.int .u32))) (hn : 0 < n) :
    ∃ g cap, v = .slice (some ⟨g, 0, none⟩) n cap ∧ base ≤ g ∧ g < w.heap.size ∧ Blk w g xs := by
  obtain ⟨hl, h | ⟨g, cap, cur, rfl, hg, hh, hnc, hcm, hsz, htk⟩⟩ := h
  · exact absurd h.2 (by omega)
  · refine ⟨g, cap, rfl, hg, ?_, fun j hj => ?_⟩
    · rcases Nat.lt_or_ge g w.heap.size with hlt | hge
      · exact hlt
      · rw [Array.getElem?_eq_none hge] at hh; cases hh
    · have hj' : (xs.map (Value.int .u32))[j]? = some (.int .u32 (xs.getD j 0)) := by simp [List.getD, hj]
      rw [← htk, List.getElem?_take] at hj'
      split at hj'
      · refine ⟨?_, by simp [World.frozen?, hh]⟩
        simp only [World.cell?, hh]
        simpa using hj'
      · cases hj'

theorem clone_c (bp n cap : Nat) (xs : List Int) (w : World) (h0 : 0 < n) (hm : n ≤ 256) (hl : xs.length = 16 * n) (hb : Blk w bp xs) :
    Calls Try.prog 32 #[.slice (some ⟨bp, 0, none⟩) n cap] w fun e w' => ∃ g c, e = .returned (.slice (some ⟨g, 0, none⟩) n c) ∧ w.heap.size ≤ g ∧ Blk w' g xs ∧ But [] w w' := by
  obtain ⟨i0, hi, hz0, hz1, hz2⟩ := info_parts Try.infoPg
  have HI : Hid (Try.prog.info? 50 = some i0) := hi
  have HZ0 : Hid (i0.zero = some (.agg (Array.replicate 16 (.int .u32 0)))) := hz0
  have HZ1 : Hid (i0.size = 16) := hz1
  have HZ2 : Hid (i0.bytes = 64) := hz2
  have HL : Hid (xs.length = 16 * n) := hl
  have HB : Hid (Blk w bp xs) := hb
  clear hi hz0 hz1 hz2 hl hb
  go_enter Try.func32, Try.ntmps32
  have hsn := @Lib.run_eql_slice_nil Try.prog
  have hmade : Hid ((w.alloc (.cells #[] 50)).ownsRow w.heap.size 50 16 (.slice (some ⟨w.heap.size, 0, none⟩) 0 0) 0 []) := World.ownsRow_made w #[] 0 (Nat.le_refl _) (Nat.zero_le _) rfl
  have hnews : Hid (∀ j u, (xs.map (Value.int .u32))[j]? = some u → (w.alloc (.cells #[] 50)).cell? ((⟨bp, 0, none⟩ : Addr).add j) = some u) := by
    show ∀ j u, _ → _
    intro j u hu
    have hj : j < xs.length := by have := (List.getElem?_eq_some_iff.1 hu).1; rwa [List.length_map] at this
    have hk := (HB.out.keep ((But.refl [] w).alloc (.cells #[] 50)) (by simp) j hj).1
    rw [Addr.add_mid, Nat.zero_add, hk, ← hu]
    simp [List.getD, hj]
  have hone : Hid (∀ u ∈ xs.map (Value.int .u32), u.oneCell' = true) := by
    show ∀ u ∈ _, _
    intro u hu
    obtain ⟨x, _, rfl⟩ := List.mem_map.1 hu
    rfl
  have hlen : Hid ((xs.map (Value.int .u32)).length = n * 16) := by show _ = _; rw [List.length_map, HL.out]; omega
  go_wp2_with (first
    | (at_builtin; refine wpList_append_own _ rfl _ _ 85 rfl w.heap.size 50 i0 (.agg (Array.replicate 16 (.int .u32 0))) 16 64 Try.underlying85 HI.out HZ0.out HZ1.out HZ2.out rfl (by decide) _ 0 [] rfl hmade.out ⟨bp, 0, none⟩ n cap (xs.map (Value.int .u32)) rfl hlen.out hnews.out hone.out ?c3 ?c4 ?c5 ?_))
  case c3 => unfold maxLen; omega
  case c4 => omega
  case c5 => simp
  intro v' w2 hown hgrow _
  have hB : Hid (But [] w w2) := ((But.refl [] w).alloc _).grown hgrow (fun k hk => by
    simp [Value.ownBlock] at hk
    right; omega)
  obtain ⟨g, c, hv, hg, _, hblk⟩ := own_blk hown h0
  rw [hv]
  clear hown hgrow hv
  go_wp2
  go_ret
  exact ⟨g, c, rfl, hg, hblk, hB.out⟩

theorem twin_c (bm bp n : Nat) (xs : List Int) (w : World) (h : MemAt w bm bp n xs) :
    Calls Try.prog 12 #[.pointer (some ⟨bm, 0, none⟩)] w fun e w' => ∃ cm cp, e = .returned (.pointer (some ⟨cm, 0, none⟩)) ∧ w.heap.size ≤ cm ∧ w.heap.size ≤ cp ∧ MemAt w' cm cp n xs ∧ But [] w w' := by
  obtain ⟨cap, hc⟩ := h.head
  have H : Hid (MemAt w bm bp n xs) := h
  clear h
  go_enter Try.func12, Try.ntmps12
  go_wp2_with fail
  refine (clone_c bp n cap xs _ H.out.pos H.out.most H.out.len H.out.blk).mono ?_
  rintro e w1 ⟨g, c, rfl, hg, hblk, hb⟩
  have HB : Hid (But [] w w1) := hb
  have HK : Hid (Blk w1 g xs) := hblk
  have hz := hb.size
  clear hb hblk hc
  go_wp2
  go_ret
  have hgl : g < w1.heap.size := HK.out.lt (by have := H.out.len; have := H.out.pos; omega)
  refine ⟨w1.heap.size, g, rfl, hz, hg, ⟨⟨c, cell_one_new _ _ _ 0 _ rfl⟩, by omega, H.out.len, H.out.pos, H.out.most, HK.out.keep ((But.refl [] _).alloc _) (by simp)⟩, HB.out.alloc _⟩
theorem twin_nil (w : World) :
    Calls Try.prog 12 #[.pointer none] w fun e w' => e = .returned (.pointer none) ∧ w = w' := by
  go_enter Try.func12, Try.ntmps12
  go_wp2
  go_ret
  exact ⟨rfl, rfl⟩

/-- Are the sixteen words from k on the same in both? -/
def sameP (xs ys : List Int) (k : Nat) : Bool := decide (∀ i ∈ List.range 16, xs.getD (k + i) 0 = ys.getD (k + i) 0)
theorem run_eqItems_ints {P : Program} {w : World} {e : TypeId} (hu : P.underlying e = some (.int .u32)) (hp : P.plainKey e = true) (X Y : Array Value) (f g : Nat → Int) (d : Nat) : ∀ (is : List Nat), (∀ i ∈ is, X[i * 1]? = some (.int .u32 (f i))) → (∀ i ∈ is, Y[i * 1]? = some (.int .u32 (g i))) →
    (Op.eqItems (d + 1) e 1 X Y is).run P w = .ok (decide (∀ i ∈ is, f i = g i)) w
  | [], _, _ => by simp [Op.eqItems]
  | i :: is, hX, hY => by
    have ih := run_eqItems_ints hu hp X Y f g d is (fun j hj => hX j (by simp [hj])) (fun j hj => hY j (by simp [hj])) (w := w)
    simp only [Op.eqItems, Sem.run_bind, run_part_plain w hp (hX i (by simp)), run_part_plain w hp (hY i (by simp)), Result.andThen_ok, run_equalIn_int w d e .u32 .u32 (f i) (g i) hu]
    by_cases hfg : f i = g i
    · simp [hfg, ih]
    · simp [hfg]
theorem Try.plainU32 : Try.prog.plainKey 24 = true := by kernel_rfl
theorem Try.cellsU32 : Try.prog.cellsOf 24 = 1 := by kernel_rfl
theorem eqPage (xs ys : List Int) (k : Nat) (w : World) : (Op.equalIn 10000 50 (.agg (pgv xs k).toArray) (.agg (pgv ys k).toArray)).run Try.prog w = .ok (sameP xs ys k) w := by
  obtain ⟨i0, hi, _⟩ : ∃ i0, Try.prog.info? 24 = some i0 ∧ True := by
    have : (Try.prog.info? 24).isSome = true := by kernel_rfl
    obtain ⟨i0, h⟩ := Option.isSome_iff_exists.1 this
    exact ⟨i0, h, trivial⟩
  rw [run_equalIn_array w 9999 (pgv xs k).toArray (pgv ys k).toArray Try.underlying50 hi, Try.cellsU32,
    run_eqItems_ints Try.underlying24 Try.plainU32 _ _ (fun i => xs.getD (k + i) 0) (fun i => ys.getD (k + i) 0) 9998 (List.range 16)
      (fun i hi => by rw [Nat.mul_one]; simpa using pgv_get xs k i (List.mem_range.1 hi)) (fun i hi => by rw [Nat.mul_one]; simpa using pgv_get ys k i (List.mem_range.1 hi))]
  rfl

/-- Are all frames below m the same in both, but those of the numbers bs? -/
def othM (m : Nat) (xs ys : List Int) (bs : List Int) : Bool := decide (∀ f, f < m → ((f : Int) ∈ bs) ∨ sameP xs ys (f * 16) = true)
theorem othM_succ (m : Nat) (xs ys : List Int) (bs : List Int) (h : othM m xs ys bs = true) (hm : ((m : Int) ∈ bs) ∨ sameP xs ys (m * 16) = true) : othM (m + 1) xs ys bs = true := by
  simp only [othM, decide_eq_true_eq] at h ⊢
  intro f hf
  rcases Nat.lt_or_ge f m with h1 | h1
  · exact h f h1
  · obtain rfl : f = m := by omega
    exact hm
theorem othM_false (m n : Nat) (xs ys : List Int) (bs : List Int) (hmn : m < n) (h1 : (m : Int) ∉ bs) (h2 : sameP xs ys (m * 16) = false) : othM n xs ys bs = false := by
  simp only [othM, decide_eq_false_iff_not]
  intro h
  rcases h m hmn with h | h
  · exact h1 h
  · rw [h2] at h; cases h

set_option maxHeartbeats 1000000 in
theorem others_c (bm bp cm cp n : Nat) (xs ys : List Int) (A : Option Addr) (c : Nat) (bs : List Int) (w : World) (ha : MemAt w bm bp n xs) (hb : MemAt w cm cp n ys) (hr : Rd .i64 w 0 w.heap.size A bs) (hbs : bs.length ≤ 1000) :
    Calls Try.prog 15 #[.pointer (some ⟨bm, 0, none⟩), .pointer (some ⟨cm, 0, none⟩), .slice A bs.length c] w fun e w' => e = .returned (.bool (othM n xs ys bs)) ∧ But [] w w' := by
  have HA : Hid (MemAt w bm bp n xs) := ha
  have HB : Hid (MemAt w cm cp n ys) := hb
  have HR : Hid (Rd .i64 w 0 w.heap.size A bs) := hr
  have hn := ha.most
  obtain ⟨nb, hnb⟩ : ∃ nb, nb = bs.length := ⟨_, rfl⟩
  rw [← hnb]
  rw [← hnb] at hbs
  have HN : Hid (nb = bs.length) := hnb
  clear ha hb hr hnb
  go_enter Try.func15, Try.ntmps15
  go_wp2
  go_step3
  go_wp2_with fail
  refine (len_c bm bp n xs _ HA.out).mono ?_
  rintro e w1 ⟨rfl, rfl⟩
  go_wp2_with fail
  refine (len_c cm cp n ys _ HB.out).mono ?_
  rintro e w1 ⟨rfl, rfl⟩
  go_wp2
  go_step3
  go_wp2_with fail
  refine (len_c bm bp n xs _ HA.out).mono ?_
  rintro e w1 ⟨rfl, rfl⟩
  go_wp2
  go_loopg [17] n (fun g i wx => ∃ m : Nat, m + g = n ∧ i = .int .i64 m ∧ Hid (othM m xs ys bs = true) ∧ But [] w wx)
  case atStart => exact ⟨0, by omega, rfl, by show _ = _; simp [othM], But.refl _ _⟩
  case round =>
    obtain ⟨m, hmg, rfl, HM, hbx⟩ := hrel
    have HX : Hid (But [] w wr) := hbx
    clear hbx
    by_cases hlt : m < n
    · obtain ⟨ca, hca⟩ := (HA.out.keep HX.out (by simp) (by simp)).head
      obtain ⟨cb, hcb⟩ := (HB.out.keep HX.out (by simp) (by simp)).head
      go_wp2
      go_loopg [22] nb (fun g2 j wy => ∃ k : Nat, k + g2 = nb ∧ j = .int .i64 k ∧ Hid ((m : Int) ∉ bs.take k) ∧ wy = wr)
      case atStart => exact ⟨0, by omega, rfl, by show (m : Int) ∉ bs.take 0; simp, rfl⟩
      case round =>
        obtain ⟨k, hkg, rfl, HK, rfl⟩ := hrel
        by_cases hk : k < nb
        · have hlx : k < bs.length := by have := HN.out; omega
          obtain ⟨b, off, hA, _, hbl, hcell⟩ := HR.out.at_ hlx
          obtain ⟨q, hq⟩ : ∃ q, q = bs.getD k 0 := ⟨_, rfl⟩
          have hc1 : wr.cell? ⟨b, off + k, none⟩ = some (.int .i64 q) := by rw [hq]; exact (HX.out.cell (p := ⟨b, off + k, none⟩) hbl (by simp)).trans (hcell k hlx)
          subst hA
          have HQ : Hid (q = bs.getD k 0) := hq
          have HT : Hid (bs.take (k + 1) = bs.take k ++ [q]) := by
            show _ = _
            rw [List.take_add_one, HQ.out]
            simp [List.getD, hlx]
          clear hcell hq
          by_cases hmq : (m : Int) = q
          · have HE : Hid ((m : Int) ∈ bs) := by
              show (m : Int) ∈ bs
              rw [hmq, HQ.out]
              simp [List.getD, hlx]
            subst hmq
            go_wp2
            go_roundg (n - (m + 1))
            case measure => omega
            case rel => exact ⟨m + 1, by omega, by go_num, othM_succ m xs ys bs HM.out (.inl HE.out), HX.out⟩
          · go_wp2
            go_roundg (nb - (k + 1))
            case measure => omega
            case rel => exact ⟨k + 1, by omega, by go_num, by
              show (m : Int) ∉ bs.take (k + 1)
              rw [HT.out]
              simp only [List.mem_append, List.mem_singleton, not_or]
              exact ⟨HK.out, hmq⟩, rfl⟩
        · obtain rfl : k = nb := by omega
          have HE : Hid ((m : Int) ∉ bs) := by
            show (m : Int) ∉ bs
            have := HK.out
            rwa [HN.out, List.take_length] at this
          have hkx : m * 16 + 16 ≤ xs.length := by have := HA.out.len; omega
          have hky : m * 16 + 16 ≤ ys.length := by have := HB.out.len; omega
          have HRA : Hid (wr.drew.rangeAt bp (m * 16) (pgv xs (m * 16))) := (World.rangeAt_drew _ _ _ _).2 ((HA.out.keep HX.out (by simp) (by simp)).blk.range hkx)
          have HRB : Hid (wr.drew.rangeAt cp (m * 16) (pgv ys (m * 16))) := (World.rangeAt_drew _ _ _ _).2 ((HB.out.keep HX.out (by simp) (by simp)).blk.range hky)
          have heq := eqPage xs ys (m * 16)
          clear hkx hky
          go_wp2
          refine wp_region_still_lit (by kernel_rfl) (by kernel_rfl) ?_
          repeat (first
            | (refine wpStill_load_mid rfl 50 _ rfl bp (m * 16) rfl (pgv xs (m * 16)) _ HRA.out Try.underlying50 rfl (pgv_info _ _) ?_)
            | (refine wpStill_load_mid rfl 50 _ rfl cp (m * 16) rfl (pgv ys (m * 16)) _ HRB.out Try.underlying50 rfl (pgv_info _ _) ?_)
            | still_step)
          refine wpStill_nil ?_
          cases hs : sameP xs ys (m * 16) with
          | false =>
            have HF : Hid (othM n xs ys bs = false) := othM_false m n xs ys bs hlt HE.out hs
            clear hs heq
            go_wp2
            rw [Exit.noGoto_ret]
            go_ret
            exact ⟨by rw [HF.out]; rfl, HX.out.drew⟩
          | true =>
            have HT : Hid (othM (m + 1) xs ys bs = true) := othM_succ m xs ys bs HM.out (.inr hs)
            clear hs heq
            go_wp2
            go_roundg (n - (m + 1))
            case measure => omega
            case rel => exact ⟨m + 1, by omega, by go_num, HT.out, HX.out.drew⟩
    · obtain rfl : m = n := by omega
      go_wp2
      rw [Exit.noGoto_ret]
      go_ret
      exact ⟨by rw [HM.out]; rfl, HX.out⟩
theorem others_nil (w : World) :
    Calls Try.prog 15 #[.pointer none, .pointer none, .slice none 0 0] w fun e w' => e = .returned (.bool true) ∧ w = w' := by
  go_enter Try.func15, Try.ntmps15
  go_wp2
  go_step3
  go_wp2_with fail
  refine (len_nil _).mono ?_
  rintro e w1 ⟨rfl, rfl⟩
  go_wp2_with fail
  refine (len_nil _).mono ?_
  rintro e w1 ⟨rfl, rfl⟩
  go_wp2
  go_step3
  go_wp2_with fail
  refine (len_nil _).mono ?_
  rintro e w1 ⟨rfl, rfl⟩
  go_wp2
  go_loopg [17] 0 (fun g i wx => i = .int .i64 0 ∧ w = wx)
  case atStart => exact ⟨rfl, rfl⟩
  case round =>
    obtain ⟨rfl, rfl⟩ := hrel
    go_wp2
    rw [Exit.noGoto_ret]
    go_ret
    exact ⟨rfl, rfl⟩
end Go.Proofs.Ytjlcncdhlcpklaa.Fr
