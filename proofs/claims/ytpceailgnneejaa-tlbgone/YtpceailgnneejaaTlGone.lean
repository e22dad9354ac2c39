/-
  Layer 5 (tlb): what TlbGone needs beside: no two entries of one page; where an entry that stays comes to stand.
-/
import Derived.Test.YtpceailgnneejaaTlFlat
namespace Go.Proofs.Ytpceailgnneejaa
open Go.RowKit
set_option linter.unusedVariables false

/-- No two are of one page. -/
def Dis (l : List En) : Prop := l.Pairwise fun a b => ¬ (a.s = b.s ∧ a.p = b.p)
theorem Dis.stay {l : List En} (h : Dis l) (g : En → Bool) : Dis (stay g l) := List.Pairwise.sublist List.filter_sublist h
theorem Dis.room {l : List En} (h : Dis l) : Dis (roomL l) := by
  unfold roomL
  split
  · exact List.Pairwise.sublist (List.eraseIdx_sublist _ _) h
  · exact h
theorem room_mem {l : List En} {x : En} (h : x ∈ roomL l) : x ∈ l := by
  unfold roomL at h
  split at h
  · exact (List.eraseIdx_sublist _ _).subset h
  · exact h
theorem Dis.put {l : List En} (h : Dis l) (e : En) : Dis (putL l e) := by
  unfold putL Dis
  rw [List.pairwise_append]
  refine ⟨(h.stay _).room, List.pairwise_singleton _ _, fun a ha b hb => ?_⟩
  have hm := List.mem_filter.1 (room_mem ha)
  rw [List.mem_singleton] at hb
  subst hb
  intro hsp
  have := hm.2
  simp [isE, hsp.1, hsp.2] at this
theorem Dis.get {l : List En} (h : Dis l) {i j : Nat} (hij : j < i) (hi : i < l.length) : ¬ ((l.getD i en0).s = (l.getD j en0).s ∧ (l.getD i en0).p = (l.getD j en0).p) := by
  have h1 := List.pairwise_iff_getElem.1 h j i (by omega) hi hij
  have e1 : l.getD i en0 = l[i] := by simp [List.getD, hi]
  have e2 : l.getD j en0 = l[j] := by simp [List.getD, show j < l.length by omega]
  rw [e1, e2]
  intro ⟨a, b⟩
  exact h1 ⟨a.symm, b.symm⟩
theorem stay_split (g : En → Bool) (l : List En) (k : Nat) (hk : k < l.length) (hg : g (l.getD k en0) = false) : stay g l = stay g (l.take k) ++ l.getD k en0 :: stay g (l.drop (k + 1)) := by
  conv => lhs; rw [← List.take_append_drop k l, drop_at l k hk]
  simp only [stay, List.filter_append, List.filter_cons, hg, Bool.not_false, if_true]
theorem stay_at (g : En → Bool) (l : List En) (k : Nat) (hk : k < l.length) (e : En) (he : l.getD k en0 = e) (hg : g e = false) : (stay g (l.take k)).length < (stay g l).length ∧ (stay g l).getD (stay g (l.take k)).length en0 = e := by
  rw [stay_split g l k hk (by rw [he]; exact hg), he]
  exact ⟨by simp, by simp [List.getD]⟩
theorem stay_stay (g : En → Bool) (l : List En) : stay g (stay g l) = stay g l := by simp [stay, List.filter_filter]
theorem stay_take_len (g : En → Bool) (l : List En) (k : Nat) : (stay g (l.take k)).length ≤ k := Nat.le_trans (stay_len _ _) (by rw [List.length_take]; omega)
end Go.Proofs.Ytpceailgnneejaa
