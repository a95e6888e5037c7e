/- Changes behind a sync, and what On leaves of them. No memory. No condition. -/
import Derived.Test.YtgnomopiofpknaaChn
namespace Go.Proofs.Ytgnomopiofpknaa

/-- Powered, with no fuse. -/
structure Live (S : Dk) : Prop where
  off : S.off = false
  fuse : S.fuse = -1
theorem Live.burn {S : Dk} (h : Live S) (i : Nat) (x : Fl) : S.burn i x = (0, S.put i x) := by
  unfold Dk.burn
  rw [if_neg (by rw [h.fuse]; decide)]
  have e : ({ S with fuse := if 0 < S.fuse then S.fuse - 1 else S.fuse } : Dk) = S := by
    rw [if_neg (by rw [h.fuse]; decide)]
  rw [e]
theorem Live.put {S : Dk} (h : Live S) (i : Nat) (x : Fl) : Live (S.put i x) := by
  unfold Dk.put
  split
  · exact ⟨h.off, h.fuse⟩
  · exact ⟨h.off, h.fuse⟩
/-- Behind changes: what is sure is as it was, and no more is loose than they brought. -/
structure Chgd (S0 : Dk) (k : Nat) (S : Dk) : Prop where
  live : Live S
  most : S.most = S0.most
  f : S.f.sure = S0.f.sure
  g : S.g.sure = S0.g.sure
  uf : usum S.f.loose ≤ usum S0.f.loose + k
  ug : usum S.g.loose ≤ usum S0.g.loose + k
  cnt : S.cnt ≤ S0.cnt + k
theorem Chgd.refl {S : Dk} (h : Live S) : Chgd S 0 S := ⟨h, rfl, rfl, rfl, Nat.le_refl _, Nat.le_refl _, Nat.le_refl _⟩
theorem Chgd.add {S0 S : Dk} {k n : Nat} (C : Chgd S0 k S) (h1 : 1 ≤ n) {i : Nat} (c : Chg) (hu : units c ≤ n) : Chgd S0 (k + n) (S.put i ((S.at i).add c)) := by
  have hl := C.live.put i ((S.at i).add c)
  obtain ⟨_, m, f, g, uf, ug, cn⟩ := C
  unfold Dk.cnt at cn
  unfold Dk.put Dk.at at *
  split
  · refine ⟨by simpa [*] using hl, m, f, g, ?_, by simp only; omega, ?_⟩
    · simp only [Fl.add, usum_app, usum, if_true]; omega
    · simp only [Dk.cnt, Fl.add, List.length_append, List.length_singleton, if_true]; omega
  · rename_i hi
    refine ⟨by simpa [hi] using hl, m, f, g, by simp only; omega, ?_, ?_⟩
    · simp only [Fl.add, usum_app, usum, hi, if_false]; omega
    · simp only [Dk.cnt, Fl.add, List.length_append, List.length_singleton, hi, if_false]; omega
theorem Chgd.same {S0 S : Dk} {k n : Nat} (C : Chgd S0 k S) : Chgd S0 (k + n) S := ⟨C.live, C.most, C.f, C.g, by have := C.uf; omega, by have := C.ug; omega, by have := C.cnt; omega⟩
theorem Chgd.change {S0 S : Dk} {k : Nat} (C : Chgd S0 k S) (s : StepD) : Chgd S0 (k + wt s) (S.change s) := by
  unfold Dk.change
  split
  · unfold Dk.write
    split
    · exact C.same
    · split
      · exact C.same
      · rw [C.live.burn]
        exact C.add (by unfold wt; omega) _ (by unfold wt; simp only [units]; omega)
  · unfold Dk.cut
    split
    · exact C.same
    · split
      · exact C.same
      · rw [C.live.burn]
        exact C.add (by unfold wt; omega) _ (by unfold wt; simp only [units]; omega)
theorem Live.sync {S : Dk} (h : Live S) {i : Nat} (hi : i = 0 ∨ i = 1) : S.sync (i : Int) = (0, S.put i (S.at i).settle) := by
  unfold Dk.sync
  rw [if_neg (fun q => q (Dk.ask_on h.off hi)), h.burn]
  rfl
theorem Live.read {S : Dk} (h : Live S) {i : Nat} (hi : i = 0 ∨ i = 1) : S.read (i : Int) = ((S.at i).at, 0) := by
  unfold Dk.read
  rw [if_neg (fun q => q (Dk.ask_on h.off hi))]
  rfl
/-- All is kept by great picks. -/
theorem lose_great {x : Fl} {k : Int} (h : (usum x.loose : Int) ≤ k) : (x.lose k).at = x.at := by
  show appl (appl x.sure (loseL k x.loose)) [] = _
  rw [appl_nil, lose_all _ _ h]
  rfl
/-- Nothing is kept without one. -/
theorem lose_none (x : Fl) : (x.lose 0).at = x.sure := by
  show appl (appl x.sure (loseL 0 x.loose)) [] = _
  rw [appl_nil, appl_lose, doneS_zero _ _ _ (Int.le_refl 0)]
end Go.Proofs.Ytgnomopiofpknaa
