/- What calls of a vault and of a disk add to what is loose. No memory. No condition. -/
import Derived.Test.YtjcphpmlekfhdaaGreatDoorDoS
import Derived.Test.YtjcphpmlekfhdaaGreatDoorGk
namespace Go.Proofs.YtjcphpmlekfhdaaGreatDoor

structure Inc (m : Nat) (S T : Dk) : Prop where
  cnt : T.cnt ≤ S.cnt + m
  uses : T.uses ≤ S.uses + m * (S.most + 1)
  most : T.most = S.most
section
variable {m k : Nat} {S T U : Dk}
theorem Inc.refl (S : Dk) : Inc 0 S S := ⟨Nat.le_refl _, by omega, rfl⟩
theorem Inc.trans (h : Inc m S T) (h2 : Inc k T U) : Inc (m + k) S U := by
  refine ⟨by have := h.cnt; have := h2.cnt; omega, ?_, h2.most.trans h.most⟩
  have a := h.uses
  have b := h2.uses
  rw [h.most] at b
  rw [Nat.add_mul]
  omega
theorem Inc.mono (h : Inc m S T) (hk : m ≤ k) : Inc k S T := by
  refine ⟨by have := h.cnt; omega, ?_, h.most⟩
  have a := h.uses
  have := Nat.mul_le_mul_right (S.most + 1) hk
  omega
theorem inc_burn (S : Dk) (i : Nat) (x : Fl) (hc : x.loose.length ≤ (S.at i).loose.length + 1) (hu : usum x.loose ≤ usum (S.at i).loose + (S.most + 1)) : Inc 1 S (S.burn i x).2 :=
  ⟨Dk.cnt_burn S i x hc, by have := rburn_uses S i x hu; omega, rburn_most S i x⟩
theorem inc_cut (S : Dk) (f n : Int) : Inc 1 S (S.cut f n).2 := by
  unfold Dk.cut
  split
  · exact (Inc.refl S).mono (by omega)
  · split
    · exact (Inc.refl S).mono (by omega)
    · exact inc_burn S _ _ (by simp [Fl.add]) (by simp only [Fl.add, usum_app, usum, units]; omega)
theorem inc_sync (S : Dk) (f : Int) : Inc 1 S (S.sync f).2 := by
  unfold Dk.sync
  split
  · exact (Inc.refl S).mono (by omega)
  · exact inc_burn S _ _ (by simp [Fl.settle]) (by simp [Fl.settle, usum])
theorem inc_write (S : Dk) (f : Int) (b : List Nat) : Inc 1 S (S.write f b).2 := by
  unfold Dk.write
  split
  · exact (Inc.refl S).mono (by omega)
  · split
    · exact (Inc.refl S).mono (by omega)
    · rename_i hr
      have hrm : S.room ≤ S.most := by unfold Dk.room; omega
      exact inc_burn S _ _ (by simp [Fl.add]) (by simp only [Fl.add, usum_app, usum, units]; omega)
theorem inc_cutTo (S : Dk) (f : Int) (n m : Nat) : Inc 1 S (S.cutTo f n m).2 := by
  unfold Dk.cutTo
  split
  · exact (Inc.refl S).mono (by omega)
  · exact inc_cut S f m
theorem inc_seq : ∀ (l : List (Dk → Int × Dk)), (∀ f ∈ l, ∀ S, Inc 1 S (f S).2) → ∀ S, Inc l.length S (seqS l S).2
  | [], _, S => Inc.refl S
  | f :: l, h, S => by
    have h1 := h f (List.mem_cons_self ..) S
    show Inc _ S (if (f S).1 = 0 then seqS l (f S).2 else f S).2
    split
    · have := h1.trans (inc_seq l (fun g hg => h g (List.mem_cons_of_mem _ hg)) (f S).2)
      rw [List.length_cons, Nat.add_comm l.length 1]
      exact this
    · exact h1.mono (by simp)
theorem inc_open (S : Dk) : Inc 4 S (openS S).2.1 := by
  unfold openS
  split
  · exact (Inc.refl S).mono (by omega)
  · split
    · refine (inc_seq (beginL _ _) (fun f hf S => ?_) S).mono (show 4 ≤ 4 from Nat.le_refl 4)
      unfold beginL at hf
      simp only [List.mem_cons, List.not_mem_nil, or_false] at hf
      rcases hf with rfl | rfl | rfl | rfl
      · exact inc_cutTo _ _ _ _
      · exact inc_cutTo _ _ _ _
      · exact inc_write _ _ _
      · exact inc_sync _ _
    · refine (inc_seq _ (fun f hf S => ?_) S).mono (by unfold openL; simp)
      unfold openL at hf
      simp only [List.mem_cons, List.not_mem_nil, or_false] at hf
      rcases hf with rfl | rfl | rfl
      · exact inc_cutTo _ _ _ _
      · exact inc_sync _ _
      · exact inc_cutTo _ _ _ _
theorem inc_add (failed : Bool) (file gen count : Nat) (l : List (List Nat)) (S : Dk) : Inc 4 S (addT failed file gen count l S).2.1 := by
  unfold addT
  split
  · unfold addS
    split
    · exact (Inc.refl S).mono (by omega)
    · split
      · exact (Inc.refl S).mono (by omega)
      · refine (inc_seq _ (fun f hf S => ?_) S).mono (by simp)
        simp only [List.mem_cons, List.not_mem_nil, or_false] at hf
        rcases hf with rfl | rfl
        · exact inc_write _ _ _
        · exact inc_sync _ _
  · exact (Inc.refl S).mono (by omega)
theorem inc_compact (failed : Bool) (file gen count : Nat) (l : List (List Nat)) (S : Dk) : Inc 4 S (compactT failed file gen count l S).2.1 := by
  unfold compactT
  split
  · unfold compactS
    split
    · exact (Inc.refl S).mono (by omega)
    · split
      · exact (Inc.refl S).mono (by omega)
      · split
        · exact (Inc.refl S).mono (by omega)
        · have h : ∀ f n1 o B, Inc 4 S (seqS (compactL f o n1 B) S).2 := fun f n1 o B => (inc_seq (compactL f o n1 B) (fun f hf S => by
            unfold compactL at hf
            simp only [List.mem_cons, List.not_mem_nil, or_false] at hf
            rcases hf with rfl | rfl | rfl | rfl
            · exact inc_cutTo _ _ _ _
            · exact inc_write _ _ _
            · exact inc_sync _ _
            · exact inc_cut _ _ _) S).mono (show 4 ≤ 4 from Nat.le_refl 4)
          dsimp only
          split
          · exact h _ _ _ _
          · exact h _ _ _ _
  · exact (Inc.refl S).mono (by omega)
theorem step_most (S : Dk) (s : StepD) : (S.step s).most = S.most := by
  unfold Dk.step
  split
  · exact (inc_cut _ _ _).most
  split
  · exact (inc_sync _ _).most
  split
  · rfl
  split
  · unfold Dk.setFuse
    split <;> rfl
  split
  · unfold Dk.goOff
    split <;> rfl
  split
  · unfold Dk.goOn
    split <;> rfl
  · exact (inc_write _ _ _).most
/-- What Add and Compact leave of a vault's numbers. -/
theorem add_num {failed : Bool} {file gen count : Nat} {l : List (List Nat)} {S : Dk} : (addT failed file gen count l S).2.2.1 ≤ count + l.length := by
  unfold addT
  split
  · unfold addS
    split
    · exact Nat.le_add_right _ _
    · split
      · exact Nat.le_add_right _ _
      · dsimp only
        split
        · exact Nat.le_refl _
        · exact Nat.le_add_right _ _
  · exact Nat.le_add_right _ _
theorem compact_num {failed : Bool} {file gen count : Nat} {l : List (List Nat)} {S : Dk} (hf : file ≤ 1) (h1 : 1 ≤ gen) (h2 : gen ≤ 4611686018427387904) :
    (compactT failed file gen count l S).2.2.1 ≤ 1 ∧ 1 ≤ (compactT failed file gen count l S).2.2.2.1 ∧ (compactT failed file gen count l S).2.2.2.1 ≤ 4611686018427387904 ∧ (compactT failed file gen count l S).2.2.2.2.1 ≤ count + l.length := by
  unfold compactT
  split
  · unfold compactS
    split
    · exact ⟨hf, h1, h2, Nat.le_add_right _ _⟩
    · split
      · exact ⟨hf, h1, h2, Nat.le_add_right _ _⟩
      · split
        · exact ⟨hf, h1, h2, Nat.le_add_right _ _⟩
        · dsimp only
          split
          · exact ⟨by show 1 - file ≤ 1; omega, by show 1 ≤ gen + 1; omega, by show gen + 1 ≤ _; omega, by show l.length ≤ _; omega⟩
          · exact ⟨hf, h1, h2, Nat.le_add_right _ _⟩
  · exact ⟨hf, h1, h2, Nat.le_add_right _ _⟩
end
end Go.Proofs.YtjcphpmlekfhdaaGreatDoor
