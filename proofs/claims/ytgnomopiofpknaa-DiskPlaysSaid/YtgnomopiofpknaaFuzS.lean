/- A disk with a fuse: so many calls are done. No memory. No condition. -/
import Derived.Test.YtgnomopiofpknaaWorks
namespace Go.Proofs.Ytgnomopiofpknaa

/-- Behind k calls, with a fuse of n. -/
structure FzAt (n k : Nat) (S : Dk) : Prop where
  most : S.most = 4096
  ok : S.Ok
  len : S.f.at.length + S.g.at.length ≤ k
  cnt : S.cnt ≤ k
  on : k ≤ n → S.off = false ∧ S.fuse = ((n - k : Nat) : Int)
  of : n < k → S.off = true
def fzA (n k : Nat) : Int := if k < n then 0 else 8
theorem FzAt.burn {n k : Nat} {S : Dk} (Z : FzAt n k S) (hk : k ≤ n) {i : Nat} (hi : i = 0 ∨ i = 1) {x : Fl} (hx : x.Ok S.most) (hl : x.at.length ≤ (S.at i).at.length + 1) (hc : x.loose.length ≤ (S.at i).loose.length + 1) :
    (S.burn i x).1 = fzA n k ∧ FzAt n (k + 1) (S.burn i x).2 := by
  obtain ⟨h1, h2⟩ := Z.on hk
  have hcnt := S.cnt_burn i x hc
  have hok := Z.ok.burn i hx
  have hlen := Z.len
  have hm := Z.most
  have hcn := Z.cnt
  unfold Dk.burn at *
  by_cases h0 : S.fuse = 0
  · rw [if_pos h0] at hcnt hok ⊢
    have : k = n := by omega
    subst this
    refine ⟨by simp [fzA], hm, hok, ?_, by omega, fun h => by omega, fun _ => rfl⟩
    show S.f.at.length + S.g.at.length ≤ _
    omega
  · rw [if_neg h0] at hcnt hok ⊢
    have hf : 0 < S.fuse := by omega
    refine ⟨by simp only [fzA]; rw [if_pos (by omega)], ?_, hok, ?_, by omega, fun h => ?_, fun h => by omega⟩
    · rcases hi with rfl | rfl <;> exact hm
    · rcases hi with rfl | rfl
      · have hl' : x.at.length ≤ S.f.at.length + 1 := hl
        show x.at.length + S.g.at.length ≤ _
        omega
      · have hl' : x.at.length ≤ S.g.at.length + 1 := hl
        show S.f.at.length + x.at.length ≤ _
        omega
    · have e : (if 0 < S.fuse then S.fuse - 1 else S.fuse) = ((n - (k + 1) : Nat) : Int) := by rw [if_pos hf]; omega
      rcases hi with rfl | rfl
      · exact ⟨h1, e⟩
      · exact ⟨h1, e⟩
theorem Dk.ask_off {S : Dk} (h : S.off = true) (f : Int) : S.ask f = 8 := by unfold Dk.ask; rw [if_pos h]
theorem Dk.ask_on {S : Dk} (h : S.off = false) {i : Nat} (hi : i = 0 ∨ i = 1) : S.ask (i : Int) = 0 := by
  unfold Dk.ask
  rw [if_neg (by simp [h]), if_neg (by omega)]
section
variable {n k : Nat} {S : Dk} (Z : FzAt n k S)
include Z
theorem FzAt.gone {f : Int} (hk : n < k) : fzA n k = 8 ∧ S.ask f = 8 ∧ FzAt n (k + 1) S :=
  ⟨by unfold fzA; rw [if_neg (by omega)], Dk.ask_off (Z.of hk) f, Z.most, Z.ok, by have := Z.len; omega, by have := Z.cnt; omega, fun h => by omega, fun _ => Z.of hk⟩
theorem FzAt.write {i : Nat} (hi : i = 0 ∨ i = 1) (hk : k < 1024) {b : Nat} (hb : b < 256) : (S.write (i : Int) [b]).1 = fzA n k ∧ FzAt n (k + 1) (S.write (i : Int) [b]).2 := by
  unfold Dk.write
  rcases Nat.lt_or_ge n k with h | h
  · obtain ⟨h1, h2, h3⟩ := Z.gone (f := i) h
    rw [h1, h2, if_pos (by omega)]
    exact ⟨rfl, h3⟩
  · rw [if_neg (fun q => q (Dk.ask_on (Z.on h).1 hi)), if_neg (by
      have := Z.len
      have := Z.most
      simp only [List.length_singleton, Dk.room]
      omega)]
    have hl := Z.len
    have hm := Z.most
    have hat : (S.at i).at.length ≤ k := by
      rcases hi with rfl | rfl
      · show S.f.at.length ≤ k; omega
      · show S.g.at.length ≤ k; omega
    refine Z.burn h hi ((Z.ok.at_ _).addw (allB_one hb) (by simp only [Int.toNat_natCast, List.length_singleton]; omega)) ?_ ?_
    · rw [Fl.at_add]; simp [doC]
    · simp [Fl.add]
theorem FzAt.cut {i : Nat} (hi : i = 0 ∨ i = 1) : (S.cut (i : Int) 0).1 = fzA n k ∧ FzAt n (k + 1) (S.cut (i : Int) 0).2 := by
  unfold Dk.cut
  rcases Nat.lt_or_ge n k with h | h
  · obtain ⟨h1, h2, h3⟩ := Z.gone (f := i) h
    rw [h1, h2, if_pos (by omega)]
    exact ⟨rfl, h3⟩
  · rw [if_neg (fun q => q (Dk.ask_on (Z.on h).1 hi)), if_neg (by omega)]
    refine Z.burn h hi ((Z.ok.at_ _).addc (Nat.zero_le _)) ?_ ?_
    · rw [Fl.at_add]; simp [doC]
    · simp [Fl.add]
theorem FzAt.sync {i : Nat} (hi : i = 0 ∨ i = 1) : (S.sync (i : Int)).1 = fzA n k ∧ FzAt n (k + 1) (S.sync (i : Int)).2 := by
  unfold Dk.sync
  rcases Nat.lt_or_ge n k with h | h
  · obtain ⟨h1, h2, h3⟩ := Z.gone (f := i) h
    rw [h1, h2, if_pos (by omega)]
    exact ⟨rfl, h3⟩
  · rw [if_neg (fun q => q (Dk.ask_on (Z.on h).1 hi))]
    refine Z.burn h hi (Z.ok.at_ _).settle ?_ ?_
    · show (appl (S.at i).at []).length ≤ _
      rw [appl_nil]; omega
    · simp [Fl.settle]
theorem FzAt.two : S.write 2 [] = ((if n < k then 8 else 1), S) := by
  unfold Dk.write
  rcases Nat.lt_or_ge n k with h | h
  · rw [Dk.ask_off (Z.of h), if_pos (by omega), if_pos h]
  · have : S.ask 2 = 1 := by
      unfold Dk.ask
      rw [if_neg (by simp [(Z.on h).1]), if_pos (by omega)]
    rw [this, if_pos (by omega), if_neg (by omega)]
theorem FzAt.read : (S.read 0).2 = if n < k then 8 else 0 := by
  unfold Dk.read
  rcases Nat.lt_or_ge n k with h | h
  · rw [Dk.ask_off (Z.of h), if_pos (by omega), if_pos h]
  · have : S.ask 0 = 0 := Dk.ask_on (Z.on h).1 (i := 0) (.inl rfl)
    rw [this, if_neg (by omega), if_neg (by omega)]
end
theorem fzAt_start (n : Nat) (h : n ≤ 9223372036854775807) : FzAt n 0 ((newD 4096).setFuse n).2 := by
  have e : ((newD 4096).setFuse n).2 = { newD 4096 with fuse := (n : Int) } := by
    unfold Dk.setFuse
    rw [if_neg (by decide)]
    show ({ newD 4096 with fuse := max (n : Int) (-1) } : Dk) = _
    rw [show max (n : Int) (-1) = n by omega]
  rw [e]
  exact ⟨rfl, { newD_ok (m := 4096) (by decide) with fuse := by simp only; omega }, Nat.le_refl _, Nat.le_refl _, fun _ => ⟨rfl, by simp⟩, fun h => by omega⟩
end Go.Proofs.Ytgnomopiofpknaa
