/- DiskKeeps: what two files are while pieces are written. No memory. No condition. -/
import Derived.Test.YtgnomopiofpknaaEndS
namespace Go.Proofs.Ytgnomopiofpknaa

abbrev Pcs := List (List Nat)
theorem appl_ws : ∀ (l : Pcs) (s : List Nat), appl s (l.map Chg.w) = s ++ l.flatten
  | [], s => by simp [appl]
  | x :: l, s => by rw [List.map_cons, appl_cons, appl_ws l]; simp [doC]
theorem doneS_ws : ∀ (l : Pcs) (s : List Nat) (u : Int), doneS s (l.map Chg.w) u = s ++ l.flatten.take u.toNat
  | [], s, u => by simp [doneS]
  | x :: l, s, u => by
    rw [List.map_cons]
    unfold doneS
    by_cases h : u ≤ 0
    · rw [if_pos h, show u.toNat = 0 by omega]; simp
    · rw [if_neg h]
      show doneS (s ++ x.take (min u.toNat x.length)) (l.map Chg.w) (u - (min u.toNat x.length : Nat)) = _
      rw [doneS_ws l, List.flatten_cons, List.append_assoc]
      congr 1
      rw [List.take_append]
      rcases Nat.lt_or_ge u.toNat x.length with h2 | h2
      · rw [Nat.min_eq_left (by omega)]
        congr 1
        rw [show (u - (u.toNat : Nat)).toNat = 0 by omega, show u.toNat - x.length = 0 by omega]
      · rw [Nat.min_eq_right (by omega), List.take_of_length_le (by omega : x.length ≤ u.toNat), List.take_length]
        congr 2
        omega
/-- A file of which i pieces of a and l are written. -/
structure Ph (x : Fl) (a l : Pcs) (i : Nat) : Prop where
  fst : i ≤ a.length → x.at = (a.take i).flatten
  snd : a.length < i → x.sure = a.flatten ∧ x.loose = (l.take (i - a.length)).map Chg.w
  cnt : x.loose.length ≤ i
structure Fin (x : Fl) (a l : Pcs) : Prop where
  sure : x.sure = a.flatten
  loose : x.loose = l.map Chg.w
theorem Ph.nil (a l : Pcs) : Ph ⟨[], []⟩ a l 0 := ⟨fun _ => by simp [Fl.at, appl], fun h => absurd h (by omega), Nat.le_refl _⟩
theorem take_flat {a : Pcs} {i : Nat} (h : i < a.length) : (a.take (i + 1)).flatten = (a.take i).flatten ++ a[i] := by
  rw [List.take_add_one, List.getElem?_eq_getElem h, Option.toList_some, List.flatten_append, List.flatten_cons, List.flatten_nil, List.append_nil]
section
variable {x : Fl} {a l : Pcs} {i : Nat}
theorem Ph.one (h : Ph x a l i) (hi : i < a.length) : Ph (x.add (.w a[i])) a l (i + 1) := by
  refine ⟨fun _ => ?_, fun h2 => absurd h2 (by omega), ?_⟩
  · rw [Fl.at_add, h.fst (by omega), take_flat hi]; rfl
  · have := h.cnt
    simp only [Fl.add, List.length_append, List.length_singleton]; omega
theorem Ph.turn (h : Ph x a l a.length) : x.settle = ⟨a.flatten, []⟩ := by
  unfold Fl.settle
  rw [h.fst (Nat.le_refl _), List.take_length]
theorem Ph.two (h : Ph x a l a.length) (hl : 0 < l.length) : Ph (x.settle.add (.w l[0])) a l (a.length + 1) := by
  rw [h.turn]
  refine ⟨fun h2 => absurd h2 (by omega), fun _ => ⟨rfl, ?_⟩, by simp [Fl.add]⟩
  rw [Nat.add_sub_cancel_left, List.take_add_one, List.getElem?_eq_getElem hl]
  simp [Fl.add]
theorem Ph.more (h : Ph x a l i) (h1 : a.length < i) (h2 : i < a.length + l.length) : Ph (x.add (.w (l[i - a.length]'(by omega)))) a l (i + 1) := by
  obtain ⟨e1, e2⟩ := h.snd h1
  refine ⟨fun h3 => absurd h3 (by omega), fun _ => ⟨e1, ?_⟩, ?_⟩
  · show x.loose ++ [_] = _
    rw [e2, show i + 1 - a.length = (i - a.length) + 1 by omega, List.take_add_one, List.getElem?_eq_getElem (by omega), Option.toList_some, List.map_append]
    rfl
  · have := h.cnt
    simp only [Fl.add, List.length_append, List.length_singleton]; omega
theorem Ph.fin (h : Ph x a l (a.length + l.length)) (hl : 0 < l.length) : Fin x a l := by
  obtain ⟨e1, e2⟩ := h.snd (by omega)
  refine ⟨e1, ?_⟩
  rw [e2, Nat.add_sub_cancel_left, List.take_length]
theorem Ph.fin0 (h : Ph x a [] a.length) : Fin x.settle a [] := by
  rw [h.turn]
  exact ⟨rfl, rfl⟩
theorem Fin.at (h : Fin x a l) : x.at = a.flatten ++ l.flatten := by
  unfold Fl.at
  rw [h.sure, h.loose, appl_ws]
theorem Ph.at (h : Ph x a l i) : x.at = (a.take i).flatten ++ (l.take (i - a.length)).flatten := by
  rcases Nat.lt_or_ge a.length i with h1 | h1
  · obtain ⟨e1, e2⟩ := h.snd h1
    unfold Fl.at
    rw [e1, e2, appl_ws, List.take_of_length_le (by omega : a.length ≤ i)]
  · rw [h.fst h1, show i - a.length = 0 by omega]
    simp
end
/-- What is lost by a pick. -/
theorem Fin.lost {x : Fl} {a l : Pcs} (h : Fin x a l) (k : Int) : (x.lose k).at = a.flatten ++ l.flatten.take k.toNat := by
  show appl (appl x.sure (loseL k x.loose)) [] = _
  rw [appl_nil, appl_lose, h.sure, h.loose, doneS_ws]
/-- The pieces of file k behind f whole files and i pieces of file f. -/
def aN (a : Nat → Pcs) (f i k : Nat) : Pcs := if k < f then a k else if k = f then (a k).take i else []
def lN (a l : Nat → Pcs) (f i k : Nat) : Pcs := if k < f then l k else if k = f then (l k).take (i - (a k).length) else []
def sN (a : Nat → Pcs) (f i k : Nat) : List Nat := (aN a f i k).flatten
def tN (a l : Nat → Pcs) (f i k : Nat) : List Nat := (lN a l f i k).flatten
def tot (a l : Nat → Pcs) (f i : Nat) : Nat := (sN a f i 0).length + (tN a l f i 0).length + ((sN a f i 1).length + (tN a l f i 1).length)
structure KpS (a l : Nat → Pcs) (S : Dk) (f i : Nat) : Prop where
  live : Live S
  most : S.most = 16384
  done : ∀ k, k < 2 → k < f → Fin (S.at k) (a k) (l k)
  now : f < 2 → Ph (S.at f) (a f) (l f) i
  next : ∀ k, k < 2 → f < k → S.at k = ⟨[], []⟩
section
variable {a l : Nat → Pcs} {S : Dk} {f i : Nat}
theorem at_put (S : Dk) {f k : Nat} (hf : f < 2) (hk : k < 2) (x : Fl) : (S.put f x).at k = if k = f then x else S.at k := by
  rcases (by omega : f = 0 ∨ f = 1) with rfl | rfl <;> rcases (by omega : k = 0 ∨ k = 1) with rfl | rfl <;> rfl
theorem put_most (S : Dk) (f : Nat) (x : Fl) : (S.put f x).most = S.most := by
  unfold Dk.put
  split <;> rfl
theorem KpS.put (h : KpS a l S f i) (hf : f < 2) {x : Fl} {j : Nat} (hx : Ph x (a f) (l f) j) : KpS a l (S.put f x) f j := by
  refine ⟨h.live.put f x, by rw [put_most]; exact h.most, fun k hk hkf => ?_, fun _ => ?_, fun k hk hkf => ?_⟩
  · rw [at_put S hf hk, if_neg (by omega)]; exact h.done k hk hkf
  · rw [at_put S hf hf, if_pos rfl]; exact hx
  · rw [at_put S hf hk, if_neg (by omega)]; exact h.next k hk hkf
theorem KpS.step (h : KpS a l S f i) (hf : f < 2) {x : Fl} (hx : Fin x (a f) (l f)) : KpS a l (S.put f x) (f + 1) 0 := by
  refine ⟨h.live.put f x, by rw [put_most]; exact h.most, fun k hk hkf => ?_, fun h2 => ?_, fun k hk hkf => ?_⟩
  · rw [at_put S hf hk]
    split
    · rename_i e; subst e; exact hx
    · exact h.done k hk (by omega)
  · rw [at_put S hf h2, if_neg (by omega), h.next _ h2 (by omega)]
    exact Ph.nil _ _
  · rw [at_put S hf hk, if_neg (by omega)]; exact h.next k hk (by omega)
theorem put_same (S : Dk) {f : Nat} : S.put f (S.at f) = S := by
  unfold Dk.put Dk.at
  split <;> rfl
theorem KpS.step' (h : KpS a l S f ((a f).length + (l f).length)) (hf : f < 2) (hl : 0 < (l f).length) : KpS a l S (f + 1) 0 := by
  have := h.step hf ((h.now hf).fin hl)
  rwa [put_same] at this
theorem KpS.new (m : Nat) (hm : m = 16384) : KpS a l (newD m) 0 0 :=
  ⟨⟨rfl, rfl⟩, hm, fun k _ h => absurd h (by omega), fun _ => Ph.nil _ _, fun k hk h => by
    rcases (by omega : k = 0 ∨ k = 1) with rfl | rfl
    · omega
    · rfl⟩
theorem KpS.len (h : KpS a l S f i) {k : Nat} (hk : k < 2) : (S.at k).at.length = (sN a f i k).length + (tN a l f i k).length := by
  unfold sN tN aN lN
  rcases Nat.lt_trichotomy k f with h1 | h1 | h1
  · rw [if_pos h1, if_pos h1, (h.done k hk h1).at, List.length_append]
  · subst h1
    rw [if_neg (by omega), if_pos rfl, if_neg (by omega), if_pos rfl, (h.now hk).at, List.length_append]
  · rw [if_neg (by omega), if_neg (by omega), if_neg (by omega), if_neg (by omega), h.next k hk h1]
    rfl
theorem KpS.lens (h : KpS a l S f i) : S.f.at.length + S.g.at.length = tot a l f i := by
  have h0 := h.len (k := 0) (by omega)
  have h1 := h.len (k := 1) (by omega)
  simp only [Dk.at, if_true] at h0
  rw [show S.at 1 = S.g from rfl] at h1
  unfold tot
  omega
theorem KpS.room (h : KpS a l S f i) : S.room = 16384 - tot a l f i := by
  have := h.lens
  unfold Dk.room
  rw [h.most]
  omega
theorem KpS.cnt (h : KpS a l S f i) (ha : ∀ k, k < f → (a k).length + (l k).length ≤ 60) (hi : i ≤ 60) : S.cnt ≤ 120 := by
  have each : ∀ k, k < 2 → (S.at k).loose.length ≤ 60 := fun k hk => by
    rcases Nat.lt_trichotomy k f with h1 | h1 | h1
    · rw [(h.done k hk h1).loose, List.length_map]
      have := ha k h1
      omega
    · subst h1
      exact Nat.le_trans (h.now hk).cnt hi
    · rw [h.next k hk h1]
      exact Nat.zero_le _
  have h0 := each 0 (by omega)
  have h1 := each 1 (by omega)
  rw [show S.at 0 = S.f from rfl] at h0
  rw [show S.at 1 = S.g from rfl] at h1
  unfold Dk.cnt
  omega
theorem Live.write (h : Live S) {i : Nat} (hi : i = 0 ∨ i = 1) {b : List Nat} (hb : b.length ≤ S.room) : S.write (i : Int) b = (0, S.put i ((S.at i).add (.w b))) := by
  unfold Dk.write
  rw [if_neg (fun q => q (Dk.ask_on h.off hi)), if_neg (by omega), h.burn]
  rfl
/-- The piece that is written as number i of file f. -/
def piece (a l : Nat → Pcs) (f i : Nat) : List Nat := if h : i < (a f).length then (a f)[i] else (l f).getD (i - (a f).length) []
/-- What stands in the two boxes' cells: of s at f the piece more, or of t. -/
theorem sN_next (hi : i < (a f).length) (k : Nat) : sN a f (i + 1) k = if k = f then sN a f i k ++ piece a l f i else sN a f i k := by
  unfold sN aN piece
  rcases Nat.lt_trichotomy k f with h1 | h1 | h1
  · have h2 : ¬ k = f := by omega
    simp only [h1, h2, ↓reduceIte]
  · subst h1
    simp only [Nat.lt_irrefl, ↓reduceIte, dif_pos hi]
    exact take_flat hi
  · have h2 : ¬ k = f := by omega
    have h3 : ¬ k < f := by omega
    simp only [h2, h3, ↓reduceIte]
theorem sN_same (hi : (a f).length ≤ i) (k : Nat) : sN a f (i + 1) k = sN a f i k := by
  unfold sN aN
  rcases Nat.lt_trichotomy k f with h1 | h1 | h1
  · rw [if_pos h1, if_pos h1]
  · subst h1
    rw [if_neg (by omega), if_pos rfl, if_neg (by omega), if_pos rfl, List.take_of_length_le (by omega), List.take_of_length_le (by omega)]
  · rw [if_neg (by omega), if_neg (by omega), if_neg (by omega), if_neg (by omega)]
theorem tN_next (h1 : (a f).length ≤ i) (h2 : i < (a f).length + (l f).length) (k : Nat) : tN a l f (i + 1) k = if k = f then tN a l f i k ++ piece a l f i else tN a l f i k := by
  unfold tN lN piece
  rcases Nat.lt_trichotomy k f with h3 | h3 | h3
  · have h4 : ¬ k = f := by omega
    simp only [h3, h4, ↓reduceIte]
  · subst h3
    have h5 : ¬ i < (a k).length := by omega
    simp only [Nat.lt_irrefl, ↓reduceIte, dif_neg h5]
    rw [show i + 1 - (a k).length = (i - (a k).length) + 1 by omega, take_flat (by omega), List.getD_eq_getElem?_getD, List.getElem?_eq_getElem (by omega)]
    rfl
  · have h4 : ¬ k = f := by omega
    have h5 : ¬ k < f := by omega
    simp only [h4, h5, ↓reduceIte]
theorem tN_same (hi : i < (a f).length) (k : Nat) : tN a l f (i + 1) k = tN a l f i k := by
  unfold tN lN
  rcases Nat.lt_trichotomy k f with h1 | h1 | h1
  · rw [if_pos h1, if_pos h1]
  · subst h1
    rw [if_neg (by omega), if_pos rfl, if_neg (by omega), if_pos rfl, show i + 1 - (a k).length = 0 by omega, show i - (a k).length = 0 by omega]
  · rw [if_neg (by omega), if_neg (by omega), if_neg (by omega), if_neg (by omega)]
theorem tot_next (hf : f < 2) (hi : i < (a f).length + (l f).length) : tot a l f (i + 1) = tot a l f i + (piece a l f i).length := by
  unfold tot
  rcases Nat.lt_or_ge i (a f).length with h | h
  · rw [sN_next (l := l) h, sN_next (l := l) h, tN_same h, tN_same h]
    rcases (by omega : f = 0 ∨ f = 1) with rfl | rfl
    · rw [if_pos rfl, if_neg (by decide), List.length_append]; omega
    · rw [if_neg (by decide), if_pos rfl, List.length_append]; omega
  · rw [sN_same h, sN_same h, tN_next h hi, tN_next h hi]
    rcases (by omega : f = 0 ∨ f = 1) with rfl | rfl
    · rw [if_pos rfl, if_neg (by decide), List.length_append]; omega
    · rw [if_neg (by decide), if_pos rfl, List.length_append]; omega
/-- Behind the last piece the next file begins. -/
theorem sN_step (a : Nat → Pcs) {n : Nat} (hn : (a f).length ≤ n) (k : Nat) : sN a (f + 1) 0 k = sN a f n k := by
  unfold sN aN
  rcases Nat.lt_trichotomy k f with h1 | h1 | h1
  · have h2 : k < f + 1 := by omega
    simp only [h1, h2, ↓reduceIte]
  · subst h1
    simp only [Nat.lt_irrefl, Nat.lt_succ_self, ↓reduceIte, List.take_of_length_le hn]
  · have h2 : ¬ k < f + 1 := by omega
    have h3 : ¬ k < f := by omega
    have h4 : ¬ k = f := by omega
    simp only [h2, h3, h4, ↓reduceIte, List.take_zero]
    split <;> rfl
theorem tN_step (a l : Nat → Pcs) (k : Nat) : tN a l (f + 1) 0 k = tN a l f ((a f).length + (l f).length) k := by
  unfold tN lN
  rcases Nat.lt_trichotomy k f with h1 | h1 | h1
  · have h2 : k < f + 1 := by omega
    simp only [h1, h2, ↓reduceIte]
  · subst h1
    simp only [Nat.lt_irrefl, Nat.lt_succ_self, ↓reduceIte, Nat.add_sub_cancel_left, List.take_length]
  · have h2 : ¬ k < f + 1 := by omega
    have h3 : ¬ k < f := by omega
    have h4 : ¬ k = f := by omega
    simp only [h2, h3, h4, ↓reduceIte, Nat.zero_sub, List.take_zero]
    split <;> rfl
theorem tot_step (a l : Nat → Pcs) : tot a l (f + 1) 0 = tot a l f ((a f).length + (l f).length) := by
  unfold tot
  rw [sN_step a (Nat.le_add_right _ _), sN_step a (Nat.le_add_right _ _), tN_step, tN_step]
end
end Go.Proofs.Ytgnomopiofpknaa
