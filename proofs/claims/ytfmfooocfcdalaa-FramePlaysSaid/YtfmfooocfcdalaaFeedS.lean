/- What is fed, byte by byte, and part by part: lists alone. No condition. -/
import Derived.Test.YtfmfooocfcdalaaParts
namespace Go.Proofs.Ytfmfooocfcdalaa

/-- Lines so far, what is held, whether it is over. -/
abbrev St := List (List Nat) × List Nat × Bool
def stepB (st : St) (x : Nat) : St :=
  if st.2.2 then st else if x = 10 then (st.1 ++ [st.2.1], [], false) else if st.2.1.length = 65536 then (st.1, [], true) else (st.1, st.2.1 ++ [x], false)
def feedS (st : St) (L : List Nat) : St := L.foldl stepB st
def stepP (st : St) (c : List Nat × Bool) : St := if c.2 then stepB (feedS st c.1) 10 else feedS st c.1
def content (L : List Nat) (x : Piece) : List Nat × Bool := ((L.drop x.1).take x.2.1, x.2.2)
def toldS (st : St) (L : List Nat) (pre : List Told) : St := (pre.map fun x => content L x.2).foldl stepP st

theorem feedS_app (st : St) (L M : List Nat) : feedS st (L ++ M) = feedS (feedS st L) M := by simp [feedS]
theorem feedS_over (ls : List (List Nat)) (m : List Nat) : ∀ L, feedS (ls, m, true) L = (ls, m, true)
  | [] => rfl
  | x :: l => by
    have := feedS_over ls m l
    simpa [feedS, stepB] using this
theorem feedS_room (ls : List (List Nat)) : ∀ (c M : List Nat), (∀ x ∈ c, x ≠ 10) → M.length + c.length ≤ 65536 → feedS (ls, M, false) c = (ls, M ++ c, false)
  | [], M, _, _ => by simp [feedS]
  | x :: l, M, h, hl => by
    have hx := h x (by simp)
    simp only [List.length_cons] at hl
    have ih := feedS_room ls l (M ++ [x]) (fun y hy => h y (by simp [hy])) (by simp; omega)
    have e : stepB (ls, M, false) x = (ls, M ++ [x], false) := by
      unfold stepB
      rw [if_neg (by simp), if_neg hx, if_neg (by show ¬ M.length = 65536; omega)]
    show feedS (stepB (ls, M, false) x) l = _
    rw [e, ih]
    simp
theorem feedS_full (ls : List (List Nat)) : ∀ (c M : List Nat), (∀ x ∈ c, x ≠ 10) → M.length ≤ 65536 → 65536 < M.length + c.length → feedS (ls, M, false) c = (ls, [], true)
  | [], M, _, h1, h2 => by simp at h2; omega
  | x :: l, M, h, h1, h2 => by
    have hx := h x (by simp)
    simp only [List.length_cons] at h2
    show feedS (stepB (ls, M, false) x) l = _
    by_cases hM : M.length = 65536
    · have e : stepB (ls, M, false) x = (ls, [], true) := by
        unfold stepB
        rw [if_neg (by simp), if_neg hx, if_pos hM]
      rw [e, feedS_over]
    · have e : stepB (ls, M, false) x = (ls, M ++ [x], false) := by
        unfold stepB
        rw [if_neg (by simp), if_neg hx, if_neg hM]
      rw [e]
      exact feedS_full ls l (M ++ [x]) (fun y hy => h y (by simp [hy])) (by simp; omega) (by simp; omega)
theorem stepP_over (ls : List (List Nat)) (m : List Nat) (c : List Nat × Bool) : stepP (ls, m, true) c = (ls, m, true) := by
  unfold stepP
  rw [feedS_over]
  split <;> simp [stepB]
theorem stepsP_over (ls : List (List Nat)) (m : List Nat) : ∀ cs : List (List Nat × Bool), cs.foldl stepP (ls, m, true) = (ls, m, true)
  | [] => rfl
  | c :: cs => by simp only [List.foldl_cons, stepP_over]; exact stepsP_over ls m cs

theorem parts_feed (L : List Nat) : ∀ (f p : Nat) (st : St), p ≤ L.length → L.length + 1 ≤ f + p → ((partsAt f L p).map (content L)).foldl stepP st = feedS st (L.drop p)
  | 0, p, st, h1, h2 => by omega
  | f + 1, p, st, h1, h2 => by
    cases h : posN (L.drop p) with
    | none =>
      rw [partsAt_none h]
      simp only [List.map_cons, List.map_nil, List.foldl_cons, List.foldl_nil, content, stepP]
      rw [List.take_of_length_le (by simp)]
      simp
    | some k =>
      obtain ⟨a1, a2, a3⟩ := posN_some h
      rw [List.length_drop] at a1
      rw [partsAt_some h]
      simp only [List.map_cons, List.foldl_cons]
      rw [parts_feed L f (p + k + 1) _ (by omega) (by omega)]
      have e : L.drop p = (L.drop p).take k ++ 10 :: L.drop (p + k + 1) := by
        have h1 := (List.take_append_drop k (L.drop p)).symm
        rw [a2, List.drop_drop] at h1
        rw [Nat.add_assoc]
        exact h1
      conv => rhs; rw [e]
      rw [feedS_app]
      rfl
theorem parts_in_list (L : List Nat) : ∀ (f p : Nat), p ≤ L.length → ∀ x ∈ partsAt f L p, x.1 + x.2.1 ≤ L.length ∧ ∀ y ∈ (content L x).1, y ≠ 10
  | 0, p, _, x, hx => by cases hx
  | f + 1, p, h1, x, hx => by
    cases h : posN (L.drop p) with
    | none =>
      rw [partsAt_none h] at hx
      obtain rfl := List.mem_singleton.1 hx
      exact ⟨by simp; omega, fun y hy => posN_none h y (List.mem_of_mem_take hy)⟩
    | some k =>
      obtain ⟨a1, a2, a3⟩ := posN_some h
      rw [List.length_drop] at a1
      rw [partsAt_some h] at hx
      rcases List.mem_cons.1 hx with rfl | hx
      · exact ⟨by simp; omega, a3⟩
      · exact parts_in_list L f (p + k + 1) (by omega) x hx

theorem partsAt_length (L : List Nat) : ∀ (f p : Nat), (partsAt f L p).length ≤ f
  | 0, _ => Nat.le_refl _
  | f + 1, p => by
    cases h : posN (L.drop p) with
    | none => rw [partsAt_none h]; simp
    | some k =>
      rw [partsAt_some h]
      have := partsAt_length L f (p + k + 1)
      simp only [List.length_cons]; omega
theorem tells_length {A : Option Addr} {L : List Nat} {pre : List Told} (h : Tells A L pre) : pre.length ≤ L.length + 1 := by
  obtain ⟨⟨t, ht⟩, _⟩ := h
  have h1 := congrArg List.length ht
  rw [List.length_append, List.length_map] at h1
  have := partsAt_length L (L.length + 1) 0
  have h2 : (partsOf L).length ≤ L.length + 1 := this
  omega
theorem toldS_snoc (st : St) (L : List Nat) (pre : List Told) (x : Told) : toldS st L (pre ++ [x]) = stepP (toldS st L pre) (content L x.2) := by simp [toldS]
theorem toldS_map (st : St) (L : List Nat) (pre : List Told) : toldS st L pre = ((pre.map Prod.snd).map (content L)).foldl stepP st := by simp [toldS, List.map_map, Function.comp_def]
theorem toldS_all {A : Option Addr} {st : St} {L : List Nat} {pre : List Told} (h : TellsAll A L pre) : toldS st L pre = feedS st L := by
  rw [toldS_map, h.1]
  exact parts_feed L (L.length + 1) 0 st (Nat.zero_le _) (by omega)
theorem toldS_stop {A : Option Addr} {st : St} {L : List Nat} {pre : List Told} {ls : List (List Nat)} {m : List Nat} (h : Tells A L pre) (e : toldS st L pre = (ls, m, true)) : feedS st L = (ls, m, true) := by
  obtain ⟨⟨t, ht⟩, _⟩ := h
  have := parts_feed L (L.length + 1) 0 st (Nat.zero_le _) (by omega)
  rw [List.drop_zero] at this
  rw [← this, show partsAt (L.length + 1) L 0 = pre.map Prod.snd ++ t from ht.symm, List.map_append, List.foldl_append, ← toldS_map, e, stepsP_over]
theorem tells_piece {A : Option Addr} {L : List Nat} {pre : List Told} {x : Told} (h : Tells A L (pre ++ [x])) : x.2.1 + x.2.2.1 ≤ L.length ∧ ∀ y ∈ (content L x.2).1, y ≠ 10 := by
  obtain ⟨⟨t, ht⟩, _⟩ := h
  refine parts_in_list L (L.length + 1) 0 (Nat.zero_le _) x.2 ?_
  rw [show partsAt (L.length + 1) L 0 = (pre ++ [x]).map Prod.snd ++ t from ht.symm]
  simp
theorem tells_reads {A : Option Addr} {n c : Nat} {L : List Nat} {pre : List Told} {x : Told} {W : World} (h : Tells A L (pre ++ [x])) (hL : Bs W A n L) (hc : n ≤ c) : Bs W x.1 x.2.2.1 (content L x.2).1 := by
  have h1 := (tells_piece h).1
  have h2 := h.2 x (by simp)
  rw [hL.len] at h1
  by_cases hk : x.2.2.1 = 0
  · show Bs W x.1 x.2.2.1 ((L.drop x.2.1).take x.2.2.1)
    rw [hk, List.take_zero]
    exact Bs.nil _ _
  · have := hL.cut (k := x.2.1) (m := x.2.2.1) h1 hc
    rw [if_neg (by omega)] at this
    rw [h2 (by omega)]
    exact this
end Go.Proofs.Ytfmfooocfcdalaa
