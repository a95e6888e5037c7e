/- Histories in one word: letters, digits, what is hashed, which histories may be. No program here. -/
import Derived.Test.YtipbpecihbmneaaDoorB
import Derived.Lib.ItoaMem
import Derived.Lib.ItoaLen
namespace Go.Proofs.YtipbpecihbmneaaDoor

def letterN (x : Nat) : Nat := if x < 10 then 48 + x else 87 + x
theorem letterN_lt {x : Nat} (h : x < 16) : letterN x < 256 := by unfold letterN; split <;> omega
theorem letterN_inj {x y : Nat} (h : x < 16) (k : y < 16) (e : letterN x = letterN y) : x = y := by
  unfold letterN at e
  split at e <;> split at e <;> omega
/-- The letters of bytes. -/
def hexL : List Nat → List Nat
  | [] => []
  | x :: l => letterN (x / 16) :: letterN (x % 16) :: hexL l
theorem hexL_app : ∀ L M, hexL (L ++ M) = hexL L ++ hexL M
  | [], _ => rfl
  | x :: l, M => by simp [hexL, hexL_app l M]
theorem hexL_length : ∀ L, (hexL L).length = 2 * L.length
  | [] => rfl
  | x :: l => by simp [hexL, hexL_length l]; omega
theorem hexL_byt : ∀ {L}, AllB L → AllB (hexL L)
  | [], _ => allB_nil
  | x :: l, h => by
    have h1 := h x (by simp)
    have h2 : AllB l := fun y hy => h y (by simp [hy])
    have := hexL_byt h2
    intro y hy
    simp only [hexL, List.mem_cons] at hy
    rcases hy with rfl | rfl | hy
    · exact letterN_lt (by omega)
    · exact letterN_lt (by omega)
    · exact this y hy
theorem hexL_inj : ∀ {L M}, AllB L → AllB M → hexL L = hexL M → L = M
  | [], [], _, _, _ => rfl
  | [], _ :: _, _, _, e => by simp [hexL] at e
  | _ :: _, [], _, _, e => by simp [hexL] at e
  | x :: l, y :: m, h, k, e => by
    simp only [hexL, List.cons.injEq] at e
    obtain ⟨e1, e2, e3⟩ := e
    have hx := h x (by simp)
    have hy := k y (by simp)
    have q1 := letterN_inj (x := x / 16) (y := y / 16) (by omega) (by omega) e1
    have q2 := letterN_inj (x := x % 16) (y := y % 16) (by omega) (by omega) e2
    have q3 := hexL_inj (fun z hz => h z (by simp [hz])) (fun z hz => k z (by simp [hz])) e3
    rw [q3, show x = y by omega]

/-- A number's digits. -/
def digN (n : Int) : List Nat := (Lib.itoa n).map UInt8.toNat
theorem dec_mem {u : Nat} : ∀ x ∈ Lib.decDigits u, 48 ≤ x.toNat ∧ x.toNat ≤ 57 := by
  induction u using Nat.strongRecOn with
  | _ u ih =>
    intro x hx
    rw [Lib.decDigits] at hx
    split at hx
    · rename_i h
      rw [List.mem_singleton] at hx
      subst hx
      rw [UInt8.toNat_ofNat', Nat.mod_eq_of_lt (by omega)]
      omega
    · rename_i h
      rcases List.mem_append.1 hx with hx | hx
      · exact ih (u / 10) (by omega) x hx
      · rw [List.mem_singleton] at hx
        subst hx
        rw [UInt8.toNat_ofNat', Nat.mod_eq_of_lt (by omega)]
        omega
def valD (l : List UInt8) : Nat := l.foldl (fun a x => 10 * a + (x.toNat - 48)) 0
theorem valD_dec (u : Nat) : valD (Lib.decDigits u) = u := by
  induction u using Nat.strongRecOn with
  | _ u ih =>
    rw [Lib.decDigits]
    split
    · rename_i h
      show 10 * 0 + ((UInt8.ofNat (48 + u)).toNat - 48) = u
      rw [UInt8.toNat_ofNat', Nat.mod_eq_of_lt (by omega)]
      omega
    · rename_i h
      have e : valD (Lib.decDigits (u / 10) ++ [UInt8.ofNat (48 + u % 10)]) = 10 * valD (Lib.decDigits (u / 10)) + ((UInt8.ofNat (48 + u % 10)).toNat - 48) := by
        simp [valD, List.foldl_append]
      rw [e, ih (u / 10) (by omega), UInt8.toNat_ofNat', Nat.mod_eq_of_lt (by omega)]
      omega
theorem dec_inj {u v : Nat} (h : Lib.decDigits u = Lib.decDigits v) : u = v := by rw [← valD_dec u, h, valD_dec]
theorem itoa_inj {n m : Int} (h : Lib.itoa n = Lib.itoa m) : n = m := by
  unfold Lib.itoa at h
  have no : ∀ (u v : Nat), 45 :: Lib.decDigits u = Lib.decDigits v → False := fun u v e => by
    have := (dec_mem (u := v) 45 (by rw [← e]; simp)).1
    exact absurd this (by decide)
  split at h <;> split at h
  · injection h with _ h
    have := dec_inj h
    omega
  · exact (no _ _ h).elim
  · exact (no _ _ h.symm).elim
  · have := dec_inj h
    omega
theorem toNats_inj : ∀ {a b : List UInt8}, a.map UInt8.toNat = b.map UInt8.toNat → a = b
  | [], [], _ => rfl
  | [], _ :: _, h => by simp at h
  | _ :: _, [], h => by simp at h
  | x :: a, y :: b, h => by
    simp only [List.map_cons, List.cons.injEq] at h
    rw [UInt8.toNat_inj.1 h.1, toNats_inj h.2]
theorem digN_inj {n m : Int} (h : digN n = digN m) : n = m := itoa_inj (toNats_inj h)
theorem digN_mem {n : Int} : ∀ x ∈ digN n, x < 58 := by
  intro x hx
  obtain ⟨y, hy, rfl⟩ := List.mem_map.1 hx
  unfold Lib.itoa at hy
  split at hy
  · rcases List.mem_cons.1 hy with rfl | hy
    · decide
    · have := (dec_mem y hy).2; omega
  · have := (dec_mem y hy).2; omega
theorem digN_byt (n : Int) : AllB (digN n) := fun x hx => by have := digN_mem x hx; omega

theorem dec_step {u : Nat} (h : 10 ≤ u) : Lib.decDigits u = Lib.decDigits (u / 10) ++ [UInt8.ofNat (48 + u % 10)] := by
  rw [Lib.decDigits, dif_neg (by omega)]
theorem dec_one {u : Nat} (h : u < 10) : Lib.decDigits u = [UInt8.ofNat (48 + u)] := by rw [Lib.decDigits, dif_pos h]
theorem ofN {k : Nat} (h : k < 256) : (UInt8.ofNat k).toNat = k := by rw [UInt8.toNat_ofNat', Nat.mod_eq_of_lt (by omega)]
/-- One digit. -/
theorem digN_one {n : Int} (h0 : 0 ≤ n) (h : n < 10) : digN n = [48 + n.toNat] := by
  obtain ⟨u, rfl⟩ := Int.eq_ofNat_of_zero_le h0
  unfold digN
  rw [Lib.itoa_nonneg, dec_one (by omega)]
  simp only [List.map_cons, List.map_nil, Int.toNat_natCast]
  rw [ofN (by omega)]
/-- The sign. -/
theorem digN_minus {n : Int} (h : n < 0) : digN n = 45 :: digN (-n) := by
  obtain ⟨u, hu⟩ := Int.eq_ofNat_of_zero_le (a := -n) (by omega)
  obtain rfl : n = -(u : Int) := by omega
  unfold digN
  rw [Int.neg_neg, Lib.itoa_nonneg, Lib.itoa_neg u (by omega)]
  rfl
/-- All digits but the last, and the last. -/
theorem digN_step {n : Int} (h : 10 ≤ n ∨ n ≤ -10) : digN n = digN (n.tdiv 10) ++ [48 + (n.tmod 10).natAbs] := by
  rcases h with h | h
  · obtain ⟨u, rfl⟩ := Int.eq_ofNat_of_zero_le (a := n) (by omega)
    have e1 : ((u : Int)).tdiv 10 = ((u / 10 : Nat) : Int) := by rw [Int.tdiv_eq_ediv_of_nonneg (by omega)]; omega
    have e2 : ((u : Int)).tmod 10 = ((u % 10 : Nat) : Int) := by rw [Int.tmod_eq_emod_of_nonneg (by omega)]; omega
    rw [e1, e2]
    unfold digN
    rw [Lib.itoa_nonneg, Lib.itoa_nonneg, dec_step (by omega), List.map_append]
    simp only [List.map_cons, List.map_nil, Int.natAbs_natCast]
    rw [ofN (by omega)]
  · obtain ⟨u, hu⟩ := Int.eq_ofNat_of_zero_le (a := -n) (by omega)
    obtain rfl : n = -(u : Int) := by omega
    have e1 : (-(u : Int)).tdiv 10 = -((u / 10 : Nat) : Int) := by rw [Int.neg_tdiv, Int.tdiv_eq_ediv_of_nonneg (by omega)]; omega
    have e2 : (-(u : Int)).tmod 10 = -((u % 10 : Nat) : Int) := by rw [Int.neg_tmod, Int.tmod_eq_emod_of_nonneg (by omega)]; omega
    rw [e1, e2]
    unfold digN
    rw [Lib.itoa_neg u (by omega), Lib.itoa_neg (u / 10) (by omega), dec_step (by omega), List.map_cons, List.map_append, List.map_cons]
    simp only [List.map_cons, List.map_nil, Int.natAbs_neg, Int.natAbs_natCast, List.cons_append]
    rw [ofN (by omega)]
theorem digN_len (n : Int) (h : -9223372036854775808 ≤ n ∧ n ≤ 9223372036854775807) : (digN n).length ≤ 21 := by
  unfold digN
  rw [List.length_map]
  exact Lib.itoa_length_le n h.1 h.2

/-- An entry: a height, and a transaction's hash. -/
structure En where
  h : Int
  tx : List Nat
def En.Ok (e : En) : Prop := (-9223372036854775808 ≤ e.h ∧ e.h ≤ 9223372036854775807) ∧ e.tx.length = 32 ∧ AllB e.tx
def OkEs (l : List En) : Prop := ∀ e ∈ l, e.Ok
theorem OkEs.tail {e : En} {l : List En} (h : OkEs (e :: l)) : OkEs l := fun x hx => h x (List.mem_cons_of_mem _ hx)
/-- What is hashed of an entry, and of all. -/
def entT (e : En) : List Nat := hexL e.tx.reverse ++ 58 :: (digN e.h ++ [58])
def textS : List En → List Nat
  | [] => []
  | e :: l => entT e ++ textS l
theorem textS_app : ∀ l m, textS (l ++ m) = textS l ++ textS m
  | [], _ => rfl
  | e :: l, m => by simp [textS, textS_app l m]
theorem AllB.revS {L : List Nat} (h : AllB L) : AllB L.reverse := fun x hx => h x (List.mem_reverse.1 hx)
theorem entT_byt {e : En} (h : e.Ok) : AllB (entT e) := AllB.app (hexL_byt h.2.2.revS) (fun x hx => by
  rcases List.mem_cons.1 hx with rfl | hx
  · decide
  · rcases List.mem_append.1 hx with hx | hx
    · exact digN_byt _ x hx
    · rw [List.mem_singleton] at hx; subst hx; decide)
theorem textS_byt : ∀ {l}, OkEs l → AllB (textS l)
  | [], _ => allB_nil
  | e :: l, h => AllB.app (entT_byt (h e (by simp))) (textS_byt h.tail)
theorem split_58 : ∀ {a b x y : List Nat}, (∀ z ∈ a, z < 58) → (∀ z ∈ b, z < 58) → a ++ 58 :: x = b ++ 58 :: y → a = b ∧ x = y
  | [], [], _, _, _, _, e => ⟨rfl, by simpa using e⟩
  | [], c :: b, _, _, _, k, e => by
    have := k c (by simp)
    simp at e
    omega
  | c :: a, [], _, _, h, _, e => by
    have := h c (by simp)
    simp at e
    omega
  | c :: a, d :: b, x, y, h, k, e => by
    simp only [List.cons_append, List.cons.injEq] at e
    obtain ⟨q1, q2⟩ := split_58 (a := a) (b := b) (fun z hz => h z (by simp [hz])) (fun z hz => k z (by simp [hz])) e.2
    exact ⟨by rw [e.1, q1], q2⟩
/-- P17.3: unlike histories have unlike texts. -/
theorem textS_inj : ∀ {l m}, OkEs l → OkEs m → textS l = textS m → l = m
  | [], [], _, _, _ => rfl
  | [], f :: m, _, _, e => by simp [textS, entT] at e
  | f :: l, [], _, _, e => by simp [textS, entT] at e
  | e :: l, f :: m, h, k, q => by
    have he := h e (by simp)
    have hf := k f (by simp)
    simp only [textS, entT, List.append_assoc, List.cons_append, List.nil_append] at q
    obtain ⟨q1, q2⟩ := List.append_inj q (by rw [hexL_length, hexL_length, List.length_reverse, List.length_reverse, he.2.1, hf.2.1])
    have t1 := List.reverse_inj.1 (hexL_inj he.2.2.revS hf.2.2.revS q1)
    injection q2 with _ q2
    obtain ⟨q3, q4⟩ := split_58 digN_mem digN_mem q2
    have t2 := digN_inj q3
    have t3 := textS_inj h.tail k.tail q4
    rw [t3]
    cases e; cases f; simp_all

/-- A history that may be. -/
structure Right (l : List En) : Prop where
  one : ∀ e ∈ l, 1 ≤ e.h
  up : l.Pairwise fun a b => a.h ≤ b.h
  apart : l.Pairwise fun a b => a.tx ≠ b.tx
theorem Right.sub {l m : List En} (h : Right l) (s : m.Sublist l) : Right m := ⟨fun e he => h.one e (s.subset he), h.up.sublist s, h.apart.sublist s⟩
theorem Right.nil : Right [] := ⟨(fun e h => by cases h), .nil, .nil⟩
theorem right_snoc {l : List En} {e : En} : Right (l ++ [e]) ↔ Right l ∧ 1 ≤ e.h ∧ (∀ a ∈ l, a.h ≤ e.h) ∧ ∀ a ∈ l, a.tx ≠ e.tx := by
  constructor
  · intro h
    obtain ⟨_, _, u⟩ := List.pairwise_append.1 h.up
    obtain ⟨_, _, v⟩ := List.pairwise_append.1 h.apart
    exact ⟨h.sub (List.sublist_append_left _ _), h.one e (by simp), fun a ha => u a ha e (by simp), fun a ha => v a ha e (by simp)⟩
  · rintro ⟨h, h1, h2, h3⟩
    refine ⟨fun x hx => ?_, List.pairwise_append.2 ⟨h.up, List.pairwise_singleton _ _, fun a ha b hb => ?_⟩, List.pairwise_append.2 ⟨h.apart, List.pairwise_singleton _ _, fun a ha b hb => ?_⟩⟩
    · rcases List.mem_append.1 hx with hx | hx
      · exact h.one x hx
      · rw [List.mem_singleton] at hx; subst hx; exact h1
    · rw [List.mem_singleton] at hb; subst hb; exact h2 a ha
    · rw [List.mem_singleton] at hb; subst hb; exact h3 a ha
/-- The last one's height is the greatest. -/
theorem right_last {l : List En} {e : En} (h : Right (l ++ [e])) : ∀ a ∈ l ++ [e], a.h ≤ e.h := fun a ha => by
  rcases List.mem_append.1 ha with ha | ha
  · exact (right_snoc.1 h).2.2.1 a ha
  · rw [List.mem_singleton] at ha; subst ha; exact Int.le_refl _
theorem right_less {l : List En} (h : Right l) (k : Nat) : Right (l.take k ++ l.drop (k + 1)) := h.sub (by
  conv => rhs; rw [← List.take_append_drop k l]
  refine List.Sublist.append_left ?_ _
  rw [show k + 1 = k + 1 from rfl, ← List.drop_drop]
  exact List.drop_sublist _ _)
theorem right_more {l : List En} {e : En} (h : ∃ a ∈ l, a.tx = e.tx) : ¬ Right (l ++ [e]) := fun q => by
  obtain ⟨a, ha, he⟩ := h
  exact (right_snoc.1 q).2.2.2 a ha he
open Classical in
noncomputable def rightB (l : List En) : Bool := decide (Right l)
end Go.Proofs.YtipbpecihbmneaaDoor
