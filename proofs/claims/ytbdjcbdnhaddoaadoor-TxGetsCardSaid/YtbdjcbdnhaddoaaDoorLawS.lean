/- What the laws of layer 9 about single numbers look at, over lists. No condition. -/
import Derived.Test.YtbdjcbdnhaddoaaDoorGw
namespace Go.Proofs.YtbdjcbdnhaddoaaDoor
open Go.RowKit

/-- The example with two outputs. -/
def moneyT (a b : Nat) : TxD := ⟨1, [smallI], [⟨a, []⟩, ⟨b, []⟩], 0⟩
theorem insS_small : (insS [smallI]).length = 41 := by decide
theorem moneyT_len (a b : Nat) : (putS (moneyT a b)).length = 69 := by
  have h : seen (moneyT a b) = false := rfl
  unfold putS
  rw [h, if_neg (by decide)]
  show (low 4 1 ++ ((countS 1 ++ (insS [smallI] ++ (countS 2 ++ ((low 8 a ++ itemS []) ++ ((low 8 b ++ itemS []) ++ []))))) ++ low 4 0)).length = 69
  simp only [List.length_append, low_len, insS_small]
  rfl
theorem moneyT_ok {a b : Nat} (ha : a < 18446744073709551616) (hb : b < 18446744073709551616) : (moneyT a b).Ok := ⟨(by decide : 1 < 4294967296), fun i hi => by
  have : i = smallI := by simpa [moneyT] using hi
  rw [this]; exact smallI_ok, fun o ho => by
  have : o = ⟨a, []⟩ ∨ o = ⟨b, []⟩ := by simpa [moneyT] using ho
  rcases this with h | h <;> rw [h]
  · exact ⟨ha, allB_nil⟩
  · exact ⟨hb, allB_nil⟩, (by decide : 0 < 4294967296)⟩
theorem moneyT_fit (a b : Nat) : (moneyT a b).Fit := ⟨(by decide : 1 < 18446744073709551616), (by decide : 2 < 18446744073709551616), fun i hi => by
  have : i = smallI := by simpa [moneyT] using hi
  rw [this]; exact ⟨by decide, by decide, fun x hx => by cases hx⟩, fun o ho => by
  have : o = ⟨a, []⟩ ∨ o = ⟨b, []⟩ := by simpa [moneyT] using ho
  rcases this with h | h <;> rw [h] <;> exact (by decide : 0 < 18446744073709551616)⟩
theorem moneyT_w (a b : Nat) : weigh (moneyT a b) ≤ 100000000 := (by decide : (41 + 0 + 0 + 0) + ((9 + 0) + ((9 + 0) + 0)) ≤ 100000000)
theorem money_iff (a b : Nat) : May (moneyT a b) ↔ (a ≤ 2100000000000000 ∧ b ≤ 2100000000000000 ∧ a + b ≤ 2100000000000000) := by
  have hm : moneyS (moneyT a b).outs = a + b := by simp [moneyS, moneyT]
  constructor
  · intro h
    have := h.money
    rw [hm] at this
    omega
  · rintro ⟨_, _, h⟩
    exact ⟨by simp [moneyT], by simp [moneyT], by simp [froms, moneyT], by rw [hm]; exact h, by rw [moneyT_len]; decide⟩
theorem money_get {a b : Nat} (ha : a < 18446744073709551616) (hb : b < 18446744073709551616) : getE (putS (moneyT a b)) = if decide (May (moneyT a b)) = true then 0 else 5 := by
  by_cases h : May (moneyT a b)
  · rw [if_pos (decide_eq_true h)]
    exact (get_put (moneyT_ok ha hb) (moneyT_fit a b) h).1
  · rw [if_neg (by rw [decide_eq_false h]; decide)]
    unfold getE
    rw [if_neg (by rw [moneyT_len]; decide), txP_put (moneyT_ok ha hb) (moneyT_fit a b) (by simp [moneyT])]
    simp [h]

/-- The bytes of the example ahead of its script's count. -/
def headE : List Nat := low 4 1 ++ (countS 1 ++ (insS [smallI] ++ (countS 1 ++ low 8 5)))
theorem headE_len : headE.length = 55 := by decide
theorem headE_byt : AllB headE := AllB.app (low_byt _ _) (AllB.app (countS_byt _) (AllB.app (flat_byt fun i hi => by
  have : i = smallI := by simpa using hi
  rw [this]; exact inS_byt smallI_ok) (AllB.app (countS_byt _) (low_byt _ _))))
theorem smallT_bare (s : List Nat) : bareS (smallT s) = headE ++ (countS s.length ++ (s ++ [0, 0, 0, 0])) := by
  show low 4 1 ++ ((countS 1 ++ (insS [smallI] ++ (countS 1 ++ ((low 8 5 ++ (countS s.length ++ s)) ++ [])))) ++ low 4 0) = _
  rw [show low 4 0 = [0, 0, 0, 0] from by decide]
  unfold headE
  simp only [List.append_assoc, List.append_nil]
theorem smallT_put (s : List Nat) : putS (smallT s) = bareS (smallT s) := by
  have h : seen (smallT s) = false := rfl
  unfold putS
  rw [h, if_neg (by decide)]
theorem smallT_len (s : List Nat) : (bareS (smallT s)).length = 59 + (countS s.length).length + s.length := by
  rw [smallT_bare]
  simp only [List.length_append, headE_len, List.length_cons, List.length_nil]
  omega
theorem smallT_fit {s : List Nat} (h : s.length < 18446744073709551616) : (smallT s).Fit := ⟨(by decide : 1 < 18446744073709551616), (by decide : 1 < 18446744073709551616), fun i hi => by
  have : i = smallI := by simpa [smallT] using hi
  rw [this]; exact ⟨by decide, by decide, fun x hx => by cases hx⟩, fun o ho => by
  have : o = ⟨5, s⟩ := by simpa [smallT] using ho
  rw [this]; exact h⟩
theorem smallT_w {s : List Nat} (h : s.length ≤ 1000000) : weigh (smallT s) ≤ 100000000 := by
  show (41 + 0 + 0 + 0) + ((9 + s.length) + 0) ≤ 100000000
  omega
theorem smallT_may (s : List Nat) : May (smallT s) ↔ (bareS (smallT s)).length ≤ 16384 := by
  constructor
  · intro h
    rw [← smallT_put]
    exact h.size
  · intro h
    exact ⟨by simp [smallT], by simp [smallT], by simp [froms, smallT], (by decide : 5 ≤ 2100000000000000), by rw [smallT_put]; exact h⟩
theorem count_len {n : Nat} (h : 253 ≤ n) (k : n < 65536) : (countS n).length = 3 := by
  unfold countS
  rw [if_neg (by omega), if_pos k]
  rfl
theorem zeros_byt (n : Nat) : AllB (List.replicate n 0) := fun x hx => by have := List.eq_of_mem_replicate hx; omega
/-- About the bound. -/
theorem long_yes {n : Nat} (h : 253 ≤ n) (k : n ≤ 16322) : May (smallT (List.replicate n 0)) ∧ getE (putS (smallT (List.replicate n 0))) = 0 ∧ getT (putS (smallT (List.replicate n 0))) = smallT (List.replicate n 0) := by
  have hm : May (smallT (List.replicate n 0)) := by
    rw [smallT_may, smallT_len, List.length_replicate, count_len h (by omega)]
    omega
  exact ⟨hm, get_put (smallT_ok _ (zeros_byt n)) (smallT_fit (by rw [List.length_replicate]; omega)) hm⟩
theorem long_no {n : Nat} (h : 16322 < n) (k : n < 65536) : ¬ May (smallT (List.replicate n 0)) ∧ getE (putS (smallT (List.replicate n 0))) = 6 ∧ getT (putS (smallT (List.replicate n 0))) = zeroT := by
  have hl : 16384 < (bareS (smallT (List.replicate n 0))).length := by
    rw [smallT_len, List.length_replicate, count_len (by omega) k]
    omega
  refine ⟨fun hm => ?_, get_long (by rw [smallT_put]; exact hl)⟩
  have := (smallT_may _).1 hm
  omega
/-- What stands where the count does. -/
theorem bare_at (n j : Nat) : nth (bareS (smallT (List.replicate n 0))) (55 + j) = nth (countS n ++ (List.replicate n 0 ++ [0, 0, 0, 0])) j := by
  rw [smallT_bare, List.length_replicate]
  have e : 55 + j = headE.length + j := by rw [headE_len]
  rw [e, nth_right]
theorem at1 {n : Nat} (h : n < 253) : nth (bareS (smallT (List.replicate n 0))) 55 = n ∧ (bareS (smallT (List.replicate n 0))).length = 60 + n := by
  refine ⟨(bare_at n 0).trans ?_, ?_⟩
  · unfold countS
    rw [if_pos h]
    rfl
  · rw [smallT_len, List.length_replicate]
    unfold countS
    rw [if_pos h]
    show 59 + 1 + n = _
    omega
theorem at3 {n : Nat} (h : 253 ≤ n) (k : n < 65536) : nth (bareS (smallT (List.replicate n 0))) 55 = 253 ∧ nth (bareS (smallT (List.replicate n 0))) 56 = n % 256 ∧ nth (bareS (smallT (List.replicate n 0))) 57 = n / 256 % 256 ∧ (bareS (smallT (List.replicate n 0))).length = 62 + n := by
  have e : countS n = 253 :: low 2 n := by
    unfold countS
    rw [if_neg (by omega), if_pos k]
  refine ⟨(bare_at n 0).trans (by rw [e]; rfl), (bare_at n 1).trans (by rw [e]; rfl), (bare_at n 2).trans (by rw [e]; rfl), ?_⟩
  rw [smallT_len, List.length_replicate, e]
  show 59 + 3 + n = _
  omega
theorem at5 {n : Nat} (h : 65536 ≤ n) (k : n < 4294967296) : nth (bareS (smallT (List.replicate n 0))) 55 = 254 ∧ nth (bareS (smallT (List.replicate n 0))) 56 = n % 256 ∧ nth (bareS (smallT (List.replicate n 0))) 57 = n / 256 % 256 ∧ nth (bareS (smallT (List.replicate n 0))) 58 = n / 256 / 256 % 256 ∧ nth (bareS (smallT (List.replicate n 0))) 59 = n / 256 / 256 / 256 % 256 ∧ (bareS (smallT (List.replicate n 0))).length = 64 + n := by
  have e : countS n = 254 :: low 4 n := by
    unfold countS
    rw [if_neg (by omega), if_neg (by omega), if_pos k]
  refine ⟨(bare_at n 0).trans (by rw [e]; rfl), (bare_at n 1).trans (by rw [e]; rfl), (bare_at n 2).trans (by rw [e]; rfl), (bare_at n 3).trans (by rw [e]; rfl), (bare_at n 4).trans (by rw [e]; rfl), ?_⟩
  rw [smallT_len, List.length_replicate, e]
  show 59 + 5 + n = _
  omega
end Go.Proofs.YtbdjcbdnhaddoaaDoor
