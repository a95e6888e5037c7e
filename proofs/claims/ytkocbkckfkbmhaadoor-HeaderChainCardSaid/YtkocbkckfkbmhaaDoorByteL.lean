/- A byte of a header turned: what becomes of its fields. No condition. -/
import Derived.Test.YtkocbkckfkbmhaaDoorHs
namespace Go.Proofs.YtkocbkckfkbmhaaDoor
open Go.RowKit


theorem ofInt_nat8 (a : Nat) : (BitVec.ofInt 8 (a : Int)).toNat = a % 256 := by
  rw [BitVec.ofInt_natCast]; rfl
theorem wrap_nat8 (a : Nat) : IntKind.u8.wrap (a : Int) = ((a % 256 : Nat) : Int) := by
  simp [IntKind.wrap, IntKind.bits, IntKind.signed]
theorem xor_u8 (x y : Nat) (hx : x < 256) (hy : y < 256) : bits .xor .u8 (x : Int) (y : Int) = ((x ^^^ y : Nat) : Int) := by
  have h : x ^^^ y < 256 := Nat.xor_lt_two_pow (n := 8) hx hy
  show IntKind.u8.wrap ((BitVec.ofInt 8 (x : Int) ^^^ BitVec.ofInt 8 (y : Int)).toNat : Int) = _
  rw [BitVec.toNat_xor, ofInt_nat8, ofInt_nat8, wrap_nat8, Nat.mod_eq_of_lt hx, Nat.mod_eq_of_lt hy, Nat.mod_eq_of_lt h]
theorem xor_lt {x y : Nat} (hx : x < 256) (hy : y < 256) : x ^^^ y < 256 := Nat.xor_lt_two_pow (n := 8) hx hy
theorem xor_back (x y : Nat) : (x ^^^ y) ^^^ y = x := by rw [Nat.xor_assoc, Nat.xor_self, Nat.xor_zero]
theorem xor_same {x y : Nat} : x ^^^ y = x ↔ y = 0 := by
  constructor
  · intro h
    have := congrArg (x ^^^ ·) h
    simpa [← Nat.xor_assoc, Nat.xor_self] using this
  · rintro rfl; exact Nat.xor_zero x
theorem nth_set {L : List Nat} {k j y : Nat} (h : k < L.length) : nth (L.set k y) j = if j = k then y else nth L j := by
  by_cases e : j = k
  · subst e; rw [if_pos rfl, nth_set_same h]
  · rw [if_neg e, nth_set_ne (by omega)]
theorem cut32_set_in {L : List Nat} {a k y : Nat} (h1 : a ≤ k) (h2 : k < a + 32) : cut32 (L.set k y) a = (cut32 L a).set (k - a) y := by
  unfold cut32
  rw [List.drop_set, if_neg (by omega), List.take_set]
theorem cut32_set_out {L : List Nat} {a k y : Nat} (h : k < a ∨ a + 32 ≤ k) : cut32 (L.set k y) a = cut32 L a := by
  unfold cut32
  rcases h with h | h
  · rw [List.drop_set_of_lt h]
  · rw [List.drop_set, if_neg (by omega), List.take_set_of_le (by omega)]
theorem num4_set_out {L : List Nat} {a k y : Nat} (h : k < a ∨ a + 4 ≤ k) : num4 (L.set k y) a = num4 L a := by
  unfold num4
  rw [nth_set_ne (by omega), nth_set_ne (by omega), nth_set_ne (by omega), nth_set_ne (by omega)]
/-- The header of bytes one of which is turned. -/
theorem getH_set {L : List Nat} {k y : Nat} (_ : L.length = 80) (_ : k < 80) : (k < 4 ∧ ∃ x, getH (L.set k y) = { getH L with v := x }) ∨ (4 ≤ k ∧ k < 36 ∧ getH (L.set k y) = { getH L with p := (getH L).p.set (k - 4) y }) ∨
    (36 ≤ k ∧ k < 68 ∧ getH (L.set k y) = { getH L with r := (getH L).r.set (k - 36) y }) ∨ (68 ≤ k ∧ k < 72 ∧ ∃ x, getH (L.set k y) = { getH L with t := x }) ∨ (72 ≤ k ∧ k < 76 ∧ ∃ x, getH (L.set k y) = { getH L with b := x }) ∨ (76 ≤ k ∧ ∃ x, getH (L.set k y) = { getH L with n := x }) := by
  have n0 : 4 ≤ k → num4 (L.set k y) 0 = num4 L 0 := fun h => num4_set_out (by omega)
  have n1 : (k < 68 ∨ 72 ≤ k) → num4 (L.set k y) 68 = num4 L 68 := fun h => num4_set_out (by omega)
  have n2 : (k < 72 ∨ 76 ≤ k) → num4 (L.set k y) 72 = num4 L 72 := fun h => num4_set_out (by omega)
  have n3 : k < 76 → num4 (L.set k y) 76 = num4 L 76 := fun h => num4_set_out (by omega)
  have c0 : (k < 4 ∨ 36 ≤ k) → cut32 (L.set k y) 4 = cut32 L 4 := fun h => cut32_set_out (by omega)
  have c1 : (k < 36 ∨ 68 ≤ k) → cut32 (L.set k y) 36 = cut32 L 36 := fun h => cut32_set_out (by omega)
  by_cases h1 : k < 4
  · exact .inl ⟨h1, num4 (L.set k y) 0, Hd.ext' rfl (c0 (by omega)) (c1 (by omega)) (n1 (by omega)) (n2 (by omega)) (n3 (by omega))⟩
  by_cases h2 : k < 36
  · exact .inr (.inl ⟨by omega, h2, Hd.ext' (n0 (by omega)) (cut32_set_in (by omega) (by omega)) (c1 (by omega)) (n1 (by omega)) (n2 (by omega)) (n3 (by omega))⟩)
  by_cases h3 : k < 68
  · exact .inr (.inr (.inl ⟨by omega, h3, Hd.ext' (n0 (by omega)) (c0 (by omega)) (cut32_set_in (by omega) (by omega)) (n1 (by omega)) (n2 (by omega)) (n3 (by omega))⟩))
  by_cases h4 : k < 72
  · exact .inr (.inr (.inr (.inl ⟨by omega, h4, num4 (L.set k y) 68, Hd.ext' (n0 (by omega)) (c0 (by omega)) (c1 (by omega)) rfl (n2 (by omega)) (n3 (by omega))⟩)))
  by_cases h5 : k < 76
  · exact .inr (.inr (.inr (.inr (.inl ⟨by omega, h5, num4 (L.set k y) 72, Hd.ext' (n0 (by omega)) (c0 (by omega)) (c1 (by omega)) (n1 (by omega)) rfl (n3 (by omega))⟩))))
  · exact .inr (.inr (.inr (.inr (.inr ⟨by omega, num4 (L.set k y) 76, Hd.ext' (n0 (by omega)) (c0 (by omega)) (c1 (by omega)) (n1 (by omega)) (n2 (by omega)) rfl⟩))))
theorem set_byt {L : List Nat} {k y : Nat} (h : AllB L) (hy : y < 256) : AllB (L.set k y) := fun x hx => by
  rcases List.mem_or_eq_of_mem_set hx with h1 | h1
  · exact h x h1
  · subst h1; exact hy
theorem set_self_nth {L : List Nat} {k : Nat} (h : k < L.length) : L.set k (nth L k) = L := by
  refine nth_ext (by simp) fun j hj => ?_
  rw [nth_set h]
  split
  · rename_i e; rw [e]
  · rfl
theorem set_xor {L : List Nat} {k y : Nat} (h : k < L.length) : L.set k (nth L k ^^^ y) = L ↔ y = 0 := by
  constructor
  · intro e
    have := congrArg (nth · k) e
    simp only [nth_set h, if_true] at this
    exact xor_same.1 this
  · rintro rfl
    rw [Nat.xor_zero, set_self_nth h]
theorem set_xor_back {L : List Nat} {k y : Nat} (h : k < L.length) : (L.set k (nth L k ^^^ y)).set k (nth (L.set k (nth L k ^^^ y)) k ^^^ y) = L := by
  rw [nth_set h, if_pos rfl, xor_back, List.set_set, set_self_nth h]
/-- A byte that is turned turns the header, if it is turned at all. -/
theorem turned_iff {h : Hd} (o : h.Ok) {k y : Nat} (hk : k < 80) (hy : y < 256) : getH ((hdB h).set k (nth (hdB h) k ^^^ y)) = h ↔ y = 0 := by
  have hl := hdB_len o
  have hb := hdB_byt o
  have hb2 := set_byt (k := k) hb (xor_lt (nth_lt hb k) hy)
  rw [← set_xor (L := hdB h) (k := k) (by omega)]
  constructor
  · intro e
    have := congrArg hdB e
    rwa [hdB_getH hb2 (by simpa using hl)] at this
  · intro e
    rw [e, getH_hdB o]
end Go.Proofs.YtkocbkckfkbmhaaDoor
