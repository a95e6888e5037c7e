/- Bytes cut into headers: the words. No condition. -/
import Derived.Test.YtkocbkckfkbmhaaDoorRow
namespace Go.Proofs.YtkocbkckfkbmhaaDoor
open Go.RowKit

def piece (L : List Nat) (j : Nat) : List Nat := (L.drop (80 * j)).take 80
/-- The first k headers of bytes. -/
def cutN (L : List Nat) : Nat → List Hd
  | 0 => []
  | k + 1 => cutN L k ++ [getH (piece L k)]
theorem cutN_len (L : List Nat) : ∀ k, (cutN L k).length = k
  | 0 => rfl
  | k + 1 => by rw [cutN, List.length_append, cutN_len L k]; rfl
theorem piece_byt {L : List Nat} (h : AllB L) (k : Nat) : AllB (piece L k) := fun x hx => h x (List.mem_of_mem_drop (List.mem_of_mem_take hx))
theorem piece_len {L : List Nat} {k : Nat} (h : 80 * (k + 1) ≤ L.length) : (piece L k).length = 80 := by unfold piece; rw [List.length_take, List.length_drop]; omega
theorem cutN_ok {L : List Nat} (h : AllB L) : ∀ k, 80 * k ≤ L.length → OkAll (cutN L k)
  | 0, _ => okAll_nil
  | k + 1, hl => (cutN_ok h k (by omega)).app (okAll_one (getH_ok (piece_byt h k) (piece_len hl)))
theorem cutN_hsB {L : List Nat} (h : AllB L) : ∀ k, 80 * k ≤ L.length → hsB (cutN L k) = L.take (80 * k)
  | 0, _ => by simp [cutN, hsB]
  | k + 1, hl => by
    rw [cutN, hsB_app, hsB_one, cutN_hsB h k (by omega), hdB_getH (piece_byt h k) (piece_len hl)]
    unfold piece
    have := take_drop_app L 0 (80 * k) 80
    simp only [List.drop_zero, Nat.zero_add] at this
    rw [this]
    congr 1
theorem piece_hsB : ∀ {l : List Hd}, OkAll l → ∀ {k}, k < l.length → piece (hsB l) k = hdB (nthH l k)
  | [], _, k, hk => by simp at hk
  | h :: t, o, 0, _ => by
    unfold piece
    rw [hsB, Nat.mul_zero, List.drop_zero, ← hdB_len o.head, List.take_left]
    rfl
  | h :: t, o, k + 1, hk => by
    have ih := piece_hsB o.tail (k := k) (by simpa using hk)
    unfold piece at ih ⊢
    have e : 80 * (k + 1) = (hdB h).length + 80 * k := by rw [hdB_len o.head]; omega
    rw [hsB, e, ← List.drop_drop, List.drop_left, ih]
    rfl
theorem cutN_of {l : List Hd} (o : OkAll l) : ∀ k, k ≤ l.length → cutN (hsB l) k = l.take k
  | 0, _ => by simp [cutN]
  | k + 1, hk => by
    rw [cutN, cutN_of o k (by omega), piece_hsB o (by omega), getH_hdB (nthH_ok o k), ← take_nthH (by omega)]
def cutCode (n : Nat) : Nat := if n % 80 = 0 then (if n ≤ 8000 then 0 else 6) else 5
def cutAll (L : List Nat) : List Hd := if cutCode L.length = 0 then cutN L (L.length / 80) else []
theorem cutCode_ok {n : Nat} : cutCode n = 0 ↔ n % 80 = 0 ∧ n ≤ 8000 := by
  unfold cutCode
  split
  · split <;> simp_all
  · simp_all
/-- What a cut of bytes gives. -/
def CutGives (w : World) (L : List Nat) (e : Ending) (w' : World) : Prop := ∃ A n c, e = .returned (.tuple #[.slice A n c, .int .i64 (cutCode L.length : Nat)]) ∧ OwnH w (.slice A n c) n (cutAll L) w'
theorem Bs.plain {w : World} {a : Addr} {n : Nat} {L : List Nat} (h : Bs w (some a) n L) (hn : 0 < n) : ∃ b o, a = ⟨b, o, none⟩ := by
  obtain ⟨a', e, hb, hc⟩ := h.cel hn
  injection e with e
  subst e
  have h0 := hc 0 hn
  have e0 : a.add 0 = a := rfl
  rw [e0] at h0
  unfold World.cell? at h0
  split at h0
  · split at h0
    · cases h0
    · rename_i hs
      obtain ⟨b, o, s⟩ := a
      cases s with
      | none => exact ⟨b, o, rfl⟩
      | some x => simp at hs
  · cases h0
theorem Bs.piece {w : World} {b o n k : Nat} {L : List Nat} (h : Bs w (some ⟨b, o, none⟩) n L) (hk : 80 * (k + 1) ≤ n) : Bs w (some ⟨b, o + 80 * k, none⟩) 80 (piece L k) := by
  have h1 := h.cut (k := 80 * k) (m := 80) (c := n) (by omega) (Nat.le_refl _)
  rw [if_neg (by omega), Option.map_some, add_at] at h1
  exact h1
end Go.Proofs.YtkocbkckfkbmhaaDoor
