/- Strings cut; bounds of a count. No condition. -/
import Derived.Test.YtjcphpmlekfhdaaGreatDoorGh
import Derived.Test.YtjcphpmlekfhdaaGreatDoorGr
import Derived.Test.YtjcphpmlekfhdaaGreatDoorGa
namespace Go.Proofs.YtjcphpmlekfhdaaGreatDoor
open Go.RowKit

theorem rfadd_at (b o i : Nat) : (⟨b, o, none⟩ : Addr).add i = ⟨b, o + i, none⟩ := by unfold Addr.add; split <;> simp_all
theorem rfput_most (S : Dk) (f : Nat) (x : Fl) : (S.put f x).most = S.most := by
  unfold Dk.put
  split <;> rfl
theorem strB_take (L : List Nat) (k : Nat) : (strB L).extract 0 k = strB (L.take k) := by
  unfold strB
  apply ByteArray.ext
  simp [List.map_take]
theorem clamp_eq (v : Int) (n : Nat) : (if (n : Int) < (if v < 0 then 0 else v) then (n : Int) else if v < 0 then 0 else v) = ((min v.toNat n : Nat) : Int) := by
  split <;> split <;> omega
theorem take_min (T : List Nat) (k : Nat) : T.take (min k T.length) = T.take k := by
  rcases Nat.le_total k T.length with h | h
  · rw [Nat.min_eq_left h]
  · rw [Nat.min_eq_right h, List.take_length, List.take_of_length_le h]
end Go.Proofs.YtjcphpmlekfhdaaGreatDoor
