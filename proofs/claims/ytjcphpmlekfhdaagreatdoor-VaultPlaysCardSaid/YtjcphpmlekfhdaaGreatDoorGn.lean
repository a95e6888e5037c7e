/- How wide records are. No memory. No condition. -/
import Derived.Test.YtjcphpmlekfhdaaGreatDoorGi
import Derived.Test.YtjcphpmlekfhdaaGreatDoorGl

namespace Go.Proofs.YtjcphpmlekfhdaaGreatDoor

theorem wide_take {l : List (List Nat)} {j : Nat} (h : j < l.length) : wideS (l.take (j + 1)) = wideS (l.take j) + (36 + l[j].length) := by
  unfold wideS
  rw [List.take_add_one, List.getElem?_eq_getElem h, Option.toList_some, List.map_append, List.sum_append]
  simp
theorem wide_app (l k : List (List Nat)) : wideS (l ++ k) = wideS l + wideS k := by
  unfold wideS
  rw [List.map_append, List.sum_append]
theorem wide_one (r : List Nat) : wideS [r] = 36 + r.length := by unfold wideS; simp
theorem wide_take_le (l : List (List Nat)) (j : Nat) : wideS (l.take j) ≤ wideS l := by
  have := wide_app (l.take j) (l.drop j)
  rw [List.take_append_drop] at this
  omega
theorem wide_mem : ∀ {l : List (List Nat)} {r : List Nat}, r ∈ l → 36 + r.length ≤ wideS l
  | x :: l, r, h => by
    have e : wideS (x :: l) = 36 + x.length + wideS l := by unfold wideS; simp
    rw [e]
    rcases List.mem_cons.1 h with rfl | h
    · omega
    · have := wide_mem h
      omega
theorem wide_len : ∀ (l : List (List Nat)), 36 * l.length ≤ wideS l
  | [] => Nat.zero_le _
  | x :: l => by
    have e : wideS (x :: l) = 36 + x.length + wideS l := by unfold wideS; simp
    have := wide_len l
    rw [e, List.length_cons]
    omega
theorem not_long {l : List (List Nat)} (h : wideS l ≤ 32768) : longS l = false := by
  unfold longS
  rw [List.any_eq_false]
  intro r hr
  have := wide_mem hr
  simp
  omega
end Go.Proofs.YtjcphpmlekfhdaaGreatDoor

/- The document's Same, of lists that are the same. No condition but bounds. -/
namespace Go.Proofs.YtjcphpmlekfhdaaGreatDoor
open Go.RowKit

theorem same_self {A B : Option Addr} {n m c d : Nat} {l : List (List Nat)} (w : World) (hA : Rows w anyP 1 ByR A n l) (hB : Rows w anyP 1 ByR B m l) (hn : n ≤ 1099511627776) :
    Calls Tryz.prog 19 #[.slice A n c, .slice B m d] w fun e w' => e = .returned (.bool true) ∧ Below w.heap.size w w' :=
  (same_any w hA hB hn).mono fun e W ⟨h1, h2⟩ => ⟨by rw [h1, decide_eq_true rfl], h2⟩
end Go.Proofs.YtjcphpmlekfhdaaGreatDoor
