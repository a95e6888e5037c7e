/- Whether two hashes are the same. No condition. -/
import Derived.Test.YtipbpecihbmneaaDoorArr
import Derived.Test.YtipbpecihbmneaaDoorSame
import Derived.Laws.IdiomArrays
namespace Go.Proofs.YtipbpecihbmneaaDoor
open Go.RowKit

instance (L : List Nat) : Decidable (AllB L) := by unfold AllB; infer_instance
theorem eqItems_bytes (H K : List Nat) (d : Nat) (w : World) : ∀ is : List Nat, (∀ i ∈ is, i < H.length ∧ i < K.length) →
    (Op.eqItems (d + 1) 5 1 (vals H).toArray (vals K).toArray is).run Tryd.prog w = .ok (decide (∀ i ∈ is, nth H i = nth K i)) w
  | [], _ => by simp [Op.eqItems]
  | i :: is, h => by
    have ih := eqItems_bytes H K d w is (fun j hj => h j (by simp [hj]))
    obtain ⟨h1, h2⟩ := h i (by simp)
    have pt : ∀ L : List Nat, i < L.length → (part 5 (vals L).toArray i).run Tryd.prog w = .ok (.int .u8 (nth L i : Nat)) w := fun L hl => by
      simp [part, isAgg, run_underlying Tryd.underlying5, vals_get L i hl]
    have e1 := pt H h1
    have e2 := pt K h2
    by_cases e : nth H i = nth K i
    · have : (∀ j ∈ i :: is, nth H j = nth K j) ↔ (∀ j ∈ is, nth H j = nth K j) := by simp [e]
      simp only [this]
      rw [← ih]
      simp only [Op.eqItems, Sem.run_bind, Nat.mul_one, e1, e2, Result.andThen_ok, run_equalIn_int w _ _ _ _ _ _ Tryd.underlying5]
      simp [e]
    · have : ¬ (∀ j ∈ i :: is, nth H j = nth K j) := fun h => e (h i (by simp))
      simp only [this, decide_false]
      simp only [Op.eqItems, Sem.run_bind, Nat.mul_one, e1, e2, Result.andThen_ok, run_equalIn_int w _ _ _ _ _ _ Tryd.underlying5]
      have e3 : ¬ ((nth H i : Nat) : Int) = ((nth K i : Nat) : Int) := by omega
      simp [e3]
theorem eq_hash {H K : List Nat} (hH : H.length = 32) (hK : K.length = 32) (w : World) : (Op.equalIn 10000 27 (.agg (vals H).toArray) (.agg (vals K).toArray)).run Tryd.prog w = .ok (eqB H K) w := by
  obtain ⟨i, hi⟩ : ∃ i, Tryd.prog.info? 5 = some i := Option.isSome_iff_exists.1 (by kernel_rfl)
  rw [run_equalIn_array w 9999 (e := 5) (n := 32) _ _ Tryd.underlying27 hi, show Tryd.prog.cellsOf 5 = 1 from by kernel_rfl, eqItems_bytes H K 9998 w (List.range 32) (fun i hi => by
    have := List.mem_range.1 hi
    omega)]
  congr 1
  unfold eqB
  rw [decide_eq_decide]
  constructor
  · intro h
    exact nth_ext (by omega) fun k hk => h k (List.mem_range.2 (by omega))
  · rintro rfl
    exact fun _ _ => rfl
end Go.Proofs.YtipbpecihbmneaaDoor
