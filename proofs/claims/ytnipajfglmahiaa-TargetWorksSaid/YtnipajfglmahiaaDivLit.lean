/- What Div and OfHash of the package big return at the numbers of the anchor 'works'. -/
import Derived.Test.YtnipajfglmahiaaWorks
import Derived.Test.YtnipajfglmahiaaOfHash
import Derived.Deep.RegionWith
import Derived.BigRegion
import Derived.ChangeKeysEq
import Derived.Laws.StructEq
namespace Go.Proofs.Ytnipajfglmahiaa
open Go.RowKit

theorem bcell {W w1 : World} (hb : Below W.heap.size W w1) : (∀ b o, b < W.heap.size → w1.cell? ⟨b, o, none⟩ = W.cell? ⟨b, o, none⟩) ∧ (∀ b o, b < W.heap.size → w1.frozen? ⟨b, o, none⟩ = W.frozen? ⟨b, o, none⟩) :=
  ⟨fun b o h => hb.cell (p := ⟨b, o, none⟩) h, fun b o h => hb.frozen (p := ⟨b, o, none⟩) h⟩


/-- '==' between two numbers of four words. -/
theorem eq_big (x0 x1 x2 x3 y0 y1 y2 y3 : Int) (w : World) :
    (Op.equalIn 10000 25 (.agg #[.int .u64 x0, .int .u64 x1, .int .u64 x2, .int .u64 x3]) (.agg #[.int .u64 y0, .int .u64 y1, .int .u64 y2, .int .u64 y3])).run Try.prog w = .ok (x0 == y0 && (x1 == y1 && (x2 == y2 && x3 == y3))) w := by
  obtain ⟨i, hi⟩ : ∃ i, Try.prog.info? 23 = some i := Option.isSome_iff_exists.1 (by kernel_rfl)
  rw [run_equalIn_array w 9999 (e := 23) (n := 4) _ _ Try.underlying25 hi]
  rw [show Try.prog.cellsOf 23 = 1 from by kernel_rfl]
  simp only [List.range, List.range.loop, Op.eqItems, Sem.run_bind]
  have pt : ∀ (a b c d : Int) (w : World), (part 23 #[.int .u64 a, .int .u64 b, .int .u64 c, .int .u64 d] 0).run Try.prog w = .ok (.int .u64 a) w ∧ (part 23 #[.int .u64 a, .int .u64 b, .int .u64 c, .int .u64 d] 1).run Try.prog w = .ok (.int .u64 b) w ∧ (part 23 #[.int .u64 a, .int .u64 b, .int .u64 c, .int .u64 d] 2).run Try.prog w = .ok (.int .u64 c) w ∧ (part 23 #[.int .u64 a, .int .u64 b, .int .u64 c, .int .u64 d] 3).run Try.prog w = .ok (.int .u64 d) w := by
    intro a b c d w
    refine ⟨?_, ?_, ?_, ?_⟩ <;> simp [part, isAgg, run_underlying Try.underlying23]
  simp [(pt _ _ _ _ _).1, (pt _ _ _ _ _).2.1, (pt _ _ _ _ _).2.2.1, (pt _ _ _ _ _).2.2.2, run_equalIn_int w _ _ _ _ _ _ Try.underlying23]
  by_cases h0 : x0 = y0 <;> by_cases h1 : x1 = y1 <;> by_cases h2 : x2 = y2 <;> by_cases h3 : x3 = y3 <;> simp [h0, h1, h2, h3]

end Go.Proofs.Ytnipajfglmahiaa
