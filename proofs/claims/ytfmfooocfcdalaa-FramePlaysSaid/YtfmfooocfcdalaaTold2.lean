/- append(told, x...): lines behind lines. No condition but a bound on the lengths. -/
import Derived.Test.YtfmfooocfcdalaaTold
namespace Go.Proofs.Ytfmfooocfcdalaa
open Go.RowKit

theorem LinesV.one {W : World} {ok : Nat → Prop} {us : List Value} {Ls : List (List Nat)} (h : LinesV W ok us Ls) : ∀ u ∈ us, u.oneCell' = true := by
  induction h with
  | nil => intro u hu; cases hu
  | snoc _ hu ih =>
    intro u hm
    rcases List.mem_append.1 hm with hm | hm
    · exact ih u hm
    · obtain rfl := List.mem_singleton.1 hm
      obtain ⟨A, n, c, rfl, _⟩ := hu
      rfl

theorem run_told {w0 w W : World} {base f : Nat} {k0 : Option Nat} {v lv tv : Value} {us vs : List Value} {Ls ls : List (List Nat)} {M : List Nat} {er : Int} (ty : TypeId) (h : Td base f v tv us Ls W) (J : FJ w0 w f k0 ls M er v lv vs W) (hb : base ≤ W.heap.size)
    (ht : ∀ k, tv.ownBlock = some k → k < w.heap.size ∧ k0 ≠ some k) (hlen : us.length + vs.length ≤ 1099511627776) :
    ∃ tv' W', (Builtin.append_ #[30, 30] ty #[tv, lv]).run Try.prog W = .ok tv' W' ∧ Td base f v tv' (us ++ vs) (Ls ++ ls) W' ∧ W.grownBy W' tv.ownBlock := by
  obtain ⟨i0, hi, hz0, hz1, hz2⟩ := info_parts (P := Try.prog) (e := 27) (by kernel_rfl : (Try.prog.info? 27).map (fun i => (i.zero, i.size, i.bytes)) = some (some (.slice none 0 0), 1, 24))
  have hl := J.lines.len
  rcases J.row.2 with ⟨rfl, e0⟩ | ⟨g, cap, cur, e1, _, _, _, _⟩
  · obtain rfl : vs = [] := List.eq_nil_of_length_eq_zero e0
    obtain rfl : ls = [] := List.eq_nil_of_length_eq_zero hl.symm
    have hrun := run_append_owned_none (P := Try.prog) (w := W) base 30 ty 27 i0 1 Try.underlying30 hi tv us.length us h.row
    exact ⟨tv, W, hrun, by simpa using h, World.grownBy.refl _ _⟩
  · have hcells := J.row.cells (g := g) (by rw [e1]; rfl)
    obtain ⟨tv', W', a1, a2, a3, _, a5⟩ := run_append_own_at (P := Try.prog) W base 30 ty 27 i0 (.slice none 0 0) 1 24 Try.underlying30 hi hz0 hz1 hz2 rfl (by decide) tv us.length us h.row ⟨g, 0, none⟩ vs.length cap vs (by simp) hcells J.lines.one (by unfold maxLen; omega) (by omega) hb
    rw [← e1] at a1
    have hz := J.size
    have hlt : ∀ k, tv.ownBlock = some k → k < W.heap.size := fun k e => (h.row.lt k e).2
    have nok : ∀ k, k < W.heap.size → tv.ownBlock ≠ some k → tv'.ownBlock ≠ some k := fun k hk hne e => by
      rcases a5 with e2 | e2
      · exact hne (by rw [← e2]; exact e)
      · rw [e2] at e
        injection e with e
        omega
    refine ⟨tv', W', a1, ⟨by rw [List.length_append]; exact a2, LinesV.app (h.lines.imp (fun A n L b ha => b.far a3 fun a e e2 => (ha a e).2.2 e2.symm) (fun k hk hok => ⟨hok.1, hok.2.1, nok k hk hok.2.2⟩) a3.size)
      (J.lines.imp (fun A n L b ha => b.far a3 fun a e e2 => ?_) (fun k hk hok => ⟨hok.2.1, hok.2.2.1, nok k hk fun e => ?_⟩) a3.size), fun k e => ?_⟩, a3⟩
    · have h1 := ht a.block e2.symm
      rcases (ha a e).1 with h2 | h2
      · exact h1.2 h2
      · omega
    · have h1 := ht k e
      rcases hok.1 with h2 | h2
      · exact h1.2 h2
      · omega
    · rcases a5 with e2 | e2
      · exact h.apart k (by rw [← e2]; exact e)
      · rw [e2] at e
        injection e with e
        have h3 := J.fl
        refine ⟨by omega, fun e4 => ?_⟩
        have := (J.held.new k e4).2
        omega
end Go.Proofs.Ytfmfooocfcdalaa
