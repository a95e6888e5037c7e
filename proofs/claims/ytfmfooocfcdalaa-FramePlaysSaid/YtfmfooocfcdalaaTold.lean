/- Lines that were told live on while the framer goes on: for FrameParts and FramePlays. No condition. -/
import Derived.Test.YtfmfooocfcdalaaFrs
namespace Go.Proofs.Ytfmfooocfcdalaa
open Go.RowKit

/-- A row of lines that were told, apart from the framer and from what it holds. -/
structure Td (base f : Nat) (v tv : Value) (us : List Value) (Ls : List (List Nat)) (W : World) : Prop where
  row : W.ownsRow base 27 1 tv us.length us
  lines : LinesV W (fun k => k ≠ f ∧ v.ownBlock ≠ some k ∧ tv.ownBlock ≠ some k) us Ls
  apart : ∀ k, tv.ownBlock = some k → k ≠ f ∧ v.ownBlock ≠ some k
theorem Td.nil (base f : Nat) (v : Value) (W : World) : Td base f v (.slice none 0 0) [] [] W := ⟨World.ownsRow_nil _ _ _ _, .nil, fun k e => by cases e⟩
/-- The framer is fed: what was told before is told still. -/
theorem Td.fed {w0 w W : World} {base f : Nat} {v0 v lv tv : Value} {us vs : List Value} {Ls ls : List (List Nat)} {M : List Nat} {er : Int} (h : Td base f v0 tv us Ls w) (J : FJ w0 w f v0.ownBlock ls M er v lv vs W) : Td base f v tv us Ls W := by
  have hr := h.row.lt
  have hz := J.size
  have new : ∀ k, k < w.heap.size → v0.ownBlock ≠ some k → v.ownBlock ≠ some k := fun k hk hne e => by
    rcases (J.hb k e).1 with e2 | e2
    · exact hne e2
    · omega
  refine ⟨⟨h.row.1, ?_⟩, ?_, fun k e => ⟨(h.apart k e).1, new k (hr k e).2 (h.apart k e).2⟩⟩
  · rcases h.row.2 with h2 | ⟨g, cap, cur, hv, hb, hh, r⟩
    · exact .inl h2
    · have e : tv.ownBlock = some g := by rw [hv]; rfl
      exact .inr ⟨g, cap, cur, hv, hb, (J.old g (hr g e).2 (h.apart g e).1 (h.apart g e).2).trans hh, r⟩
  · refine h.lines.imp (fun A n L b ha => ?_) (fun k hk hok => ⟨hok.1, new k hk hok.2.1, hok.2.2⟩) (by omega)
    refine b.kept fun hn a e => ?_
    obtain ⟨a2, e2, hb, _⟩ := b.cel hn
    rw [e] at e2
    injection e2 with e2
    subst e2
    exact J.old _ hb (ha a e).1 (ha a e).2.1
/-- Lines behind lines. -/
theorem LinesV.app {W : World} {ok : Nat → Prop} {us vs : List Value} {Ls Ks : List (List Nat)} (h : LinesV W ok us Ls) (k : LinesV W ok vs Ks) : LinesV W ok (us ++ vs) (Ls ++ Ks) := by
  induction k with
  | nil => simpa using h
  | snoc _ hu ih => rw [← List.append_assoc, ← List.append_assoc]; exact .snoc ih hu
/-- Feed, with all that holds behind it. -/
theorem fed_told {w0 : World} {A : Option Addr} {n c f : Nat} {v0 : Value} {M0 L : List Nat} (w : World) (h : FrB w f v0 false) (hO : Own w0 v0 M0.length M0 w) (hfw : w0.heap.size ≤ f) (hvf : v0.ownBlock ≠ some f) (hM0 : M0.length ≤ 65536)
    (hL : Bs w A n L) (hnc : n ≤ c) (hc : c ≤ 9223372036854775807) (hn : n ≤ 549755813888) (hA : 0 < n → ∀ a, A = some a → a.block ≠ f ∧ v0.ownBlock ≠ some a.block) {ls : List (List Nat)} {M : List Nat} {ov : Bool} (hr : feedS ([], M0, false) L = (ls, M, ov)) :
    Calls Try.prog 11 #[.pointer (some ⟨f, 0, none⟩), .slice A n c] w fun e W =>
      ∃ v lv vs, e = .returned (.tuple #[lv, .int .i64 (if ov then 6 else 0)]) ∧ M.length ≤ 65536 ∧ FJ w0 w f v0.ownBlock ls M (if ov then 6 else 0) v lv vs W ∧ FrB W f v ov := by
  refine (callsIn_wide.1 (feed_in (w0 := w0) w h hO hfw hvf hM0 hL hnc hc hn hA)).mono ?_
  rintro e W ⟨ls', M', ov', v, lv, vs, h1, rfl, h2, J, F⟩
  rw [hr] at h1
  simp only [Prod.mk.injEq] at h1
  obtain ⟨rfl, rfl, rfl⟩ := h1
  exact ⟨v, lv, vs, rfl, h2, J, F⟩
end Go.Proofs.Ytfmfooocfcdalaa
