/- The framer's small functions; what Feed leaves, in the words of a caller. No condition but bounds on the lengths. -/
import Derived.Test.YtfmfooocfcdalaaFeed
import Derived.Test.YtfmfooocfcdalaaSames
import Derived.Laws.ResultCell
namespace Go.Proofs.Ytfmfooocfcdalaa
open Go.RowKit

theorem new_any (w : World) : Calls Try.prog 8 #[] w fun e w' => e = .returned (.pointer (some ⟨w.heap.size, 0, none⟩)) ∧ w' = w.alloc (.cells #[.slice none 0 0, .bool false] 48) := by
  go_enter Try.func8, Try.ntmps8
  go_wp2_with fail
  go_ret
  exact ⟨rfl, rfl⟩
theorem new_frB (w : World) : FrB (w.alloc (.cells #[.slice none 0 0, .bool false] 48)) w.heap.size (.slice none 0 0) false := World.alloc_heap_new w _

theorem held_any {f n c : Nat} {A : Option Addr} {ov : Bool} {w : World} (h : FrB w f (.slice A n c) ov) : Calls Try.prog 13 #[.pointer (some ⟨f, 0, none⟩)] w fun e w' => e = .returned (.int .i64 (n : Nat)) ∧ w' = w := by
  have c0 := h.c0
  go_enter Try.func13, Try.ntmps13
  go_wp2_with fail
  go_ret
  exact ⟨rfl, rfl⟩
theorem held_nil (w : World) : Calls Try.prog 13 #[.pointer none] w fun e w' => e = .returned (.int .i64 0) ∧ w' = w := by
  go_enter Try.func13, Try.ntmps13
  go_wp2_with fail
  go_ret
  exact ⟨rfl, rfl⟩
theorem over_any {f : Nat} {v : Value} {ov : Bool} {w : World} (h : FrB w f v ov) : Calls Try.prog 15 #[.pointer (some ⟨f, 0, none⟩)] w fun e w' => e = .returned (.bool ov) ∧ w' = w := by
  have c1 := h.c1
  go_enter Try.func15, Try.ntmps15
  go_wp2_with fail
  go_ret
  exact ⟨rfl, rfl⟩
theorem over_nil (w : World) : Calls Try.prog 15 #[.pointer none] w fun e w' => e = .returned (.bool false) ∧ w' = w := by
  go_enter Try.func15, Try.ntmps15
  go_wp2_with fail
  go_ret
  exact ⟨rfl, rfl⟩

theorem feedS_small : ∀ (L : List Nat) (st : St), (∀ l ∈ st.1, l.length ≤ 65536) → st.2.1.length ≤ 65536 → (∀ l ∈ (feedS st L).1, l.length ≤ 65536) ∧ (feedS st L).1.length ≤ st.1.length + L.length
  | [], st, h1, _ => ⟨h1, Nat.le_refl _⟩
  | x :: l, st, h1, h2 => by
    have key : (∀ k ∈ (stepB st x).1, k.length ≤ 65536) ∧ (stepB st x).2.1.length ≤ 65536 ∧ (stepB st x).1.length ≤ st.1.length + 1 := by
      unfold stepB
      split
      · exact ⟨h1, h2, by omega⟩
      · split
        · refine ⟨fun k hk => ?_, by simp, by simp⟩
          rcases List.mem_append.1 hk with hk | hk
          · exact h1 k hk
          · obtain rfl := List.mem_singleton.1 hk
            exact h2
        · split
          · exact ⟨h1, by simp, by simp⟩
          · exact ⟨h1, by simp; omega, by simp⟩
    have ih := feedS_small l (stepB st x) key.1 key.2.1
    refine ⟨ih.1, ?_⟩
    have h3 := ih.2
    have h4 := key.2.2
    show (feedS (stepB st x) l).1.length ≤ _
    simp only [List.length_cons]
    omega

theorem FJ.ll {w0 w : World} {f : Nat} {k0 : Option Nat} {ls : List (List Nat)} {M : List Nat} {er : Int} {v lv : Value} {vs : List Value} {W : World} (h : FJ w0 w f k0 ls M er v lv vs W) (hs : ∀ l ∈ ls, l.length ≤ 65536) : ∃ B c, lv = .slice B ls.length c ∧ Ll W B ls.length ls := by
  have hl := h.lines.len
  obtain ⟨B, c, rfl, hc⟩ := row_shape h.row
  rw [hl]
  refine ⟨B, c, rfl, rfl, fun hm => ?_⟩
  obtain ⟨g, cap, hv, _, hlt⟩ := h.row.form (by omega)
  have hB : B = some ⟨g, 0, Option.none⟩ := by injection hv
  subst hB
  refine ⟨_, rfl, hlt, fun i hi => ?_⟩
  obtain ⟨A, n, c', h1, h2, h3⟩ := h.lines.get i (by omega)
  refine ⟨A, n, c', h.row.cells (g := g) rfl i _ h1, ?_, h3⟩
  have e := h3.len
  have hm : ls.getD i [] ∈ ls := by
    simp only [List.getD, List.getElem?_eq_getElem hi, Option.getD_some]
    exact List.getElem_mem hi
  have := hs _ hm
  omega

/-- What a caller has of Feed. -/
def Fed (w0 w : World) (f : Nat) (M0 L : List Nat) (e : Ending) (W : World) : Prop :=
  ∃ ls M ov v B c, feedS ([], M0, false) L = (ls, M, ov) ∧ e = .returned (.tuple #[.slice B ls.length c, .int .i64 (if ov then 6 else 0)]) ∧ Ll W B ls.length ls ∧ ls.length ≤ L.length ∧ M.length ≤ 65536 ∧ Own w0 v M.length M W ∧ v.ownBlock ≠ some f ∧ FrB W f v ov
    ∧ ∀ k, k < w.heap.size → k ≠ f → W.heap[k]? = w.heap[k]?
theorem fed_any {w0 : World} {A : Option Addr} {n c f : Nat} {L : List Nat} (w : World) (hb : Below w0.heap.size w0 w) (h : FrB w f (.slice none 0 0) false) (hfw : w0.heap.size ≤ f)
    (hL : Bs w A n L) (hnc : n ≤ c) (hc : c ≤ 9223372036854775807) (hn : n ≤ 549755813888) (hA : 0 < n → ∀ a, A = some a → a.block ≠ f) :
    Calls Try.prog 11 #[.pointer (some ⟨f, 0, none⟩), .slice A n c] w (Fed w0 w f [] L) := by
  refine (callsIn_wide.1 (feed_in (w0 := w0) (v0 := .slice none 0 0) (M0 := []) w h ⟨World.ownsRow_nil _ _ _ _, allB_nil, hb⟩ hfw (by simp [Value.ownBlock]) (by simp) hL hnc hc hn (fun h0 a e => ⟨hA h0 a e, by simp [Value.ownBlock]⟩))).mono ?_
  rintro e W ⟨ls, M, ov, v, lv, vs, h1, rfl, h2, J, F⟩
  have hs := feedS_small L ([], [], false) (by simp) (by simp)
  rw [h1] at hs
  obtain ⟨B, c', rfl, hl⟩ := J.ll hs.1
  exact ⟨ls, M, ov, v, B, c', h1, rfl, hl, by simpa using hs.2, h2, J.held, fun e => (J.hb _ e).2.1 rfl, F, fun k h3 h4 => J.old k h3 h4 (by simp [Value.ownBlock])⟩
theorem Fed.below {w0 w W : World} {f : Nat} {v : Value} {n : Nat} {M : List Nat} (hb : Below w0.heap.size w0 w) (hf : f < w.heap.size) (hO : Own w0 v n M W) (hs : w.heap.size ≤ W.heap.size) (h : ∀ k, k < w.heap.size → k ≠ f → W.heap[k]? = w.heap[k]?) : Below f w W :=
  ⟨hO.bel.os.trans hb.os.symm, hO.bel.tape.trans hb.tape.symm, hO.bel.output.trans hb.output.symm, hs, fun k hk => h k (by omega) (by omega)⟩

set_option maxRecDepth 100000 in
set_option maxHeartbeats 4000000 in
theorem feed_nil {A : Option Addr} {n c : Nat} (w : World) : Calls Try.prog 11 #[.pointer none, .slice A n c] w fun e w' => e = .returned (.tuple #[.slice none 0 0, .int .i64 2]) ∧ Below w.heap.size w w' := by
  go_enter Try.func11, Try.ntmps11
  go_wp2_with fail
  refine wp_scope_straight ?_
  go_wp2_with fail
  rw [Exit.noGoto_ret]
  refine bodyPost_ret (v := .tuple #[.slice none 0 0, .int .i64 2]) ?_ rfl ⟨rfl, ?_⟩
  · simp [results, Try.f11, go_sem]
  · exact (((Below.refl _ w).alloc (Nat.le_refl _) _).alloc (by simp only [World.size_alloc]; omega) _).alloc (by simp only [World.size_alloc]; omega) _
end Go.Proofs.Ytfmfooocfcdalaa
