/- header.numbers: where the numbers of a header stand, in its bytes and in memory. No condition. -/
import Derived.Test.YtkocbkckfkbmhaaDoorHd
import Derived.Test.YtkocbkckfkbmhaaDoorSt
import Derived.StillTailTactics
import Derived.Outline
namespace Go.Proofs.YtkocbkckfkbmhaaDoor
open Go.RowKit

section
variable {w : World} {ops : Array Oper} {rest : List Oper} {o : Oper} {a : Act} {Q : Exit → Act → World → Prop}
theorem wpList_copy_ro (hgd : o.guard = none) (d s : Operand) (ho : o.op = .call { callee := .builtin .copy, args := #[d, s], argTypes := #[27, 27] }) {b k m n c1 c2 : Nat} {A : Option Addr} {S : TypeId} {zs : List Value} {M : List Nat} {q : Nat}
    (hd : a.eval d = .slice (some ⟨b, k, none⟩) m c1) (hs : a.eval s = .slice A n c2) (hr : Ro w b S zs) (hsrc : Bs w A n M) (hfit : k + m ≤ zs.length) (hq : min n m = q)
    (h : ∀ w', Ro w' b S (splice zs k (vals (M.take q))) → w.grownBy w' (some b) → wpList Tryd.prog ops Q rest (a.put o.dst (.int .i64 (q : Nat))) w') : wpList Tryd.prog ops Q (o :: rest) a w := by
  subst hq
  obtain ⟨i0, hi, _, hz1, _⟩ := info_parts Tryd.infoByte
  have hsz : (Tryd.prog.info? 5).map (·.size) = some 1 := by rw [hi]; simp [hz1]
  have hl := hsrc.len
  have hc : (vals (M.take (min n m))).length = min n m := by rw [vals_length, List.length_take]; omega
  by_cases h0 : min n m = 0
  · refine wpList_copy_nothing hgd d s _ _ ho 5 Tryd.underlying27 hsz _ A m c1 n c2 hd hs h0 ?_
    have := h w (by rw [h0]; simpa [splice, vals] using hr) (World.grownBy.refl _ _)
    rwa [h0] at this
  · obtain ⟨ad, rfl, _, hcel⟩ := hsrc.cel (by omega)
    refine wpList_copy_own hgd d s _ _ ho 5 Tryd.underlying27 hsz b k m c1 ad n c2 hd hs zs.toArray S hr (vals (M.take (min n m))) (by rw [hc]) (fun j v hv => ?_) (by rw [hc]; simp; omega) (vals_one _) ?_
    · obtain ⟨hj, rfl⟩ := vals_get? hv
      rw [List.length_take] at hj
      rw [hcel j (by omega)]
      have hj2 : j < min n m := by omega
      have : nth (M.take (min n m)) j = nth M j := by simp only [nth, List.getD]; rw [List.getElem?_take, if_pos hj2]
      rw [this]
    · rw [hc]
      have e := setRow_heap w b _ (splice zs k (vals (M.take (min n m)))).toArray _ _ hr
      have h3 := h _ e (grownBy_setRow _ _ _)
      unfold splice at h3
      rw [hc] at h3
      exact h3
end

/-- The numbers of the header in block b. -/
def numV (b : Nat) : List Value := [.int .i64 0, .pointer (some ⟨b, 0, none⟩), .int .i64 68, .pointer (some ⟨b, 65, none⟩), .int .i64 72, .pointer (some ⟨b, 66, none⟩), .int .i64 76, .pointer (some ⟨b, 67, none⟩)]
theorem rowNum : IsRow 57 8 := ⟨.inr ⟨_, _, Tryd.underlying57⟩, by kernel_rfl⟩
theorem zeroNum (w : World) : (zeroValue 57).run Tryd.prog w = .ok (.agg #[.int .i64 0, .pointer none, .int .i64 0, .pointer none, .int .i64 0, .pointer none, .int .i64 0, .pointer none]) w := by kernel_rfl

set_option maxRecDepth 100000 in
set_option maxHeartbeats 1000000 in
theorem numbers_any (b : Nat) (w : World) : Calls Tryd.prog 25 #[.pointer (some ⟨b, 0, none⟩)] w fun e w' => e = .returned (.agg (numV b).toArray) ∧ Below w.heap.size w w' := by
  have z0 := zeroNum
  have B1 := Lib.hid ((Below.refl w.heap.size w).alloc (Nat.le_refl _) (.cells #[.int .i64 0, .pointer none, .int .i64 0, .pointer none, .int .i64 0, .pointer none, .int .i64 0, .pointer none] 57))
  have R1 := Lib.hid (Ro.new w 57 [.int .i64 0, .pointer none, .int .i64 0, .pointer none, .int .i64 0, .pointer none, .int .i64 0, .pointer none])
  go_enter Tryd.func25, Tryd.ntmps25
  go_wp2_with fail
  go_still_tail 17, (by kernel_rfl)
  refine wpList_store_ro rfl (.tmp 2) (.tmp 19) rfl rfl rfl rowNum (vs := numV b) (by first | exact R1.out | exact R1.out.later (Below.refl _ _).drew) rfl rfl (by intro u hu; simp [numV] at hu; rcases hu with h | h | h | h | h | h | h | h <;> (subst h; rfl)) ?_
  intro w4 R4 g4
  go_wp2_with fail
  exact bodyPost_ret (results_ro Tryd.results25 _ rfl rowNum R4 rfl) rfl ⟨rfl, (B1.out.drew).grown g4 (by simp) (fun q e => by injection e; omega)⟩
end Go.Proofs.YtkocbkckfkbmhaaDoor
