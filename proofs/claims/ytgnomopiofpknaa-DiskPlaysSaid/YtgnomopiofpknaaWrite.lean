/- Write, Cut, Sync. No condition but a bound on what is loose. -/
import Derived.Test.YtgnomopiofpknaaRoom
import Derived.Test.YtgnomopiofpknaaAfter
namespace Go.Proofs.Ytgnomopiofpknaa
open Go.RowKit

section
variable {w0 w w2 W : World} {d : Nat} {F : Nat → Prop} {S S' : Dk}
theorem Did.after (D : Dsk w0 d F S w) (g : Below w.heap.size w w2) (h : Did w0 d F w2 S' W) : Did w0 d F w S' W := by
  have hs := h.kept.size
  have gs := g.size
  obtain ⟨_, _, _, _, _, _, D0, _, hL⟩ := D
  have b0 := D0.bel.size
  refine ⟨h.dsk.more (fun b hb => ?_) (fun b hb => ?_), by omega, fun b hb hl => by rw [h.kept.blk b hb (by omega), g.block b hl]⟩
  · rcases hb with hb | hb
    · exact .inl hb
    · exact .inr ⟨by omega, hb.2⟩
  · rcases hb with hb | hb
    · have := hL b hb
      omega
    · omega
theorem Did.later (D : Dsk w0 d F S w) (g : Below w.heap.size w w2) : Did w0 d F w S w2 := Did.after D g (Did.refl (D.later g))
end
theorem dkV_size {S : Dk} {i : Nat} (hi : i = 0 ∨ i = 1) {vs0 vl0 vs1 vl1 : Value} : (dkV S vs0 vl0 vs1 vl1)[3 + 3 * i + 2]? = some (.int .i64 ((S.at i).at.length : Nat)) ∧ 3 + 3 * i + 2 < (dkV S vs0 vl0 vs1 vl1).length := by
  rcases hi with rfl | rfl <;> exact ⟨rfl, by simp [dkV]⟩
theorem filSettle {w0 w : World} {d : Nat} {S : Dk} (ok : S.Ok) {i : Nat} (hi : i = 0 ∨ i = 1) (hn : S.cnt ≤ 1073741823) : FilOp w0 d S i (S.at i).settle 34 #[] w := by
  intro w1 S1 P vs vl vs0 vl0 vs1 vl1 K hS F R hd hw c0 c1
  have ha : (#[Value.pointer (some ⟨d, 3 + 3 * i, none⟩)] ++ #[] : Array Value) = #[.pointer (some ⟨d, 3 + 3 * i, none⟩)] := by simp
  rw [ha]
  exact settle_any F R hd hw c0 c1 (dkV_size hi).2 ((ok.at_ i).f.mono ok.most) (by have := S.cnt_at i; omega)
theorem filWrite {w0 w : World} {d bx : Nat} {S : Dk} (ok : S.Ok) {i : Nat} (hi : i = 0 ∨ i = 1) (hn : S.cnt ≤ 1073741823) {TB : TypeId} {A : Option Addr} {n c : Nat} {L : List Nat} (hb : Ro w bx TB [.slice A n c]) (hbx : bx ≠ d) (hL : Bs w A n L) (hA : 0 < n → ∀ a, A = some a → a.block ≠ d) (hl : n ≤ 4194304) (hc : n ≤ c) :
    FilOp w0 d S i ((S.at i).add (.w L)) 35 #[.pointer (some ⟨bx, 0, none⟩)] w := by
  intro w1 S1 P vs vl vs0 vl0 vs1 vl1 K hS F R hd hw c0 c1
  have ha : (#[Value.pointer (some ⟨d, 3 + 3 * i, none⟩)] ++ #[.pointer (some ⟨bx, 0, none⟩)] : Array Value) = #[.pointer (some ⟨d, 3 + 3 * i, none⟩), .pointer (some ⟨bx, 0, none⟩)] := by simp
  rw [ha]
  have hn2 := hL.len
  subst hn2
  have c2 := (dkV_size (S := S1) hi (vs0 := vs0) (vl0 := vl0) (vs1 := vs1) (vl1 := vl1)).1
  rw [hS] at c2
  have hL1 : Bs w1 A L.length L := (BsP.keep (P := fun b => b ≠ d) ⟨hL, fun h a e => hA h a e⟩ K).bs
  have := write1_any F R hd hw c0 c1 c2 (by have := S.cnt_at i; omega) (by have := (ok.at_ i).len; have := ok.most; omega) (hb.same (K.blk bx hbx hb.lt)) hL1 hl hc
  have el : ((S.at i).add (.w L)).at.length = (S.at i).at.length + L.length := by rw [Fl.at_add, doC, List.length_append]
  rw [el]
  exact this
theorem filCut {w0 w : World} {d bx : Nat} {S : Dk} (ok : S.Ok) {i : Nat} (hi : i = 0 ∨ i = 1) (hn : S.cnt ≤ 1073741823) {TB : TypeId} {n : Nat} (hb : Ro w bx TB [.int .i64 (n : Nat)]) (hbx : bx ≠ d) (hl : n ≤ (S.at i).at.length) :
    FilOp w0 d S i ((S.at i).add (.c n)) 40 #[.pointer (some ⟨bx, 0, none⟩)] w := by
  intro w1 S1 P vs vl vs0 vl0 vs1 vl1 K hS F R hd hw c0 c1
  have ha : (#[Value.pointer (some ⟨d, 3 + 3 * i, none⟩)] ++ #[.pointer (some ⟨bx, 0, none⟩)] : Array Value) = #[.pointer (some ⟨d, 3 + 3 * i, none⟩), .pointer (some ⟨bx, 0, none⟩)] := by simp
  rw [ha]
  have hm := (ok.at_ i).len
  have hm2 := ok.most
  have := cut1_any (n := n) F R hd hw c0 c1 (dkV_size hi).2 (by have := S.cnt_at i; omega) (hb.same (K.blk bx hbx hb.lt)) (by omega)
  have el : ((S.at i).add (.c n)).at.length = n := by
    rw [Fl.at_add, doC, List.length_take]
    omega
  rw [el]
  exact this
theorem Dk.ask_ok {S : Dk} {f : Int} (h : S.ask f = 0) : ∃ i : Nat, f = (i : Int) ∧ (i = 0 ∨ i = 1) := by
  unfold Dk.ask at h
  split at h
  · cases h
  · split at h
    · cases h
    · exact ⟨f.toNat, by omega, by omega⟩
theorem Dk.ask_range {S : Dk} {f : Int} : 0 ≤ S.ask f ∧ S.ask f ≤ 8 := by
  unfold Dk.ask
  split
  · omega
  · split <;> omega
theorem idSettle (args : Array Value) (u : World) : (callFunc 34 args).run Try.prog u = .ok (.enter 34 args) u := by simp [callFunc, Try.func34, Try.f34]
end Go.Proofs.Ytgnomopiofpknaa
