/- merkle.rows: the rows of a list of hashes, told one behind the other. No condition but that the tables lie as laid. -/
import Derived.Test.YtdenibigefchpaaDoorAbove
import Derived.Test.YtdenibigefchpaaDoorTells
import Derived.Test.YtdenibigefchpaaDoorTree3
import Derived.Shelf.Abstract
import Derived.Shelf.RegionOpen
import Derived.OwnWalkIn
import Derived.TacticsInMore
import Derived.LoopNIn
import Derived.LoopIn
import Derived.Scope
namespace Go.Proofs.YtdenibigefchpaaDoor
open Go.RowKit Go.Shelf
attribute [local go_sem] Oper.semAt_some

/-- A scope through which the run goes without a jump, at the widest fence. -/
theorem wpIn_scope_wide {n : Nat} {P : Program} {c : Code} {Q : Exit → Act → World → Prop} {a : Act} {w : World} (h : c.wpIn Fence.wide n P (Exit.noGoto Q) a w) : (Code.scope c).wpIn Fence.wide n P Q a w :=
  wpIn_wide.2 (wp_scope_straight (wpIn_wide.1 h))
theorem rows_in (A : Option Addr) (len cap : Nat) (w : World) : CallsIn Fence.wide 2 Tryd.prog 23 #[.slice A len cap] w fun e w' => e = .returned (.func (.func 29) #[] #[.pointer (some ⟨w.heap.size, 0, none⟩)]) ∧ w' = w.alloc (.cells #[.slice A len cap] 22) := by
  refine callsIn_of_wp Tryd.func23 rfl trivial ?_ rfl
  simp only [Tryd.ntmps23, List.size_toArray, List.length_cons, List.length_nil, Nat.reduceAdd, Nat.reduceSub, Array.replicate_succ, Array.replicate_zero, List.push_toArray, List.append_toArray, List.nil_append, List.cons_append]
  gi_wp2
  go_ret
  exact ⟨rfl, rfl⟩

/-- A row as it is told. -/
structure Rw where
  A : Option Addr
  n : Nat
  c : Nat
  l : List (List Nat)
def rwE (x : Rw) : Array Value := #[.slice x.A x.n x.c]
def RTell (ids : List (List Nat)) (xs : List Rw) : Prop := xs.map (·.l) = rowsOf joinS ids
def RPre (ids : List (List Nat)) (pre : List Rw) : Prop := ∃ r, pre.map (·.l) ++ r = rowsOf joinS ids
/-- How a row lies when it is told: in memory of s's time, or in none that was there before. -/
structure RFr (s : Nat) (x : Rw) (X Y : World) : Prop where
  gs : Gs Y x.A x.n x.l
  far : ∀ a, x.A = some a → a.block < s ∨ X.heap.size ≤ a.block
  pos : 0 < x.n
  le : x.n ≤ 1000000
/-- What a round leaves of it. -/
def RRd (x : Rw) (W : World) : Prop := Gs W x.A x.n x.l ∧ Laid W
theorem Gs.keep {W W' : World} {A : Option Addr} {n : Nat} {l : List (List Nat)} (h : Gs W A n l) {row : Option Nat} (hg : W.grownBy W' row) (hr : ∀ r, row = some r → ∃ o : Obj, W.heap[r]? = some o ∧ o.isCells = false) : Gs W' A n l :=
  ⟨h.len, h.ok, fun hn => by
    obtain ⟨b, o, e, hb, hc⟩ := h.cel hn
    refine ⟨b, o, e, Nat.lt_of_lt_of_le hb hg.size, fun j v hj => ?_⟩
    have h1 := hc j v hj
    rw [← h1]
    unfold World.cell? at h1
    cases hw : W.heap[b]? with
    | none => simp [hw] at h1
    | some ob =>
      cases ob with
      | cells cs T fr =>
        have h2 := grownBy_keeps_cells hg hr hw rfl
        unfold World.cell?
        simp only [h2, hw]
      | _ => simp [hw] at h1⟩
theorem Laid.keep {W W' : World} (h : Laid W) {row : Option Nat} (hg : W.grownBy W' row) (hr : ∀ r, row = some r → ∃ o : Obj, W.heap[r]? = some o ∧ o.isCells = false) : Laid W' := by
  obtain ⟨T, fr, h1⟩ := h.start
  obtain ⟨T', fr', h2⟩ := h.roots
  exact ⟨⟨T, fr, (grownBy_keeps_cells hg hr h1 rfl).trans h1⟩, ⟨T', fr', (grownBy_keeps_cells hg hr h2 rfl).trans h2⟩⟩
theorem rrd_own (B : Nat) : OwnFrom B RRd := fun s W W' row hs hg hr => ⟨hs.1.keep hg fun r e => (hr r e).2, hs.2.keep hg fun r e => (hr r e).2⟩
structure RIt (s : Nat) (ids : List (List Nat)) (J : List Rw → World → Prop) (wr : World) (x : Rw) : Prop where
  told : ∃ pre W0, J pre W0 ∧ Below W0.heap.size W0 wr ∧ (x.n = 0 → J pre wr) ∧ (0 < x.n → RFr s x W0 wr) ∧ pre.map (·.l) ++ rowsOf joinS x.l = rowsOf joinS ids
  len : x.l.length = x.n
  laid : Laid wr

set_option maxRecDepth 100000 in
set_option maxHeartbeats 2000000 in
theorem rows1_in (l Bx s : Nat) (A : Option Addr) (n c : Nat) (ids : List (List Nat)) (J Jx : List Rw → World → Prop)
    (hY : ∀ pre x W0 W1, J pre W0 → Below W0.heap.size W0 W1 → RFr s x W0 W1 → RPre ids (pre ++ [x]) → YieldAt Fence.wide 1 Tryd.prog l (rwE x) W1 fun e W' => (e = .returned (.bool true) ∧ J (pre ++ [x]) W' ∧ RRd x W') ∨ (e = .returned (.bool false) ∧ Jx (pre ++ [x]) W'))
    (W : World) (hBx : Boxed W Bx 22 (.slice A n c)) (hG : Gs W A n ids) (hLd : Laid W) (hold : ∀ a, 0 < n → A = some a → a.block < s) (hn : n ≤ 1000000) (h0 : J [] W) :
    CallsIn Fence.wide 2 Tryd.prog 29 #[.func (.yield l) #[] #[], .pointer (some ⟨Bx, 0, none⟩)] W fun e W' => (∃ v, e = .returned v) ∧
      ((∃ ys, RTell ids ys ∧ J ys W') ∨ (∃ pre, RPre ids pre ∧ Jx pre W')) := by
  have c1 := hBx.cell
  have HG := Lib.hid hG
  have HD := Lib.hid hLd
  have HO := Lib.hid hold
  refine callsIn_of_wp Tryd.func29 rfl trivial ?_ rfl
  simp only [Tryd.ntmps29, List.size_toArray, List.length_cons, List.length_nil, Nat.reduceAdd, Nat.reduceSub, Array.replicate_succ, Array.replicate_zero, List.push_toArray, List.append_toArray, List.nil_append, List.cons_append]
  clear hG hLd hold
  refine wpIn_scope_wide ?_
  gi_wp2
  refine wpIn_label ?_
  gi_wp2
  gi_loopw [3] (fun v wr => ∃ x : Rw, v = .slice x.A x.n x.c ∧ RIt s ids J wr x ∧ x.n ≤ 1000000) (fun v _ => match v with | .slice _ m _ => m | _ => 0)
  case atStart => exact ⟨⟨A, n, c, ids⟩, rfl, ⟨⟨[], W, h0, Below.refl _ _, fun _ => h0, fun hp => ⟨HG.out, fun a e => .inl (HO.out a hp e), hp, hn⟩, rfl⟩, HG.out.len, HD.out⟩, hn⟩
  case round =>
    obtain ⟨⟨A', m, c', l'⟩, rfl, ⟨⟨pre, W0, hJ, hB, hz0, hF, hT⟩, hlen, hld⟩, hm⟩ := hrel
    dsimp only at hm hz0 hF hT hlen
    have HL' := Lib.hid hlen
    have HT := Lib.hid hT
    have HLD := Lib.hid hld
    clear hlen hT hld
    by_cases hz : m = 0
    · subst hz
      have E0 := Lib.hid (hz0 rfl)
      clear hz0 hF hB hJ
      gi_wp2
      refine ⟨fun f (e : none = some f) => (by cases e), ?_⟩
      gi_wp2
      rw [Exit.noGoto_normal]
      refine bodyPost_end (results_none rfl _ _ _) rfl ?_
      refine ⟨⟨_, rfl⟩, .inl ⟨pre, ?_, E0.out⟩⟩
      have e := HT.out
      rw [List.eq_nil_of_length_eq_zero HL'.out, rows_nil, List.append_nil] at e
      exact e
    · have u1 : ((m : Int) == 0) = false := by rw [beq_eq_false_iff_ne]; omega
      have hsp : RPre ids (pre ++ [⟨A', m, c', l'⟩]) := by
        by_cases h1 : m = 1
        · exact ⟨[], by rw [← HT.out, List.map_append, List.append_nil, rows_one joinS (by rw [HL'.out]; exact h1)]; rfl⟩
        · exact ⟨rowsOf joinS (up joinS l'), by rw [← HT.out, List.map_append, rows_up joinS (l := l') (by rw [HL'.out]; omega), List.append_assoc]; rfl⟩
      obtain ⟨fn, tmps, assign, body, hy, hR⟩ := hY pre ⟨A', m, c', l'⟩ W0 wr hJ hB (hF (by omega)) hsp
      dsimp only [rwE] at hy
      have HSP := Lib.hid hsp
      clear hz0 hF hB hJ hsp
      gi_wp2
      refine hR.mono ?_
      rintro e W3 (⟨rfl, hJ3, hrd⟩ | ⟨rfl, hJx3⟩)
      · have HJ3 := Lib.hid hJ3
        have HR3 := Lib.hid hrd
        clear hJ3 hrd hR hy
        by_cases h1 : m = 1
        · subst h1
          gi_wp2
          rw [Exit.noGoto_normal]
          refine bodyPost_end (results_none rfl _ _ _) rfl ?_
          refine ⟨⟨_, rfl⟩, .inl ⟨pre ++ [⟨A', 1, c', l'⟩], ?_, HJ3.out⟩⟩
          unfold RTell
          rw [← HT.out, List.map_append, rows_one joinS HL'.out]
          rfl
        · have u2 : ((m : Int) == 1) = false := by rw [beq_eq_false_iff_ne]; omega
          have CA := above_any (c := c') W3 HR3.out.2 hm HR3.out.1
          have HCA := Lib.hid CA
          clear CA
          gi_wp2_with (refine ⟨trivial, ?_⟩; gi_at_call 30; refine (callsIn_wide.2 HCA.out).mono ?_; rintro e w4 ⟨A4, c4, rfl, O4⟩)
          refine ⟨⟨⟨A4, (m + 1) / 2, c4, up joinS l'⟩, rfl, ⟨⟨pre ++ [⟨A', m, c', l'⟩], W3, HJ3.out, O4.bel, fun e => ?_, fun hp => ⟨O4.reads, fun a e => .inr ?_, hp, ?_⟩, ?_⟩, ?_, HR3.out.2.later HR3.out.2.lt O4.bel⟩, ?_⟩, ?_⟩
          · replace e : (m + 1) / 2 = 0 := e
            omega
          · replace e : A4 = some a := e
            subst e
            exact (O4.new a.block rfl).1
          · show (m + 1) / 2 ≤ 1000000
            omega
          · rw [← HT.out, List.map_append, rows_up joinS (l := l') (by rw [HL'.out]; omega), List.append_assoc]
            rfl
          · show (up joinS l').length = (m + 1) / 2
            rw [up_len, HL'.out]
          · show (m + 1) / 2 ≤ 1000000
            omega
          · show (m + 1) / 2 < m
            omega
      · gi_wp2
        rw [Exit.noGoto_normal]
        refine bodyPost_end (results_none rfl _ _ _) rfl ?_
        exact ⟨⟨_, rfl⟩, .inr ⟨_, HSP.out, hJx3⟩⟩
theorem rows_tells (Bx s : Nat) (A : Option Addr) (n c : Nat) (ids : List (List Nat)) (w : World) (hBx : Boxed w Bx 22 (.slice A n c)) (hG : Gs w A n ids) (hLd : Laid w) (hold : ∀ a, 0 < n → A = some a → a.block < s) (hn : n ≤ 1000000) :
    SeqTells Fence.wide 2 Tryd.prog 29 #[.pointer (some ⟨Bx, 0, none⟩)] rwE (fun X Y => Below X.heap.size X Y) (RFr s) RRd (RTell ids) (RPre ids) w := fun l J Jx W hW _ _ hY h0 =>
  rows1_in l Bx s A n c ids J Jx hY W ((hW.block Bx hBx.lt).trans hBx) (hG.later hW) (hLd.later hLd.lt hW) hold hn h0
end Go.Proofs.YtdenibigefchpaaDoor
