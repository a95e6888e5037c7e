/- What is read weighs no more than its bytes; and the closure that catches a reader's panic. No condition. -/
import Derived.Test.YtbdjcbdnhaddoaaDoorTxP9
import Derived.Test.YtbdjcbdnhaddoaaDoorMay
import Derived.Test.YtbdjcbdnhaddoaaDoorGs
import Derived.Defers
import Derived.Recover
import Derived.Laws.Pointers
import Derived.Deep.Cut
import Derived.Deep.CutRange

namespace Go.Proofs.YtbdjcbdnhaddoaaDoor
open Go.RowKit

theorem listP_sum {α : Type} {p : List Nat → Option (α × List Nat)} {f : α → Nat} (hp : ∀ b x r, p b = some (x, r) → AllB b → r.length + f x ≤ b.length ∧ AllB r) : ∀ (n : Nat) {b r : List Nat} {l : List α}, listP p n b = some (l, r) → AllB b → r.length + (l.map f).sum ≤ b.length ∧ AllB r
  | 0, b, r, l, h, hb => by
    injection h with h
    simp only [Prod.mk.injEq] at h
    obtain ⟨rfl, rfl⟩ := h
    exact ⟨by simp, hb⟩
  | n + 1, b, r, l, h, hb => by
    unfold listP at h
    obtain ⟨⟨x, r1⟩, h1, h2⟩ := Option.bind_eq_some_iff.1 h
    obtain ⟨⟨l2, r2⟩, h3, h4⟩ := Option.map_eq_some_iff.1 h2
    simp only [Prod.mk.injEq] at h4
    obtain ⟨rfl, rfl⟩ := h4
    obtain ⟨a1, a2⟩ := hp _ _ _ h1 hb
    obtain ⟨c1, c2⟩ := listP_sum hp n h3 a2
    dsimp only at c1
    exact ⟨by rw [List.map_cons, List.sum_cons]; omega, c2⟩
theorem zip_sum : ∀ (is : List InD) (ws : List (List (List Nat))), ws.length = is.length → ((List.zipWith withW is ws).map fun i => 41 + i.s.length + (i.w.map fun x => 1 + x.length).sum).sum = (is.map fun i => 41 + i.s.length).sum + (ws.map fun w => (w.map fun x => 1 + x.length).sum).sum
  | [], [], _ => rfl
  | i :: is, w :: ws, h => by
    have := zip_sum is ws (by simpa using h)
    rw [List.zipWith_cons_cons, List.map_cons, List.sum_cons, this, List.map_cons, List.sum_cons, List.map_cons, List.sum_cons]
    show 41 + i.s.length + (w.map fun x => 1 + x.length).sum + _ = _
    omega
  | [], _ :: _, h => by simp at h
  | _ :: _, [], h => by simp at h
theorem bare_sum : ∀ (is : List InD), (∀ i ∈ is, i.w = []) → (is.map fun i => 41 + i.s.length + (i.w.map fun x => 1 + x.length).sum).sum = (is.map fun i => 41 + i.s.length).sum := by
  intro is h
  congr 1
  apply List.map_congr_left
  intro i hi
  rw [h i hi]; rfl
/-- What is read weighs no more than its bytes. -/
theorem txP_weigh {L R : List Nat} {t : TxD} (h : txP L = some (t, R)) (hb : AllB L) : weigh t ≤ L.length := by
  cases h1 : numP 4 L with
  | none => unfold txP at h; rw [h1] at h; cases h
  | some v =>
    obtain ⟨ver, r1⟩ := v
    rw [txP_eq h1 rfl] at h
    obtain ⟨l1, b1, _⟩ := numP_some h1 hb
    obtain ⟨mk, hmk⟩ : ∃ mk, marked r1 = mk := ⟨_, rfl⟩
    rw [hmk] at h
    have b2 : AllB (if mk then r1.drop 2 else r1) ∧ (if mk then r1.drop 2 else r1).length ≤ r1.length := by
      cases mk
      · exact ⟨b1, Nat.le_refl _⟩
      · exact ⟨fun x hx => b1 x (List.mem_of_mem_drop hx), by show (r1.drop 2).length ≤ _; rw [List.length_drop]; omega⟩
    obtain ⟨⟨n, r3⟩, h2, h⟩ := Option.bind_eq_some_iff.1 h
    obtain ⟨l3, b3, _⟩ := cntP_some h2 b2.1
    obtain ⟨⟨is, r4⟩, h3, h⟩ := Option.bind_eq_some_iff.1 h
    obtain ⟨l4, b4⟩ := listP_sum (f := fun i => 41 + i.s.length) (fun b x r h k => by have := inP_some h k; exact ⟨by omega, this.2.1⟩) n h3 b3
    have w4 := (listP_some (G := fun i : InD => i.w = []) (fun b x r h k => by have := inP_some h k; exact ⟨by omega, this.2.1, this.2.2.2⟩) n h3 b3).2.2.2
    obtain ⟨⟨m, r5⟩, h4, h⟩ := Option.bind_eq_some_iff.1 h
    obtain ⟨l5, b5, _⟩ := cntP_some h4 b4
    obtain ⟨⟨os, r6⟩, h5, h⟩ := Option.bind_eq_some_iff.1 h
    obtain ⟨l6, b6⟩ := listP_sum (f := fun o => 9 + o.s.length) (fun b x r h k => by have := outP_some h k; exact ⟨by omega, this.2.1⟩) m h5 b5
    obtain ⟨⟨is2, r7⟩, h6, h⟩ := Option.bind_eq_some_iff.1 h
    obtain ⟨⟨lk, r8⟩, h7, h8⟩ := Option.map_eq_some_iff.1 h
    simp only [Prod.mk.injEq] at h8
    obtain ⟨rfl, rfl⟩ := h8
    have key : (is2.map fun i => 41 + i.s.length + (i.w.map fun x => 1 + x.length).sum).sum + r7.length ≤ (is.map fun i => 41 + i.s.length).sum + r6.length := by
      unfold witsP at h6
      cases mk with
      | false =>
        rw [if_neg (by decide)] at h6
        injection h6 with h6
        simp only [Prod.mk.injEq] at h6
        obtain ⟨rfl, rfl⟩ := h6
        rw [bare_sum is w4]
        exact Nat.le_refl _
      | true =>
        rw [if_pos rfl] at h6
        obtain ⟨⟨ws, r7'⟩, h9, h10⟩ := Option.map_eq_some_iff.1 h6
        simp only [Prod.mk.injEq] at h10
        obtain ⟨rfl, rfl⟩ := h10
        have hl := (listP_some witP_eats is.length h9 b6).2.2.1
        obtain ⟨l7, b7⟩ := listP_sum (f := fun w => (w.map fun x => 1 + x.length).sum) (fun b x r h k => by
          unfold witP at h
          obtain ⟨⟨n, r1⟩, h1, h⟩ := Option.bind_eq_some_iff.1 h
          obtain ⟨l1, b1, _⟩ := cntP_some h1 k
          obtain ⟨a1, a2⟩ := listP_sum (f := fun x => 1 + x.length) (fun b x r h k => by have := itemP_some h k; exact ⟨by omega, this.2.1⟩) n h b1
          dsimp only at *
          exact ⟨by omega, a2⟩) is.length h9 b6
        rw [zip_sum is ws hl]
        dsimp only at *
        omega
    unfold weigh
    dsimp only at *
    omega

/-! ### the closure -/
set_option maxRecDepth 100000 in
set_option maxHeartbeats 2000000 in
theorem catch_panicking (p q : Nat) (pv : Value) (u : TypeId) (older : List PanicEntry) (w : World) {zs : List Value} {v : Value} (hp : Ro w p 26 zs) (hz : zs.length = 4) (hq : Ro w q 34 [v]) (hne : p ≠ q) :
    CallsD Tryd.prog 57 #[.pointer (some ⟨p, 0, none⟩), .pointer (some ⟨q, 0, none⟩)] (.panicking ({ v := .iface u pv, recovered := false } :: older)) w fun e u' w' =>
      e = .returned (.tuple #[]) ∧ u' = .panicking ({ v := .iface u pv, recovered := true } :: older) ∧ Ro w' p 26 zTx ∧ Ro w' q 34 [.int .i64 5] ∧ Below (min p q) w w' := by
  have z0 := zeroTx
  have c1 := hq.cell (k := 0) rfl
  refine callsD_of_wpS Tryd.func57 rfl fun c₀ cs hu => ?_
  apply wpS_seq
  apply wpS_region
  simp [wpOpsS, go_sem, recoverD, hu, Tryd.ntmps57, Exit.thenS]
  refine wpS_cond (t := true) (by simp [Act.eval, Array.replicate]) ?_
  simp only [if_true]
  refine wpS_of_wp ?_
  have HP := Lib.hid hp
  have HQ := Lib.hid hq
  clear hp hq c1
  simp only [Array.replicate_succ, Array.replicate_zero, List.push_toArray, List.setIfInBounds_toArray, List.nil_append, List.cons_append, List.set_cons_zero, List.set_cons_succ, List.append_toArray]
  go_wp2_with (refine wpList_store_ro rfl (.tmp 0) (.tmp 4) rfl (vs := zTx) rfl rfl rowTx HP.out hz rfl (txV_one _ _ _ _ _ _ _ _) ?_)
  intro w1 R1 g1
  have Q1 := Lib.hid (HQ.out.far g1 (fun e => hne (by injection e with e; exact e.symm)))
  have c1 := Q1.out.cell (k := 0) rfl
  have f1 := Q1.out.free 0
  have B1 := Lib.hid ((Below.refl (min p q) w).grown g1 (by have := HP.out.lt; omega) (fun k e => by injection e; omega))
  have HR1 := Lib.hid R1
  clear R1 g1
  go_wp2_with fail
  refine ⟨rfl, _, rfl, _, by simp [results, Tryd.results57, go_sem], rfl, rfl, HR1.out.other hne _, ?_, B1.out.setCell (p := ⟨q, 0, none⟩) (by show min p q ≤ q; omega) _⟩
  exact Q1.out.set 0 _

set_option maxRecDepth 100000 in
set_option maxHeartbeats 2000000 in
theorem catch_idle (p q : Nat) (w : World) :
    CallsD Tryd.prog 57 #[.pointer (some ⟨p, 0, none⟩), .pointer (some ⟨q, 0, none⟩)] .returning w fun e u' w' => e = .returned (.tuple #[]) ∧ u' = .returning ∧ w' = w := by
  refine callsD_of_wpS Tryd.func57 rfl fun c₀ cs hu => ?_
  apply wpS_seq
  apply wpS_region
  simp [wpOpsS, go_sem, recoverD, hu, Tryd.ntmps57, Exit.thenS]
  refine wpS_cond (t := false) (by simp [Act.eval, Array.replicate]) ?_
  simp only [Bool.false_eq_true, if_false]
  refine wpS_of_wp (wp_skip ?_)
  cases c₀
  simp_all [bodyPostS, results, Tryd.results57]
end Go.Proofs.YtbdjcbdnhaddoaaDoor

/- tx.Get: the transaction that bytes are. Condition: the bytes lie in memory. -/
namespace Go.Proofs.YtbdjcbdnhaddoaaDoor
open Go.RowKit

theorem results_ro2 {fn : Func} {p q : Tmp} {T S : TypeId} {n : Nat} (h : fn.results = #[.cell p T, .tmp q]) (tmps : Array Value) {w : World} {b : Nat} {vs : List Value} {v : Value} (hp : tmps.getD p undef = .pointer (some ⟨b, 0, none⟩)) (hT : IsRow T n) (hr : Ro w b S vs) (hl : vs.length = n) (hq : tmps.getD q undef = v) :
    (results fn tmps).run Tryd.prog w = .ok (.tuple #[.agg vs.toArray, v]) w := by
  have hp' : tmps[p]?.getD undef = .pointer (some ⟨b, 0, none⟩) := by simpa using hp
  have hq' : tmps[q]?.getD undef = v := by simpa using hq
  have key : (loadVar T ⟨b, 0, none⟩).run Tryd.prog w = .ok (.agg vs.toArray) w := by
    obtain ⟨⟨f, h1⟩ | ⟨k, e, h1⟩, h3⟩ := hT
    · exact run_loadVar_row w b S T vs.toArray (0, 0) _ hr h1 rfl (by rw [h3]; simp [hl])
    · exact run_loadVar_row w b S T vs.toArray (0, 0) _ hr h1 rfl (by rw [h3]; simp [hl])
  simp [results, h, hp', hq', asAddr, key]
def GetEnd (w : World) (T : TxD) (E : Nat) (e : Ending) (w' : World) : Prop := ∃ Ai ni ci Ao no co, e = .returned (.tuple #[.agg (txV T.ver Ai ni ci Ao no co T.lock).toArray, .int .i64 (E : Int)]) ∧ TxG w' (fun b => w.heap.size ≤ b) T Ai ni ci Ao no co ∧ Below w.heap.size w w'
theorem zeroR (w : World) (P : Nat → Prop) : TxG w P zeroT none 0 0 none 0 0 := ⟨by decide, by decide, Nat.le_refl _, by decide, Rows.nil _ _ _ _ _, Nat.le_refl _, by decide, Rows.nil _ _ _ _ _⟩
theorem rowRd : IsRow 81 1 := ⟨.inl ⟨_, Tryd.underlying81⟩, by kernel_rfl⟩
theorem zeroRd : ∀ w, (zeroValue 81).run Tryd.prog w = .ok (.agg #[.slice none 0 0]) w := fun w => by kernel_rfl
theorem results_two {fn : Func} {p q : Tmp} {T S : TypeId} {n : Nat} (h : fn.results = #[.cell p T, .cell q 34]) (tmps : Array Value) {w : World} {b b2 : Nat} {vs : List Value} {E : Nat} (hp : tmps.getD p undef = .pointer (some ⟨b, 0, none⟩)) (hT : IsRow T n) (hr : Ro w b S vs) (hl : vs.length = n) (hq : tmps.getD q undef = .pointer (some ⟨b2, 0, none⟩)) (h2 : Ro w b2 34 [.int .i64 (E : Int)]) :
    (results fn tmps).run Tryd.prog w = .ok (.tuple #[.agg vs.toArray, .int .i64 (E : Int)]) w := by
  have hp' : tmps[p]?.getD undef = .pointer (some ⟨b, 0, none⟩) := by simpa using hp
  have hq' : tmps[q]?.getD undef = .pointer (some ⟨b2, 0, none⟩) := by simpa using hq
  have key : (loadVar T ⟨b, 0, none⟩).run Tryd.prog w = .ok (.agg vs.toArray) w := by
    obtain ⟨⟨f, h1⟩ | ⟨k, e, h1⟩, h3⟩ := hT
    · exact run_loadVar_row w b S T vs.toArray (0, 0) _ hr h1 rfl (by rw [h3]; simp [hl])
    · exact run_loadVar_row w b S T vs.toArray (0, 0) _ hr h1 rfl (by rw [h3]; simp [hl])
  have c := h2.cell (k := 0) rfl
  have key2 : (loadVar 34 ⟨b2, 0, none⟩).run Tryd.prog w = .ok (.int .i64 (E : Int)) w := by
    simp [go_sem, c]
  simp [results, h, hp', hq', asAddr, key, key2]

theorem get_none {L : List Nat} (hn : L.length ≤ 16384) (h : txP L = none) : getE L = 5 ∧ getT L = zeroT := by
  unfold getE getT
  rw [if_neg (by omega), if_neg (by omega), h]
  exact ⟨rfl, rfl⟩
theorem get_rest {L R : List Nat} {t : TxD} (hn : L.length ≤ 16384) (h : txP L = some (t, R)) (hR : 0 < R.length) : getE L = 5 ∧ getT L = zeroT := by
  unfold getE getT
  rw [if_neg (by omega), if_neg (by omega), h]
  cases R with
  | nil => cases hR
  | cons x R => exact ⟨rfl, rfl⟩
theorem get_not {L : List Nat} {t : TxD} (hn : L.length ≤ 16384) (h : txP L = some (t, [])) (hm : ¬ (May t ∧ putS t = L)) : getE L = 5 ∧ getT L = zeroT := by
  unfold getE getT
  rw [if_neg (by omega), if_neg (by omega), h]
  simp only [hm, if_false, and_self]
theorem get_yes {L : List Nat} {t : TxD} (hn : L.length ≤ 16384) (h : txP L = some (t, [])) (hm : May t ∧ putS t = L) : getE L = 0 ∧ getT L = t := by
  unfold getE getT
  rw [if_neg (by omega), if_neg (by omega), h]
  simp only [hm, if_true, and_self]

/-- The boxes at the door: what is given back. -/
structure Door (w w1 : World) (T : TxD) (E : Nat) : Prop where
  p : ∃ Ai ni ci Ao no co, Ro w1 w.heap.size 26 (txV T.ver Ai ni ci Ao no co T.lock) ∧ TxG w1 (fun b => w.heap.size ≤ b) T Ai ni ci Ao no co
  q : Ro w1 (w.heap.size + 1) 34 [.int .i64 (E : Int)]
  bel : Below w.heap.size w w1
theorem Door.leaves {w w1 : World} {T : TxD} {E : Nat} (D : Door w w1 T E) {tmps : Array Value} (hp : tmps.getD 2 undef = .pointer (some ⟨w.heap.size, 0, none⟩)) (hq : tmps.getD 3 undef = .pointer (some ⟨w.heap.size + 1, 0, none⟩)) : Leaves Tryd.prog Tryd.f38 tmps (GetEnd w T E) [] .returning w1 := by
  obtain ⟨Ai, ni, ci, Ao, no, co, P, t⟩ := D.p
  exact ⟨_, results_two Tryd.results38 _ hp rowTx P rfl hq D.q, Ai, ni, ci, Ao, no, co, rfl, t, D.bel⟩
/-- Where the body has returned. -/
theorem Door.ret {w w1 : World} {T : TxD} {E : Nat} (D : Door w w1 T E) {tmps : Array Value} (hp : tmps.getD 2 undef = .pointer (some ⟨w.heap.size, 0, none⟩)) (hq : tmps.getD 3 undef = .pointer (some ⟨w.heap.size + 1, 0, none⟩)) :
    Leaves Tryd.prog Tryd.f38 tmps (GetEnd w T E) [{ target := .fn (.func 57) #[.pointer (some ⟨w.heap.size, 0, none⟩), .pointer (some ⟨w.heap.size + 1, 0, none⟩)], args := #[] }] .returning w1 := by
  refine leaves_cons (f := 57) (args := #[.pointer (some ⟨w.heap.size, 0, none⟩), .pointer (some ⟨w.heap.size + 1, 0, none⟩)]) (by simp) (by simp [go_sem]) ?_
  refine (catch_idle w.heap.size (w.heap.size + 1) w1).mono ?_
  rintro e u' w5 ⟨rfl, rfl, rfl⟩
  exact D.leaves hp hq
/-- Where the body has panicked. -/
theorem door_panics {w w1 : World} {zs : List Value} {v : Value} (hP : Ro w1 w.heap.size 26 zs) (hz : zs.length = 4) (hQ : Ro w1 (w.heap.size + 1) 34 [v]) (B : Below w.heap.size w w1) {tmps : Array Value} (hp : tmps.getD 2 undef = .pointer (some ⟨w.heap.size, 0, none⟩)) (hq : tmps.getD 3 undef = .pointer (some ⟨w.heap.size + 1, 0, none⟩)) :
    Leaves Tryd.prog Tryd.f38 tmps (GetEnd w zeroT 5) [{ target := .fn (.func 57) #[.pointer (some ⟨w.heap.size, 0, none⟩), .pointer (some ⟨w.heap.size + 1, 0, none⟩)], args := #[] }] (.panicking shortP) w1 := by
  refine leaves_cons (f := 57) (args := #[.pointer (some ⟨w.heap.size, 0, none⟩), .pointer (some ⟨w.heap.size + 1, 0, none⟩)]) (by simp) (by simp [go_sem]) ?_
  refine (catch_panicking w.heap.size (w.heap.size + 1) _ _ [] w1 hP hz hQ (by omega)).mono ?_
  rintro e u' w5 ⟨rfl, rfl, P5, Q5, B5⟩
  have b : Below w.heap.size w w5 := B.trans (by rwa [Nat.min_eq_left (by omega)] at B5)
  exact Door.leaves (T := zeroT) (E := 5) ⟨⟨none, 0, 0, none, 0, 0, P5, zeroR _ _⟩, Q5, b⟩ hp hq

/-- What is known of a transaction that has been read. -/
structure Got (w w1 : World) (t : TxD) (Ai : Option Addr) (ni ci : Nat) (Ao : Option Addr) (no co : Nat) : Prop where
  p : Ro w1 w.heap.size 26 (txV t.ver Ai ni ci Ao no co t.lock)
  q : Ro w1 (w.heap.size + 1) 34 [.int .i64 0]
  t : TxG w1 (fun b => w.heap.size + 3 ≤ b) t Ai ni ci Ao no co
  bel : Below w.heap.size w w1
theorem Got.later {w w1 w2 : World} {t : TxD} {Ai : Option Addr} {ni ci : Nat} {Ao : Option Addr} {no co : Nat} (h : Got w w1 t Ai ni ci Ao no co) (g : Below w1.heap.size w1 w2) : Got w w2 t Ai ni ci Ao no co :=
  ⟨h.p.later g, h.q.later g, h.t.keep (Kept.of_below g), h.bel.trans (g.mono h.bel.size)⟩

set_option maxRecDepth 100000 in
set_option maxHeartbeats 8000000 in
theorem readWhole_any {A : Option Addr} {n c : Nat} {L : List Nat} (w : World) (hL : Bs w A n L) (hn : n ≤ 16384) (hc : n ≤ c) :
    Calls Tryd.prog 38 #[.slice A n c] w (GetEnd w (getT L) (getE L)) := by
  obtain rfl := hL.len
  have z0 := zeroTx
  have z1 := zeroRd
  have hmf : ∀ (fn : Fn) (first cap : Array Value) (w : World), (Instr.makeFunc fn first cap).run Tryd.prog w = .ok (.func fn first cap) w := fun _ _ _ _ => rfl
  have HL := Lib.hid hL
  obtain ⟨w2, hw2⟩ : ∃ w2, ((w.alloc (.cells zTx.toArray 26)).alloc (.cells #[.int .i64 0] 34)) = w2 := ⟨_, rfl⟩
  have b2 : Below w.heap.size w w2 := by rw [← hw2]; exact ((Below.refl _ w).alloc (Nat.le_refl _) _).alloc (by simp) _
  have s2 : w2.heap.size = w.heap.size + 2 := by rw [← hw2]; simp
  have P2 : Ro w2 w.heap.size 26 zTx := by rw [← hw2]; exact (Ro.new w _ zTx).alloc _
  have Q2 : Ro w2 (w.heap.size + 1) 34 [.int .i64 0] := by
    have := Ro.new (w.alloc (.cells zTx.toArray 26)) 34 [.int .i64 0]
    rw [World.size_alloc] at this
    rw [← hw2]; exact this
  have HW := Lib.hid hw2
  have B2 := Lib.hid b2
  have HP2 := Lib.hid P2
  have HQ2 := Lib.hid Q2
  have S2 := Lib.hid s2
  clear hw2 b2 P2 Q2 s2 hL
  go_enter_defers Tryd.func38, Tryd.ntmps38
  have b3 := (Below.refl w2.heap.size w2).alloc (Nat.le_refl _) (.cells #[.slice A L.length c] 81)
  have R3 : Hid (Reader w (w2.alloc (.cells #[.slice A L.length c] 81)) (w.heap.size + 1 + 1) L) := Lib.hid ⟨⟨A, L.length, c, by
    have := Ro.new w2 81 [.slice A L.length c]
    rw [S2.out] at this
    exact this, hc, by omega, HL.out⟩, by omega, B2.out.trans (b3.mono B2.out.size)⟩
  have P3 := HP2.out.later b3
  have Q3 := HQ2.out.later b3
  have sz3 : (w2.alloc (.cells #[.slice A L.length c] 81)).heap.size = w.heap.size + 3 := by rw [World.size_alloc, S2.out]
  obtain ⟨w3, hw3⟩ : ∃ w3, w2.alloc (.cells #[.slice A L.length c] 81) = w3 := ⟨_, rfl⟩
  rw [hw3] at R3 P3 Q3 sz3
  have HW3 := Lib.hid hw3
  have HP3 := Lib.hid P3
  have HQ3 := Lib.hid Q3
  have C := Lib.hid (tx_any R3.out)
  have HN := Lib.hid hn
  clear b3 P3 Q3 hw3 HP2 HQ2 S2 B2
  go_wp2_with (go_at_call 58; rw [HW.out, HW3.out]; refine C.out.mono ?_)
  rintro e w4 (⟨t, R', h4, Ai, ni, ci, Ao, no, co, rfl, T4, R4, G4⟩ | ⟨h4, rfl, G4⟩)
  case inr =>
    obtain ⟨e1, e2⟩ := get_none HN.out h4
    rw [e1, e2]
    exact door_panics (HP3.out.far G4 (fun e => by injection e; omega)) rfl (HQ3.out.far G4 (fun e => by injection e; omega)) (gr_bel R3.out.bel G4 (by omega)) rfl rfl
  have hwt := txP_weigh h4 HL.out.byt
  have wt : weigh t ≤ 100000000 := by have := HN.out; omega
  have H4 := Lib.hid h4
  have HT4 := Lib.hid T4
  have HR4 := Lib.hid R4
  have HP4 := Lib.hid (HP3.out.far G4 (fun e => by injection e; omega))
  have HQ4 := Lib.hid (HQ3.out.far G4 (fun e => by injection e; omega))
  clear h4 T4 R4 G4 C HP3 HQ3 R3 HW HW3 hwt
  go_upto_region 4 with (refine wpList_store_ro rfl (.tmp 2) (.tmp 8) rfl (vs := txV t.ver Ai ni ci Ao no co t.lock) rfl rfl rowTx HP4.out rfl rfl (txV_one _ _ _ _ _ _ _ _) ?_)
  intro w5 R5 g5
  have b5 := (Below.refl w.heap.size w4).grown g5 (by have := HR4.out.bel.size; exact this) (fun q e => by injection e; omega)
  have D5 : Hid (Got w w5 t Ai ni ci Ao no co) := Lib.hid ⟨R5, HQ4.out.far g5 (fun e => by injection e; omega), (HT4.out.weak fun b hb _ => by omega).keep (kept_off g5 (by omega)), HR4.out.bel.trans b5⟩
  obtain ⟨Ar, nr, cr, hbx, _, hnr, hbr⟩ := HR4.out.box
  have lr := hbr.len
  have c0 := (hbx.far g5 (fun e => by injection e; omega)).cell (k := 0) rfl
  subst lr
  clear R5 g5 b5 HR4 HP4 HQ4 HT4 hbx hbr
  go_upto_region 4 with fail
  go_cut [24] from 9 to 24 (fun b wx => b = .bool (decide (¬ (R' = [] ∧ May t ∧ putS t = L))) ∧ Got w wx t Ai ni ci Ao no co)
  case first =>
    by_cases hR : 0 < R'.length
    · have t1 : decide (0 < (R'.length : Int)) = true := decide_eq_true (by omega)
      have HD : Hid (decide (¬ (R' = [] ∧ May t ∧ putS t = L)) = true) := Lib.hid (decide_eq_true fun h => by rw [h.1] at hR; exact absurd hR (by decide))
      go_wp2_with fail
      go_meet
      exact ⟨by rw [HD.out], D5.out⟩
    · have t1 : decide (0 < (R'.length : Int)) = false := decide_eq_false (by omega)
      have hnil : R' = [] := List.eq_nil_of_length_eq_zero (by omega)
      have HNIL := Lib.hid hnil
      have M := Lib.hid (txMay_any w5 wt D5.out.t.r)
      clear hnil
      by_cases hm : May t
      · have HM := Lib.hid hm
        have dm : decide (May t) = true := decide_eq_true hm
        rw [dm] at M
        clear dm hm
        have hq2 : (decide (¬ (R' = [] ∧ May t ∧ putS t = L))) = !decide (putS t = L) := by
          have e : (R' = [] ∧ May t ∧ putS t = L) ↔ putS t = L := ⟨fun h => h.2.2, fun h => ⟨HNIL.out, HM.out, h⟩⟩
          simp only [e, decide_not]
        have HQ := Lib.hid hq2
        obtain ⟨eq, heq⟩ : ∃ eq, decide (putS t = L) = eq := ⟨_, rfl⟩
        rw [heq] at HQ
        have HEQ := Lib.hid heq
        clear hq2 heq
        go_wp2_with (first
          | (go_at_call 19; refine M.out.mono ?_; rintro e w6 ⟨rfl, b6⟩; have D6 := Lib.hid (D5.out.later b6); clear D5 b6)
          | (go_at_call 13; refine (txPut_any w6 wt D6.out.t.r).mono ?_; rintro e w7 ⟨A7, n7, c7, rfl, hc7, O7⟩; have O := Lib.hid O7; have D7 := Lib.hid (D6.out.later O7.bel); clear D6 O7)
          | (go_at_call 59; refine (bytesEqual_any w7 O.out.reads (HL.out.later D7.out.bel)).mono ?_; rintro e w8 ⟨rfl, rfl⟩; rw [HEQ.out])
          | (refine BigFrame.wpList_want (by rfl) fun K hK => wp_load_part rfl (.tmp 2) rfl rfl rowTx D5.out.p.whole rfl (hK _ _ ?_))
          | (refine BigFrame.wpList_want (by rfl) fun K hK => wp_load_part rfl (.tmp 2) rfl rfl rowTx D6.out.p.whole rfl (hK _ _ ?_)))
        go_meet
        exact ⟨by rw [HQ.out], D7.out⟩
      · have dm : decide (May t) = false := decide_eq_false hm
        have HD : Hid (decide (¬ (R' = [] ∧ May t ∧ putS t = L)) = true) := Lib.hid (decide_eq_true fun h => hm h.2.1)
        rw [dm] at M
        clear dm hm
        go_wp2_with (first | (go_at_call 19; refine M.out.mono ?_; rintro e w6 ⟨rfl, b6⟩; have D6 := Lib.hid (D5.out.later b6); clear D5 b6) | (refine BigFrame.wpList_want (by rfl) fun K hK => wp_load_part rfl (.tmp 2) rfl rfl rowTx D5.out.p.whole rfl (hK _ _ ?_)))
        go_meet
        exact ⟨by rw [HD.out], D6.out⟩
  case rest =>
    obtain ⟨rfl, hg⟩ := hcut
    have D6 := Lib.hid hg
    clear hg c0 D5
    by_cases hD : R' = [] ∧ May t ∧ putS t = L
    · have d1 : decide (¬ (R' = [] ∧ May t ∧ putS t = L)) = false := decide_eq_false (fun h => h hD)
      have HE := Lib.hid (get_yes HN.out (by rw [← hD.1]; exact H4.out) hD.2)
      rw [d1]
      clear d1 hD
      go_wp2_with (first | (refine wpList_load_part rfl (.tmp 2) rfl rfl rowTx D6.out.p.whole rfl ?_) | (refine wpList_store_ro rfl (.tmp 2) (.tmp 26) rfl rfl rfl rowTx D6.out.p rfl rfl (txV_one _ _ _ _ _ _ _ _) ?_))
      intro w7 R7 g7
      have hs7 := D6.out.bel.size
      have b7 := Lib.hid (D6.out.bel.trans ((Below.refl w.heap.size _).grown g7 hs7 (fun q e => by injection e; omega)))
      have Q7 := Lib.hid (D6.out.q.far g7 (fun e => by injection e; omega))
      have T7 := Lib.hid (D6.out.t.keep (kept_off g7 (by omega)))
      have HR7 := Lib.hid R7
      have c7 := Q7.out.cell (k := 0) rfl
      have f7 := Q7.out.free 0
      clear R7 g7 D6
      go_wp2_with fail
      rw [HE.out.1, HE.out.2]
      refine Door.ret (T := t) (E := 0) ⟨⟨Ai, ni, ci, Ao, no, co, HR7.out.other (by omega) _, (T7.out.keep (kept_off (gr_set _ (w.heap.size + 1) 0 _) (by omega))).weak fun b hb _ => by omega⟩, Q7.out.set 0 _, b7.out.setCell (p := ⟨w.heap.size + 1, 0, none⟩) (Nat.le_succ _) _⟩ rfl rfl
    · have d1 : decide (¬ (R' = [] ∧ May t ∧ putS t = L)) = true := decide_eq_true hD
      have HE : Hid (getE L = 5 ∧ getT L = zeroT) := Lib.hid (by
        by_cases hR : 0 < R'.length
        · exact get_rest HN.out H4.out hR
        · have hnil : R' = [] := List.eq_nil_of_length_eq_zero (by omega)
          have h4 := H4.out
          rw [hnil] at h4
          exact get_not HN.out h4 fun h => hD ⟨hnil, h⟩)
      rw [d1]
      clear d1 hD
      go_wp2_with (refine wpList_store_ro rfl (.tmp 2) (.tmp 25) rfl (vs := zTx) rfl rfl rowTx D6.out.p rfl rfl (txV_one _ _ _ _ _ _ _ _) ?_)
      intro w7 R7 g7
      have hs7 := D6.out.bel.size
      have b7 := Lib.hid (D6.out.bel.trans ((Below.refl w.heap.size _).grown g7 hs7 (fun q e => by injection e; omega)))
      have Q7 := Lib.hid (D6.out.q.far g7 (fun e => by injection e; omega))
      have HR7 := Lib.hid R7
      have c7 := Q7.out.cell (k := 0) rfl
      have f7 := Q7.out.free 0
      clear R7 g7 D6
      go_wp2_with fail
      rw [HE.out.1, HE.out.2]
      exact Door.ret (T := zeroT) (E := 5) ⟨⟨none, 0, 0, none, 0, 0, HR7.out.other (by omega) _, zeroR _ _⟩, Q7.out.set 0 _, b7.out.setCell (p := ⟨w.heap.size + 1, 0, none⟩) (Nat.le_succ _) _⟩ rfl rfl

set_option maxRecDepth 100000 in
set_option maxHeartbeats 2000000 in
theorem txGet_any {A : Option Addr} {n c : Nat} {L : List Nat} (w : World) (hL : Bs w A n L) (hn : n ≤ 1073741824) (hc : n ≤ c) :
    Calls Tryd.prog 23 #[.slice A n c] w (GetEnd w (getT L) (getE L)) := by
  obtain rfl := hL.len
  have z0 := zeroTx
  have b1 := (Below.refl w.heap.size w).alloc (Nat.le_refl _) (.cells zTx.toArray 26)
  have P1 := Lib.hid (Ro.new w 26 zTx)
  have B1 := Lib.hid b1
  have HL := Lib.hid (hL.later b1)
  clear b1 hL
  by_cases hl : 16384 < L.length
  · have t1 : decide (16384 < (L.length : Int)) = true := decide_eq_true (by omega)
    have HE := Lib.hid (get_long hl)
    go_enter Tryd.func23, Tryd.ntmps23
    go_wp2_with (refine wpList_store_ro rfl (.tmp 2) (.tmp 7) rfl (vs := zTx) rfl rfl rowTx P1.out rfl rfl (txV_one _ _ _ _ _ _ _ _) ?_)
    intro w7 R7 g7
    have HR7 := Lib.hid R7
    have B7 := Lib.hid (B1.out.grown g7 (by simp) (fun q e => by injection e; omega))
    clear R7 g7
    go_wp2_with fail
    rw [HE.out.1, HE.out.2]
    exact bodyPost_ret (results_ro2 Tryd.results23 _ rfl rowTx HR7.out rfl rfl) rfl ⟨none, 0, 0, none, 0, 0, rfl, zeroR _ _, B7.out⟩
  · have t1 : decide (16384 < (L.length : Int)) = false := decide_eq_false (by omega)
    have C := Lib.hid (readWhole_any _ HL.out (by omega) hc)
    go_enter Tryd.func23, Tryd.ntmps23
    go_wp2_with (first
      | (go_at_call 38; refine C.out.mono ?_; rintro e w2 ⟨Ai, ni, ci, Ao, no, co, rfl, T2, b2⟩; have HT2 := Lib.hid T2; have HB2 := Lib.hid b2; clear T2 b2)
      | (refine wpList_store_ro rfl (.tmp 2) (.tmp 10) rfl (vs := txV (getT L).ver Ai ni ci Ao no co (getT L).lock) rfl rfl rowTx (P1.out.later HB2.out) rfl rfl (txV_one _ _ _ _ _ _ _ _) ?_))
    intro w7 R7 g7
    have HR7 := Lib.hid R7
    have b2 := B1.out.trans (HB2.out.mono B1.out.size)
    have B7 := Lib.hid (b2.grown g7 b2.size (fun q e => by injection e; omega))
    have T7 := Lib.hid ((HT2.out.weak (Q := fun b => w.heap.size + 1 ≤ b) fun b hb _ => by rw [World.size_alloc] at hb; exact hb).keep (kept_off g7 (by omega)))
    clear R7 g7 b2
    go_wp2_with fail
    exact bodyPost_ret (results_ro2 Tryd.results23 _ rfl rowTx HR7.out rfl rfl) rfl ⟨Ai, ni, ci, Ao, no, co, rfl, T7.out.weak fun b hb _ => by omega, B7.out⟩
end Go.Proofs.YtbdjcbdnhaddoaaDoor
