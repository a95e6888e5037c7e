/- append onto bytes that are held, and onto lines: what comes of it, and in which block it lies. No condition but a bound on the lengths. -/
import Derived.Test.YtfmfooocfcdalaaFeedI
namespace Go.Proofs.Ytfmfooocfcdalaa
open Go.RowKit Go.Shelf

theorem Try.infoSlice : (Try.prog.info? 27).map (fun i => (i.zero, i.size, i.bytes)) = some (some (.slice none 0 0), 1, 24) := by kernel_rfl

theorem run_appB {w0 w : World} {v : Value} {L M : List Nat} {A : Option Addr} {m c : Nat} (ty : TypeId) (hown : Own w0 v L.length L w) (hr : Bs w A m M) (hlen : L.length + m ≤ 1099511627776) :
    ∃ v' w', (Builtin.append_ #[27, 27] ty #[v, .slice A m c]).run Try.prog w = .ok v' w' ∧ Own w0 v' (L.length + M.length) (L ++ M) w' ∧ w.grownBy w' v.ownBlock ∧ (v'.ownBlock = v.ownBlock ∨ v'.ownBlock = some w.heap.size) := by
  obtain ⟨i0, hi, hz0, hz1, hz2⟩ := info_parts Try.infoByte
  have hsz := hown.size
  rcases A with _ | ad
  · obtain rfl : m = 0 := by
      rcases Nat.eq_zero_or_pos m with h0 | h0
      · exact h0
      · obtain ⟨_, e, _⟩ := hr.cel h0
        cases e
    obtain rfl : M = [] := List.eq_nil_of_length_eq_zero hr.len
    have hrun : (Builtin.append_ #[27, 27] ty #[v, .slice none 0 c]).run Try.prog w = .ok v w := by
      rcases hown.row.2 with ⟨rfl, _⟩ | ⟨g, cap, cur, rfl, _, _, hnc, _⟩
      · simp [Builtin.append_, run_underlying Try.underlying27, sizeOf, typeInfo, hi, Builtin.lenOf, Builtin.firstCells]
      · simp [Builtin.append_, run_underlying Try.underlying27, sizeOf, typeInfo, hi, Builtin.lenOf, Builtin.firstCells, hnc, storeCells]
    exact ⟨v, w, hrun, by simpa using hown, World.grownBy.refl _ _, .inl rfl⟩
  · obtain ⟨v', w', h1, h2, h3, _, h5⟩ := run_append_own_at (P := Try.prog) w w0.heap.size 27 ty 5 i0 (.int .u8 0) 1 1 Try.underlying27 hi hz0 hz1 hz2 rfl (by decide) v L.length (vals L) hown.row ad m c (vals M) (by rw [vals_length, hr.len]; omega) hr.cells (vals_one M) (by unfold maxLen; omega) (by omega) hsz
    refine ⟨v', w', h1, ?_, h3, h5⟩
    rw [← hr.len] at h2
    exact hown.grown hr.byt h2 h3

theorem run_appL {w : World} {base : Nat} {lv u : Value} {us : List Value} {g c : Nat} (ty : TypeId) (hown : w.ownsRow base 27 1 lv us.length us) (hb : base ≤ w.heap.size) (hu : w.cell? ⟨g, 0, none⟩ = some u) (h1 : u.oneCell' = true) (hlen : us.length ≤ 1099511627776) :
    ∃ lv' w', (Builtin.append_ #[30, 30] ty #[lv, .slice (some ⟨g, 0, none⟩) 1 c]).run Try.prog w = .ok lv' w' ∧ w'.ownsRow base 27 1 lv' (us.length + 1) (us ++ [u]) ∧ w.grownBy w' lv.ownBlock ∧ (lv'.ownBlock = lv.ownBlock ∨ lv'.ownBlock = some w.heap.size) := by
  obtain ⟨i0, hi, hz0, hz1, hz2⟩ := info_parts Try.infoSlice
  obtain ⟨v', w', a1, a2, a3, _, a5⟩ := run_append_own_at (P := Try.prog) w base 30 ty 27 i0 (.slice none 0 0) 1 24 Try.underlying30 hi hz0 hz1 hz2 rfl (by decide) lv us.length us hown ⟨g, 0, none⟩ 1 c [u] rfl (fun j x hj => by
    match j, hj with
    | 0, hj =>
      simp at hj
      subst hj
      simpa [Addr.add] using hu) (fun x hx => by simp at hx; subst hx; exact h1) (by unfold maxLen; omega) (by omega) hb
  exact ⟨v', w', a1, a2, a3, a5⟩

/-- append, by a name that the walk does not lay open. -/
def appB (args : Array Value) : Sem Value := Builtin.append_ #[27, 27] 27 args
def appL (args : Array Value) : Sem Value := Builtin.append_ #[30, 30] 30 args
theorem appB_mark (args : Array Value) : Builtin.append_ #[27, 27] 27 args = appB args := rfl
theorem appL_mark (args : Array Value) : Builtin.append_ #[30, 30] 30 args = appL args := rfl

/-- What an iteration of Feed does to blocks that are none of its own. -/
def Rd (s : Nat) (W W' : World) : Prop := KeepsFrom (s + 4) W W' ∧ W'.heap[s + 3]? = W.heap[s + 3]?
theorem Rd.trans {s : Nat} {A B C : World} (h : Rd s A B) (k : Rd s B C) : Rd s A C := ⟨h.1.trans k.1, k.2.trans h.2⟩
theorem Rd.set {s : Nat} (W : World) (a : Addr) (x : Value) (h : a.block ≠ s + 3) : Rd s W (W.setCell a x) := ⟨(KeepsOthers.setCell W a x).from _, Below.heap_setCell W a x _ (fun e => h e.symm)⟩
theorem Rd.alloc {s : Nat} (W : World) (o : Obj) (h : s + 4 ≤ W.heap.size) : Rd s W (W.alloc o) := ⟨(KeepsOthers.alloc W o).from _, Below.heap_alloc W o _ (by omega)⟩
theorem Rd.drew {s : Nat} (W : World) : Rd s W W.drew := ⟨(KeepsOthers.drew W).from _, rfl⟩
theorem Rd.row {s base : Nat} {W W' : World} {e : TypeId} {size n : Nat} {v : Value} {xs : List Value} (hr : W.ownsRow base e size v n xs) (hg : W.grownBy W' v.ownBlock) (hs : s + 4 ≤ W.heap.size) (hne : v.ownBlock ≠ some (s + 3)) : Rd s W W' :=
  ⟨(KeepsOthers.of_grownBy hg fun j o ej hj => by
    rcases hr.2 with ⟨rfl, _⟩ | ⟨g, cap, cur, rfl, _, hh, _⟩
    · cases ej
    · injection ej with ej
      subst ej
      have hh' : W.heap[g]? = some o := hj
      rw [hh] at hh'
      injection hh' with hh'
      subst hh'
      rfl).from _, hg.block _ (by omega) (fun e => hne e.symm)⟩

theorem parts_turns (Bx : Nat) (A : Option Addr) (len cap : Nat) (L : List Nat) (hcap : len ≤ cap) (hreach : cap ≤ 9223372036854775807) (Q : Nat → Prop) (hQB : Q Bx) (hQA : 0 < len → ∀ a, A = some a → Q a.block ∧ a.block ≠ Bx) (w : World)
    (hBx : Boxed w Bx 27 (.slice A len cap)) (hL : Bs w A len L) :
    SeqTurns Fence.wide 2 Try.prog 20 #[.pointer (some ⟨Bx, 0, none⟩)] (toldV cap) (Tb Bx) (Kq Q) (TellsAll A L) (Tells A L) w := fun l J Jx W hW _ _ hT hY h0 =>
  parts1_in l Bx A len cap L hcap hreach J Jx Q hQB hQA hT hY W ((hW.block Bx hBx.lt).trans hBx) (hL.later hW) h0
end Go.Proofs.Ytfmfooocfcdalaa
