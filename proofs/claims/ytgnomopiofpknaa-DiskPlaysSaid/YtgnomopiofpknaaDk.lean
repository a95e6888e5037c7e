/- A disk in memory; its small methods. No condition. -/
import Derived.Test.YtgnomopiofpknaaLose
import Derived.Test.YtgnomopiofpknaaCut1
namespace Go.Proofs.Ytgnomopiofpknaa
open Go.RowKit

def errV (e : Int) : Value := .int .i64 e
def dkV (S : Dk) (vs0 vl0 vs1 vl1 : Value) : List Value :=
  [.int .i64 (S.most : Nat), .bool S.off, .int .i64 S.fuse, vs0, vl0, .int .i64 (S.f.at.length : Nat), vs1, vl1, .int .i64 (S.g.at.length : Nat)]
/-- Block d is a disk; its files' memory lies in P0 and P1. -/
structure DkAt (w0 : World) (d : Nat) (P0 P1 : Nat → Prop) (S : Dk) (w : World) (vs0 vl0 vs1 vl1 : Value) : Prop where
  f0 : FlAt w0 P0 vs0 vl0 S.f w
  f1 : FlAt w0 P1 vs1 vl1 S.g w
  ro : Ro w d 60 (dkV S vs0 vl0 vs1 vl1)
  n0 : ¬ P0 d
  n1 : ¬ P1 d
  ap : ∀ b, P0 b → ¬ P1 b
  lo : w0.heap.size ≤ d
  ok : S.Ok
/-- A disk whose memory lies in F. -/
def Dsk (w0 : World) (d : Nat) (F : Nat → Prop) (S : Dk) (w : World) : Prop :=
  ∃ P0 P1 vs0 vl0 vs1 vl1, DkAt w0 d P0 P1 S w vs0 vl0 vs1 vl1 ∧ (∀ b, P0 b ∨ P1 b ∨ b = d → F b) ∧ ∀ b, F b → w0.heap.size ≤ b ∧ b < w.heap.size
/-- What a call leaves. -/
structure Did (w0 : World) (d : Nat) (F : Nat → Prop) (w : World) (S : Dk) (W : World) : Prop where
  dsk : Dsk w0 d (Gr F w W) S W
  kept : Kept (fun b => ¬ F b) w W
section
variable {w0 w w' W : World} {d : Nat} {P0 P1 F : Nat → Prop} {S : Dk} {vs0 vl0 vs1 vl1 : Value}
theorem DkAt.bel (D : DkAt w0 d P0 P1 S w vs0 vl0 vs1 vl1) : Below w0.heap.size w0 w := D.f0.sure.bel
theorem DkAt.keep (D : DkAt w0 d P0 P1 S w vs0 vl0 vs1 vl1) (g : Kept (fun b => P0 b ∨ P1 b ∨ b = d) w w') (hb : Below w0.heap.size w0 w') : DkAt w0 d P0 P1 S w' vs0 vl0 vs1 vl1 :=
  { D with
    f0 := D.f0.keep (g.weak fun b h _ => .inl h) hb
    f1 := D.f1.keep (g.weak fun b h _ => .inr (.inl h)) hb
    ro := D.ro.same (g.blk d (.inr (.inr rfl)) D.ro.lt) }
theorem Dsk.bel (h : Dsk w0 d F S w) : Below w0.heap.size w0 w := by
  obtain ⟨_, _, _, _, _, _, D, _⟩ := h
  exact D.bel
theorem Dsk.at_ (h : Dsk w0 d F S w) : F d ∧ w0.heap.size ≤ d ∧ d < w.heap.size := by
  obtain ⟨_, _, _, _, _, _, D, h1, h2⟩ := h
  exact ⟨h1 d (.inr (.inr rfl)), D.lo, D.ro.lt⟩
theorem Dsk.ok (h : Dsk w0 d F S w) : S.Ok := by
  obtain ⟨_, _, _, _, _, _, D, _⟩ := h
  exact D.ok
theorem Dsk.keep (h : Dsk w0 d F S w) (g : Kept F w w') (hb : Below w0.heap.size w0 w') : Dsk w0 d F S w' := by
  obtain ⟨P0, P1, vs0, vl0, vs1, vl1, D, h1, h2⟩ := h
  exact ⟨P0, P1, vs0, vl0, vs1, vl1, D.keep (g.weak fun b hb _ => h1 b hb) hb, h1, fun b hb => ⟨(h2 b hb).1, Nat.lt_of_lt_of_le (h2 b hb).2 g.size⟩⟩
theorem Dsk.later (h : Dsk w0 d F S w) (g : Below w.heap.size w w') : Dsk w0 d F S w' := h.keep (Kept.of_below g) (h.bel.trans (g.mono h.bel.size))
theorem Dsk.more {G : Nat → Prop} (h : Dsk w0 d F S w) (h1 : ∀ b, F b → G b) (h2 : ∀ b, G b → w0.heap.size ≤ b ∧ b < w.heap.size) : Dsk w0 d G S w := by
  obtain ⟨P0, P1, vs0, vl0, vs1, vl1, D, h3, h4⟩ := h
  exact ⟨P0, P1, vs0, vl0, vs1, vl1, D, fun b hb => h1 b (h3 b hb), h2⟩
theorem Did.refl (h : Dsk w0 d F S w) : Did w0 d F w S w :=
  ⟨h.more (fun b hb => .inl hb) (fun b hb => by
    rcases hb with hb | hb
    · obtain ⟨_, _, _, _, _, _, _, _, h2⟩ := h
      exact h2 b hb
    · omega), Nat.le_refl _, fun _ _ _ => rfl⟩
/-- One cell of the disk itself is another. -/
theorem DkAt.set {S' : Dk} (D : DkAt w0 d P0 P1 S w vs0 vl0 vs1 vl1) (o : Nat) (v : Value) (hf : S'.f = S.f) (hg : S'.g = S.g) (hok : S'.Ok) (he : (dkV S vs0 vl0 vs1 vl1).set o v = dkV S' vs0 vl0 vs1 vl1) :
    DkAt w0 d P0 P1 S' (w.setCell ⟨d, o, none⟩ v) vs0 vl0 vs1 vl1 :=
  { D with
    f0 := by rw [hf]; exact D.f0.keep (kept_set w d o v D.n0) (D.bel.setCell D.lo v)
    f1 := by rw [hg]; exact D.f1.keep (kept_set w d o v D.n1) (D.bel.setCell D.lo v)
    ro := by rw [← he]; exact D.ro.set o v
    ok := hok }
theorem gr_set (F : Nat → Prop) (w : World) (d o : Nat) (v : Value) : ∀ b, Gr F w (w.setCell ⟨d, o, none⟩ v) b → F b := fun b h => by
  rcases h with h | h
  · exact h
  · have : (w.setCell ⟨d, o, none⟩ v).heap.size = w.heap.size := by simp
    omega
theorem DkAt.did (D : DkAt w0 d P0 P1 S W vs0 vl0 vs1 vl1) (h1 : ∀ b, P0 b ∨ P1 b ∨ b = d → Gr F w W b) (h2 : ∀ b, F b → w0.heap.size ≤ b ∧ b < w.heap.size) (hw : w0.heap.size ≤ w.heap.size) (K : Kept (fun b => ¬ F b) w W) : Did w0 d F w S W :=
  ⟨⟨P0, P1, vs0, vl0, vs1, vl1, D, h1, fun b h => by
    have := K.size
    rcases h with h | h
    · have := h2 b h
      exact ⟨this.1, by omega⟩
    · exact ⟨by omega, h.2⟩⟩, K⟩
end
/-- The cells of a disk. -/
theorem DkAt.cells {w0 w : World} {d : Nat} {P0 P1 : Nat → Prop} {S : Dk} {vs0 vl0 vs1 vl1 : Value} (D : DkAt w0 d P0 P1 S w vs0 vl0 vs1 vl1) :
    w.cell? ⟨d, 0, none⟩ = some (.int .i64 (S.most : Nat)) ∧ w.cell? ⟨d, 1, none⟩ = some (.bool S.off) ∧ w.cell? ⟨d, 2, none⟩ = some (.int .i64 S.fuse) ∧ w.cell? ⟨d, 3, none⟩ = some vs0 ∧ w.cell? ⟨d, 4, none⟩ = some vl0 ∧ w.cell? ⟨d, 5, none⟩ = some (.int .i64 (S.f.at.length : Nat)) ∧ w.cell? ⟨d, 6, none⟩ = some vs1 ∧ w.cell? ⟨d, 7, none⟩ = some vl1 ∧ w.cell? ⟨d, 8, none⟩ = some (.int .i64 (S.g.at.length : Nat)) :=
  ⟨D.ro.cell rfl, D.ro.cell rfl, D.ro.cell rfl, D.ro.cell rfl, D.ro.cell rfl, D.ro.cell rfl, D.ro.cell rfl, D.ro.cell rfl, D.ro.cell rfl⟩

theorem powered_nil (w : World) : Calls Try.prog 38 #[.pointer none] w fun e w' => e = .returned (.int .i64 2) ∧ w' = w := by
  go_enter Try.func38, Try.ntmps38
  go_wp2_with fail
  go_ret
  exact ⟨rfl, rfl⟩
theorem powered_any {w : World} {d : Nat} {off : Bool} (h : w.cell? ⟨d, 1, none⟩ = some (.bool off)) : Calls Try.prog 38 #[.pointer (some ⟨d, 0, none⟩)] w fun e w' => e = .returned (.int .i64 (if off then 8 else 0)) ∧ w' = w := by
  cases off with
  | true =>
    go_enter Try.func38, Try.ntmps38
    go_wp2_with fail
    go_ret
    exact ⟨rfl, rfl⟩
  | false =>
    go_enter Try.func38, Try.ntmps38
    go_wp2_with fail
    go_ret
    exact ⟨rfl, rfl⟩
theorem ask_nil (w : World) (f : Int) : Calls Try.prog 32 #[.pointer none, .int .i64 f] w fun e w' => e = .returned (.int .i64 2) ∧ w' = w := by
  go_enter Try.func32, Try.ntmps32
  go_wp2_with fail
  refine (powered_nil w).mono ?_
  rintro e w' ⟨rfl, rfl⟩
  go_wp2_with fail
  go_ret
  exact ⟨rfl, rfl⟩
theorem ask_any {w : World} {d : Nat} {S : Dk} (h : w.cell? ⟨d, 1, none⟩ = some (.bool S.off)) (f : Int) : Calls Try.prog 32 #[.pointer (some ⟨d, 0, none⟩), .int .i64 f] w fun e w' => e = .returned (.int .i64 (S.ask f)) ∧ w' = w := by
  have hp := powered_any h
  unfold Dk.ask
  cases hs : S.off with
  | true =>
    rw [hs] at hp h
    have HP := Lib.hid hp
    clear hp
    go_enter Try.func32, Try.ntmps32
    go_wp2_with fail
    refine (HP.out).mono ?_
    rintro e w' ⟨rfl, rfl⟩
    go_wp2_with fail
    go_ret
    exact ⟨rfl, rfl⟩
  | false =>
    rw [hs] at hp h
    have HP := Lib.hid hp
    clear hp
    by_cases h1 : f < 0
    · have t1 : decide (f < 0) = true := decide_eq_true h1
      go_enter Try.func32, Try.ntmps32
      go_wp2_with fail
      refine (HP.out).mono ?_
      rintro e w' ⟨rfl, rfl⟩
      go_wp2_with fail
      go_ret
      exact ⟨by simp [h1], rfl⟩
    · have t1 : decide (f < 0) = false := decide_eq_false h1
      by_cases h2 : 2 ≤ f
      · have t2 : decide (f ≥ 2) = true := decide_eq_true h2
        have t3 : decide (2 ≤ f) = true := decide_eq_true h2
        go_enter Try.func32, Try.ntmps32
        go_wp2_with fail
        refine (HP.out).mono ?_
        rintro e w' ⟨rfl, rfl⟩
        go_wp2_with fail
        go_ret
        exact ⟨by simp [h1, h2], rfl⟩
      · have t2 : decide (f ≥ 2) = false := decide_eq_false h2
        have t3 : decide (2 ≤ f) = false := decide_eq_false h2
        go_enter Try.func32, Try.ntmps32
        go_wp2_with fail
        refine (HP.out).mono ?_
        rintro e w' ⟨rfl, rfl⟩
        go_wp2_with fail
        go_ret
        exact ⟨by simp [h1, h2], rfl⟩
end Go.Proofs.Ytgnomopiofpknaa
