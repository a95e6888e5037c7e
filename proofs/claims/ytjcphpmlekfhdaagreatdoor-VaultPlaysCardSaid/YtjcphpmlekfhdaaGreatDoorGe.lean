/- A disk in memory; its small methods. No condition. -/
import Derived.Test.YtjcphpmlekfhdaaGreatDoorGd
import Derived.Test.YtjcphpmlekfhdaaGreatDoorGa

namespace Go.Proofs.YtjcphpmlekfhdaaGreatDoor
open Go.RowKit

def errV (e : Int) : Value := .int .i64 e
def dkV (S : Dk) (vs0 vl0 vs1 vl1 : Value) : List Value :=
  [.int .i64 (S.most : Nat), .bool S.off, .int .i64 S.fuse, vs0, vl0, .int .i64 (S.f.at.length : Nat), vs1, vl1, .int .i64 (S.g.at.length : Nat)]
/-- Block d is a disk; its files' memory lies in P0 and P1. -/
structure DkAt (w0 : World) (d : Nat) (P0 P1 : Nat → Prop) (S : Dk) (w : World) (vs0 vl0 vs1 vl1 : Value) : Prop where
  f0 : FlAt w0 P0 vs0 vl0 S.f w
  f1 : FlAt w0 P1 vs1 vl1 S.g w
  ro : Ro w d 64 (dkV S vs0 vl0 vs1 vl1)
  n0 : ¬ P0 d
  n1 : ¬ P1 d
  ap : ∀ b, P0 b → ¬ P1 b
  lo : w0.heap.size ≤ d
  ok : S.Ok
/-- A disk whose memory lies in F. -/
def Dsk (w0 : World) (d : Nat) (F : Nat → Prop) (S : Dk) (w : World) : Prop :=
  ∃ P0 P1 vs0 vl0 vs1 vl1, DkAt w0 d P0 P1 S w vs0 vl0 vs1 vl1 ∧ (∀ b, P0 b ∨ P1 b ∨ b = d → F b) ∧ ∀ b, F b → w0.heap.size ≤ b ∧ b < w.heap.size
/-- What a call leaves. -/
structure Did (w0 : World) (d : Nat) (F : Nat → Prop) (w : World) (S : Dk) (W : World) : Prop where
  dsk : Dsk w0 d (Gr F w W) S W
  kept : Kept (fun b => ¬ F b) w W
section
variable {w0 w w' W : World} {d : Nat} {P0 P1 F : Nat → Prop} {S : Dk} {vs0 vl0 vs1 vl1 : Value}
theorem DkAt.bel (D : DkAt w0 d P0 P1 S w vs0 vl0 vs1 vl1) : Below w0.heap.size w0 w := D.f0.sure.bel
theorem DkAt.keep (D : DkAt w0 d P0 P1 S w vs0 vl0 vs1 vl1) (g : Kept (fun b => P0 b ∨ P1 b ∨ b = d) w w') (hb : Below w0.heap.size w0 w') : DkAt w0 d P0 P1 S w' vs0 vl0 vs1 vl1 :=
  { D with
    f0 := D.f0.keep (g.weak fun b h _ => .inl h) hb
    f1 := D.f1.keep (g.weak fun b h _ => .inr (.inl h)) hb
    ro := D.ro.same (g.blk d (.inr (.inr rfl)) D.ro.lt) }
theorem Dsk.bel (h : Dsk w0 d F S w) : Below w0.heap.size w0 w := by
  obtain ⟨_, _, _, _, _, _, D, _⟩ := h
  exact D.bel
theorem Dsk.at_ (h : Dsk w0 d F S w) : F d ∧ w0.heap.size ≤ d ∧ d < w.heap.size := by
  obtain ⟨_, _, _, _, _, _, D, h1, h2⟩ := h
  exact ⟨h1 d (.inr (.inr rfl)), D.lo, D.ro.lt⟩
theorem Dsk.ok (h : Dsk w0 d F S w) : S.Ok := by
  obtain ⟨_, _, _, _, _, _, D, _⟩ := h
  exact D.ok
theorem Dsk.keep (h : Dsk w0 d F S w) (g : Kept F w w') (hb : Below w0.heap.size w0 w') : Dsk w0 d F S w' := by
  obtain ⟨P0, P1, vs0, vl0, vs1, vl1, D, h1, h2⟩ := h
  exact ⟨P0, P1, vs0, vl0, vs1, vl1, D.keep (g.weak fun b hb _ => h1 b hb) hb, h1, fun b hb => ⟨(h2 b hb).1, Nat.lt_of_lt_of_le (h2 b hb).2 g.size⟩⟩
theorem Dsk.later (h : Dsk w0 d F S w) (g : Below w.heap.size w w') : Dsk w0 d F S w' := h.keep (Kept.of_below g) (h.bel.trans (g.mono h.bel.size))
theorem Dsk.more {G : Nat → Prop} (h : Dsk w0 d F S w) (h1 : ∀ b, F b → G b) (h2 : ∀ b, G b → w0.heap.size ≤ b ∧ b < w.heap.size) : Dsk w0 d G S w := by
  obtain ⟨P0, P1, vs0, vl0, vs1, vl1, D, h3, h4⟩ := h
  exact ⟨P0, P1, vs0, vl0, vs1, vl1, D, fun b hb => h1 b (h3 b hb), h2⟩
theorem Did.refl (h : Dsk w0 d F S w) : Did w0 d F w S w :=
  ⟨h.more (fun b hb => .inl hb) (fun b hb => by
    rcases hb with hb | hb
    · obtain ⟨_, _, _, _, _, _, _, _, h2⟩ := h
      exact h2 b hb
    · omega), Nat.le_refl _, fun _ _ _ => rfl⟩
/-- One cell of the disk itself is another. -/
theorem DkAt.set {S' : Dk} (D : DkAt w0 d P0 P1 S w vs0 vl0 vs1 vl1) (o : Nat) (v : Value) (hf : S'.f = S.f) (hg : S'.g = S.g) (hok : S'.Ok) (he : (dkV S vs0 vl0 vs1 vl1).set o v = dkV S' vs0 vl0 vs1 vl1) :
    DkAt w0 d P0 P1 S' (w.setCell ⟨d, o, none⟩ v) vs0 vl0 vs1 vl1 :=
  { D with
    f0 := by rw [hf]; exact D.f0.keep (kept_set w d o v D.n0) (D.bel.setCell D.lo v)
    f1 := by rw [hg]; exact D.f1.keep (kept_set w d o v D.n1) (D.bel.setCell D.lo v)
    ro := by rw [← he]; exact D.ro.set o v
    ok := hok }
theorem gr_set (F : Nat → Prop) (w : World) (d o : Nat) (v : Value) : ∀ b, Gr F w (w.setCell ⟨d, o, none⟩ v) b → F b := fun b h => by
  rcases h with h | h
  · exact h
  · have : (w.setCell ⟨d, o, none⟩ v).heap.size = w.heap.size := by simp
    omega
theorem DkAt.did (D : DkAt w0 d P0 P1 S W vs0 vl0 vs1 vl1) (h1 : ∀ b, P0 b ∨ P1 b ∨ b = d → Gr F w W b) (h2 : ∀ b, F b → w0.heap.size ≤ b ∧ b < w.heap.size) (hw : w0.heap.size ≤ w.heap.size) (K : Kept (fun b => ¬ F b) w W) : Did w0 d F w S W :=
  ⟨⟨P0, P1, vs0, vl0, vs1, vl1, D, h1, fun b h => by
    have := K.size
    rcases h with h | h
    · have := h2 b h
      exact ⟨this.1, by omega⟩
    · exact ⟨by omega, h.2⟩⟩, K⟩
end
/-- The cells of a disk. -/
theorem DkAt.cells {w0 w : World} {d : Nat} {P0 P1 : Nat → Prop} {S : Dk} {vs0 vl0 vs1 vl1 : Value} (D : DkAt w0 d P0 P1 S w vs0 vl0 vs1 vl1) :
    w.cell? ⟨d, 0, none⟩ = some (.int .i64 (S.most : Nat)) ∧ w.cell? ⟨d, 1, none⟩ = some (.bool S.off) ∧ w.cell? ⟨d, 2, none⟩ = some (.int .i64 S.fuse) ∧ w.cell? ⟨d, 3, none⟩ = some vs0 ∧ w.cell? ⟨d, 4, none⟩ = some vl0 ∧ w.cell? ⟨d, 5, none⟩ = some (.int .i64 (S.f.at.length : Nat)) ∧ w.cell? ⟨d, 6, none⟩ = some vs1 ∧ w.cell? ⟨d, 7, none⟩ = some vl1 ∧ w.cell? ⟨d, 8, none⟩ = some (.int .i64 (S.g.at.length : Nat)) :=
  ⟨D.ro.cell rfl, D.ro.cell rfl, D.ro.cell rfl, D.ro.cell rfl, D.ro.cell rfl, D.ro.cell rfl, D.ro.cell rfl, D.ro.cell rfl, D.ro.cell rfl⟩

theorem powered_nil (w : World) : Calls Tryz.prog 43 #[.pointer none] w fun e w' => e = .returned (.int .i64 2) ∧ w' = w := by
  go_enter Tryz.func43, Tryz.ntmps43
  go_wp2_with fail
  go_ret
  exact ⟨rfl, rfl⟩
theorem powered_any {w : World} {d : Nat} {off : Bool} (h : w.cell? ⟨d, 1, none⟩ = some (.bool off)) : Calls Tryz.prog 43 #[.pointer (some ⟨d, 0, none⟩)] w fun e w' => e = .returned (.int .i64 (if off then 8 else 0)) ∧ w' = w := by
  cases off with
  | true =>
    go_enter Tryz.func43, Tryz.ntmps43
    go_wp2_with fail
    go_ret
    exact ⟨rfl, rfl⟩
  | false =>
    go_enter Tryz.func43, Tryz.ntmps43
    go_wp2_with fail
    go_ret
    exact ⟨rfl, rfl⟩
theorem ask_nil (w : World) (f : Int) : Calls Tryz.prog 58 #[.pointer none, .int .i64 f] w fun e w' => e = .returned (.int .i64 2) ∧ w' = w := by
  go_enter Tryz.func58, Tryz.ntmps58
  go_wp2_with fail
  refine (powered_nil w).mono ?_
  rintro e w' ⟨rfl, rfl⟩
  go_wp2_with fail
  go_ret
  exact ⟨rfl, rfl⟩
theorem ask_any {w : World} {d : Nat} {S : Dk} (h : w.cell? ⟨d, 1, none⟩ = some (.bool S.off)) (f : Int) : Calls Tryz.prog 58 #[.pointer (some ⟨d, 0, none⟩), .int .i64 f] w fun e w' => e = .returned (.int .i64 (S.ask f)) ∧ w' = w := by
  have hp := powered_any h
  unfold Dk.ask
  cases hs : S.off with
  | true =>
    rw [hs] at hp h
    have HP := Lib.hid hp
    clear hp
    go_enter Tryz.func58, Tryz.ntmps58
    go_wp2_with fail
    refine (HP.out).mono ?_
    rintro e w' ⟨rfl, rfl⟩
    go_wp2_with fail
    go_ret
    exact ⟨rfl, rfl⟩
  | false =>
    rw [hs] at hp h
    have HP := Lib.hid hp
    clear hp
    by_cases h1 : f < 0
    · have t1 : decide (f < 0) = true := decide_eq_true h1
      go_enter Tryz.func58, Tryz.ntmps58
      go_wp2_with fail
      refine (HP.out).mono ?_
      rintro e w' ⟨rfl, rfl⟩
      go_wp2_with fail
      go_ret
      exact ⟨by simp [h1], rfl⟩
    · have t1 : decide (f < 0) = false := decide_eq_false h1
      by_cases h2 : 2 ≤ f
      · have t2 : decide (f ≥ 2) = true := decide_eq_true h2
        have t3 : decide (2 ≤ f) = true := decide_eq_true h2
        go_enter Tryz.func58, Tryz.ntmps58
        go_wp2_with fail
        refine (HP.out).mono ?_
        rintro e w' ⟨rfl, rfl⟩
        go_wp2_with fail
        go_ret
        exact ⟨by simp [h1, h2], rfl⟩
      · have t2 : decide (f ≥ 2) = false := decide_eq_false h2
        have t3 : decide (2 ≤ f) = false := decide_eq_false h2
        go_enter Tryz.func58, Tryz.ntmps58
        go_wp2_with fail
        refine (HP.out).mono ?_
        rintro e w' ⟨rfl, rfl⟩
        go_wp2_with fail
        go_ret
        exact ⟨by simp [h1, h2], rfl⟩
end Go.Proofs.YtjcphpmlekfhdaaGreatDoor

/- burn: a counted call. No condition but what the callee is asked. -/
namespace Go.Proofs.YtjcphpmlekfhdaaGreatDoor
open Go.RowKit

/-- The fuse burns down. -/
def Dk.less (d : Dk) : Dk := { d with fuse := if 0 < d.fuse then d.fuse - 1 else d.fuse }
theorem Dk.Ok.less {d : Dk} (h : d.Ok) : d.less.Ok := { h with fuse := by have := h.fuse; unfold Dk.less; simp only; split <;> omega }
theorem Dk.Ok.off {d : Dk} (h : d.Ok) (b : Bool) : ({ d with off := b } : Dk).Ok := { h with }
/-- Behind the callee: file 0 turned. -/
theorem DkAt.fil0 {w0 w W : World} {d : Nat} {P0 P1 : Nat → Prop} {S : Dk} {vs0 vl0 vs1 vl1 : Value} {x : Fl} (D : DkAt w0 d P0 P1 S w vs0 vl0 vs1 vl1) (h : Fil w0 P0 w d 3 64 (dkV S vs0 vl0 vs1 vl1) x (x.at.length : Nat) W) (ok : (S.put 0 x).Ok) :
    ∃ a b, DkAt w0 d (Gr P0 w W) P1 (S.put 0 x) W a b vs1 vl1 := by
  obtain ⟨⟨a, b, h1, h2⟩, h3⟩ := h
  refine ⟨a, b, h1, D.f1.keep (h3.weak fun y hy _ => ⟨fun e => D.ap y e hy, fun e => D.n1 (e ▸ hy)⟩) h1.sure.bel, h2, Gr.not D.n0 D.ro.lt, D.n1, fun y hy hy2 => ?_, D.lo, ok⟩
  rcases hy with hy | hy
  · exact D.ap y hy hy2
  · have := (D.f1.lt y hy2).2
    omega
theorem DkAt.fil1 {w0 w W : World} {d : Nat} {P0 P1 : Nat → Prop} {S : Dk} {vs0 vl0 vs1 vl1 : Value} {x : Fl} (D : DkAt w0 d P0 P1 S w vs0 vl0 vs1 vl1) (h : Fil w0 P1 w d 6 64 (dkV S vs0 vl0 vs1 vl1) x (x.at.length : Nat) W) (ok : (S.put 1 x).Ok) :
    ∃ a b, DkAt w0 d P0 (Gr P1 w W) (S.put 1 x) W vs0 vl0 a b := by
  obtain ⟨⟨a, b, h1, h2⟩, h3⟩ := h
  refine ⟨a, b, D.f0.keep (h3.weak fun y hy _ => ⟨fun e => D.ap y hy e, fun e => D.n0 (e ▸ hy)⟩) h1.sure.bel, h1, h2, D.n0, Gr.not D.n1 D.ro.lt, fun y hy hy2 => ?_, D.lo, ok⟩
  rcases hy2 with hy2 | hy2
  · exact D.ap y hy hy2
  · have := (D.f0.lt y hy).2
    omega
/-- What the callee is asked, at file i of the disk. -/
def FilOp (w0 : World) (d : Nat) (S : Dk) (i : Nat) (x : Fl) (id : Nat) (cap : Array Value) (w : World) : Prop :=
  ∀ (w1 : World) (S1 : Dk) (P : Nat → Prop) (vs vl vs0 vl0 vs1 vl1 : Value), Kept (fun b => b ≠ d) w w1 → S1.at i = S.at i → FlAt w0 P vs vl (S.at i) w1 → Ro w1 d 64 (dkV S1 vs0 vl0 vs1 vl1) → ¬ P d → w0.heap.size ≤ d → (dkV S1 vs0 vl0 vs1 vl1)[3 + 3 * i]? = some vs → (dkV S1 vs0 vl0 vs1 vl1)[3 + 3 * i + 1]? = some vl →
    Calls Tryz.prog id (#[.pointer (some ⟨d, 3 + 3 * i, none⟩)] ++ cap) w1 fun e W => e = .returned (.tuple #[]) ∧ Fil w0 P w1 d (3 + 3 * i) 64 (dkV S1 vs0 vl0 vs1 vl1) x (x.at.length : Nat) W
theorem burn_call {w0 w w1 : World} {d : Nat} {P0 P1 F : Nat → Prop} {S S1 : Dk} {vs0 vl0 vs1 vl1 : Value} (D : DkAt w0 d P0 P1 S1 w1 vs0 vl0 vs1 vl1) (hF : ∀ b, P0 b ∨ P1 b ∨ b = d → F b) (hL : ∀ b, F b → w0.heap.size ≤ b ∧ b < w.heap.size) (hw : w0.heap.size ≤ w.heap.size)
    (K : Kept (fun b => b ≠ d) w w1) (hs : w1.heap.size = w.heap.size) (h0 : S1.f = S.f) (h1 : S1.g = S.g) (i : Nat) (hi : i = 0 ∨ i = 1) (x : Fl) (id : Nat) (cap : Array Value) (C : FilOp w0 d S i x id cap w) (ok : (S1.put i x).Ok) :
    Calls Tryz.prog id (#[.pointer (some ⟨d, 3 + 3 * i, none⟩)] ++ cap) w1 fun e W => e = .returned (.tuple #[]) ∧ Did w0 d F w (S1.put i x) W := by
  have nf : ∀ b, ¬ F b → b ≠ d := fun b h e => h (hF b (.inr (.inr e)))
  have kk : ∀ {W : World} {Q : Nat → Prop}, (∀ b, Q b → F b) → Kept (fun b => ¬ Q b ∧ b ≠ d) w1 W → Kept (fun b => ¬ F b) w W := fun hQ g => ⟨by have := g.size; omega, fun b hb hl => by
    rw [g.blk b ⟨fun q => hb (hQ b q), nf b hb⟩ (by omega), K.blk b (nf b hb) hl]⟩
  have gg : ∀ {W : World} {Q : Nat → Prop}, (∀ b, Q b → F b) → ∀ b, Gr Q w1 W b → Gr F w W b := fun hQ b h => by
    rcases h with h | h
    · exact .inl (hQ b h)
    · exact .inr ⟨by omega, h.2⟩
  rcases hi with rfl | rfl
  · refine (C w1 S1 P0 vs0 vl0 vs0 vl0 vs1 vl1 K (by simp [Dk.at, h0]) (by have := D.f0; simpa [Dk.at, h0] using this) D.ro D.n0 D.lo rfl rfl).mono fun e W ⟨e1, G⟩ => ⟨e1, ?_⟩
    obtain ⟨a, b, D2⟩ := D.fil0 G ok
    exact D2.did (fun y hy => by
      rcases hy with hy | hy | hy
      · exact gg (fun b hb => hF b (.inl hb)) y hy
      · exact .inl (hF y (.inr (.inl hy)))
      · exact .inl (hF y (.inr (.inr hy)))) hL hw (kk (fun b hb => hF b (.inl hb)) G.kept)
  · refine (C w1 S1 P1 vs1 vl1 vs0 vl0 vs1 vl1 K (by simp [Dk.at, h1]) (by have := D.f1; simpa [Dk.at, h1] using this) D.ro D.n1 D.lo rfl rfl).mono fun e W ⟨e1, G⟩ => ⟨e1, ?_⟩
    obtain ⟨a, b, D2⟩ := D.fil1 G ok
    exact D2.did (fun y hy => by
      rcases hy with hy | hy | hy
      · exact .inl (hF y (.inl hy))
      · exact gg (fun b hb => hF b (.inr (.inl hb))) y hy
      · exact .inl (hF y (.inr (.inr hy)))) hL hw (kk (fun b hb => hF b (.inr (.inl hb))) G.kept)

set_option maxRecDepth 100000 in
set_option maxHeartbeats 4000000 in
theorem burn_any {w0 w : World} {d : Nat} {F : Nat → Prop} {S : Dk} (D : Dsk w0 d F S w) (i : Nat) (hi : i = 0 ∨ i = 1) (x : Fl) (id : Nat) (cap : Array Value) (C : FilOp w0 d S i x id cap w) (hid : ∀ args u, (callFunc id args).run Tryz.prog u = .ok (.enter id args) u) (ok : (S.less.put i x).Ok) :
    Calls Tryz.prog 77 #[.pointer (some ⟨d, 0, none⟩), .func (.func id) #[] cap, .int .i64 (i : Nat)] w fun e W => e = .returned (.int .i64 (S.burn i x).1) ∧ Did w0 d F w (S.burn i x).2 W := by
  obtain ⟨P0, P1, vs0, vl0, vs1, vl1, D, hF, hL⟩ := D
  obtain ⟨k0, k1, k2, _⟩ := D.cells
  have z1 := D.ro.free 1
  have z2 := D.ro.free 2
  have HD := Lib.hid D
  have HC := Lib.hid C
  have HF := Lib.hid hF
  have HL := Lib.hid hL
  have HO := Lib.hid ok
  have fz := D.ok.fuse
  have fd : Hid (∀ b, ¬ F b → b ≠ d) := Lib.hid fun b h e => h (hF b (.inr (.inr e)))
  clear D C hF hL ok
  unfold Dk.burn
  by_cases h0 : S.fuse = 0
  · rw [if_pos h0]
    have t0 : decide (S.fuse = 0) = true := decide_eq_true h0
    have t1 : (S.fuse == 0) = true := by simp [h0]
    have D1 := HD.out.set (S' := { S with off := true }) 1 (.bool true) rfl rfl (HD.out.ok.off true) rfl
    have G := Lib.hid (D1.did (w := w) (fun b hb => .inl (HF.out b hb)) HL.out HD.out.bel.size (kept_set w d 1 (.bool true) (P := fun b => ¬ F b) (fun h => h (HF.out d (.inr (.inr rfl))))))
    clear D1
    go_enter Tryz.func77, Tryz.ntmps77
    go_wp2_with fail
    go_ret
    exact ⟨rfl, G.out⟩
  · rw [if_neg h0]
    have t0 : decide (S.fuse = 0) = false := decide_eq_false h0
    have t1 : (S.fuse == 0) = false := by simp [h0]
    by_cases h1 : 0 < S.fuse
    · have t2 : decide (0 < S.fuse) = true := decide_eq_true h1
      have t3 : decide (S.fuse > 0) = true := decide_eq_true h1
      have CA : Hid (Calls Tryz.prog id (#[.pointer (some ⟨d, 3 + 3 * i, none⟩)] ++ cap) (w.setCell ⟨d, 2, none⟩ (.int .i64 (S.fuse - 1))) fun e W => e = .returned (.tuple #[]) ∧ Did w0 d F w (S.less.put i x) W) :=
        Lib.hid (burn_call (HD.out.set (S' := S.less) 2 _ rfl rfl HD.out.ok.less (by simp [dkV, Dk.less, h1])) HF.out HL.out HD.out.bel.size (kept_set w d 2 _ (fun h => h rfl)) (by simp) rfl rfl i hi x id cap HC.out HO.out)
      have es : ({ S with fuse := if 0 < S.fuse then S.fuse - 1 else S.fuse } : Dk) = S.less := rfl
      rw [es]
      clear HC HO es
      rcases hi with rfl | rfl
      · have hc := hid (#[.pointer (some ⟨d, 3, none⟩)] ++ cap) (w.setCell ⟨d, 2, none⟩ (.int .i64 (S.fuse - 1)))
        go_enter Tryz.func77, Tryz.ntmps77
        go_wp2_with fail
        refine (CA.out).mono ?_
        rintro e W ⟨rfl, G⟩
        have HG := Lib.hid G
        clear G
        go_wp2_with fail
        go_ret
        exact ⟨rfl, HG.out⟩
      · have hc := hid (#[.pointer (some ⟨d, 6, none⟩)] ++ cap) (w.setCell ⟨d, 2, none⟩ (.int .i64 (S.fuse - 1)))
        go_enter Tryz.func77, Tryz.ntmps77
        go_wp2_with fail
        refine (CA.out).mono ?_
        rintro e W ⟨rfl, G⟩
        have HG := Lib.hid G
        clear G
        go_wp2_with fail
        go_ret
        exact ⟨rfl, HG.out⟩
    · have t2 : decide (0 < S.fuse) = false := decide_eq_false h1
      have t3 : decide (S.fuse > 0) = false := decide_eq_false h1
      have es : ({ S with fuse := if 0 < S.fuse then S.fuse - 1 else S.fuse } : Dk) = S.less := rfl
      have e2 : S.less = S := by unfold Dk.less; rw [if_neg h1]
      have CA : Hid (Calls Tryz.prog id (#[.pointer (some ⟨d, 3 + 3 * i, none⟩)] ++ cap) w fun e W => e = .returned (.tuple #[]) ∧ Did w0 d F w (S.less.put i x) W) :=
        Lib.hid (burn_call (S1 := S.less) (by rw [e2]; exact HD.out) HF.out HL.out HD.out.bel.size ⟨Nat.le_refl _, fun _ _ _ => rfl⟩ rfl rfl rfl i hi x id cap HC.out HO.out)
      rw [es]
      clear HC HO es e2
      rcases hi with rfl | rfl
      · have hc := hid (#[.pointer (some ⟨d, 3, none⟩)] ++ cap) w
        go_enter Tryz.func77, Tryz.ntmps77
        go_wp2_with fail
        refine (CA.out).mono ?_
        rintro e W ⟨rfl, G⟩
        have HG := Lib.hid G
        clear G
        go_wp2_with fail
        go_ret
        exact ⟨rfl, HG.out⟩
      · have hc := hid (#[.pointer (some ⟨d, 6, none⟩)] ++ cap) w
        go_enter Tryz.func77, Tryz.ntmps77
        go_wp2_with fail
        refine (CA.out).mono ?_
        rintro e W ⟨rfl, G⟩
        have HG := Lib.hid G
        clear G
        go_wp2_with fail
        go_ret
        exact ⟨rfl, HG.out⟩
end Go.Proofs.YtjcphpmlekfhdaaGreatDoor

/- The bounds of a disk live on. No memory. No condition. -/
namespace Go.Proofs.YtjcphpmlekfhdaaGreatDoor

theorem Fits.mono {M N : Nat} (h : M ≤ N) : ∀ {l : List Chg} {b : List Nat}, Fits M b l → Fits N b l
  | [], b, k => Nat.le_trans (show b.length ≤ M from k) h
  | c :: l, b, k => ⟨Nat.le_trans k.1 h, k.2.1, Fits.mono h (l := l) (b := doC b c) k.2.2⟩
theorem allB_appl : ∀ {l : List Chg} {b : List Nat}, AllB b → (∀ x, Chg.w x ∈ l → AllB x) → AllB (appl b l)
  | [], _, h, _ => h
  | c :: l, b, h, k => by
    rw [appl_cons]
    refine allB_appl ?_ fun x hx => k x (List.mem_cons_of_mem _ hx)
    cases c with
    | w x => exact h.app (k x (List.mem_cons_self ..))
    | c n => exact fun y hy => h y (List.mem_of_mem_take hy)
theorem allB_lose : ∀ {l : List Chg} {k : Int}, (∀ x, Chg.w x ∈ l → AllB x) → ∀ x, Chg.w x ∈ loseL k l → AllB x
  | [], _, _, x, hx => by cases hx
  | c :: l, k, h, x, hx => by
    unfold loseL at hx
    split at hx
    · rw [List.mem_singleton] at hx
      cases c with
      | w y =>
        injection hx with hx
        subst hx
        exact fun z hz => h y (List.mem_cons_self ..) z (List.mem_of_mem_take hz)
      | c n =>
        injection hx with hx
        subst hx
        exact allB_nil
    · rcases List.mem_cons.1 hx with e | e
      · exact h x (e ▸ List.mem_cons_self ..)
      · exact allB_lose (fun y hy => h y (List.mem_cons_of_mem _ hy)) x e
/-- What a file keeps. -/
structure Fl.Ok (M : Nat) (x : Fl) : Prop where
  f : Fits M x.sure x.loose
  b : AllB x.sure ∧ ∀ b, Chg.w b ∈ x.loose → AllB b
theorem Dk.Ok.at_ {d : Dk} (h : d.Ok) (i : Nat) : (d.at i).Ok d.most := by
  unfold Dk.at
  split
  · exact ⟨h.f, h.bf⟩
  · exact ⟨h.g, h.bg⟩
theorem Dk.Ok.put {d : Dk} (h : d.Ok) (i : Nat) {x : Fl} (k : x.Ok d.most) : (d.put i x).Ok := by
  unfold Dk.put
  split
  · exact { h with f := k.f, bf := k.b }
  · exact { h with g := k.f, bg := k.b }
theorem Fl.Ok.len {M : Nat} {x : Fl} (h : x.Ok M) : x.at.length ≤ M := h.f.last
theorem Fl.Ok.settle {M : Nat} {x : Fl} (h : x.Ok M) : x.settle.Ok M := ⟨h.f.last, allB_appl h.b.1 h.b.2, fun b hb => by cases hb⟩
theorem Fl.Ok.lose {M : Nat} {x : Fl} (h : x.Ok M) (k : Int) : (x.lose k).Ok M := ⟨(h.f.lose k).last, allB_appl h.b.1 (allB_lose h.b.2), fun b hb => by cases hb⟩
theorem Fl.Ok.addw {M : Nat} {x : Fl} (h : x.Ok M) {L : List Nat} (hL : AllB L) (hl : x.at.length + L.length ≤ M) : (x.add (.w L)).Ok M :=
  ⟨h.f.app trivial (by rw [appl_app, appl_one]; simpa [doC, Fl.at] using hl), h.b.1, fun b hb => by
    rcases List.mem_append.1 hb with e | e
    · exact h.b.2 b e
    · rw [List.mem_singleton] at e
      injection e with e
      subst e
      exact hL⟩
theorem Fl.Ok.addc {M : Nat} {x : Fl} (h : x.Ok M) {n : Nat} (hn : n ≤ x.at.length) : (x.add (.c n)).Ok M :=
  ⟨h.f.app hn (by
    rw [appl_app, appl_one]
    have := h.f.last
    simp only [doC, List.length_take]
    omega), h.b.1, fun b hb => by
    rcases List.mem_append.1 hb with e | e
    · exact h.b.2 b e
    · rw [List.mem_singleton] at e
      cases e⟩
theorem Dk.room_ok {d : Dk} {i : Nat} {n : Nat} (h : n ≤ d.room) (hp : 0 < n) : (d.at i).at.length + n ≤ d.most := by
  unfold Dk.room at h
  unfold Dk.at
  split <;> omega
theorem Dk.room_ok' {d : Dk} (h : d.Ok) {i : Nat} {n : Nat} (hn : n ≤ d.room) : (d.at i).at.length + n ≤ d.most := by
  rcases Nat.eq_zero_or_pos n with e | e
  · have := (h.at_ i).len
    omega
  · exact Dk.room_ok hn e
/-- How many changes are loose. -/
def Dk.cnt (d : Dk) : Nat := d.f.loose.length + d.g.loose.length
theorem Dk.cnt_at (d : Dk) (i : Nat) : (d.at i).loose.length ≤ d.cnt := by
  unfold Dk.at Dk.cnt
  split <;> omega
theorem Dk.cnt_put (d : Dk) (i : Nat) (x : Fl) (h : x.loose.length ≤ (d.at i).loose.length + 1) : (d.put i x).cnt ≤ d.cnt + 1 := by
  unfold Dk.at at h
  unfold Dk.put Dk.cnt
  split at h <;> simp_all <;> omega
theorem Dk.cnt_burn (d : Dk) (i : Nat) (x : Fl) (h : x.loose.length ≤ (d.at i).loose.length + 1) : (d.burn i x).2.cnt ≤ d.cnt + 1 := by
  unfold Dk.burn
  split
  · show d.cnt ≤ _
    omega
  · exact Dk.cnt_put d.less i x h
theorem Dk.Ok.burn {d : Dk} (h : d.Ok) (i : Nat) {x : Fl} (k : x.Ok d.most) : (d.burn i x).2.Ok := by
  unfold Dk.burn
  split
  · exact h.off true
  · exact h.less.put i k
end Go.Proofs.YtjcphpmlekfhdaaGreatDoor

/- Room, Fuse, Off. No condition. -/
namespace Go.Proofs.YtjcphpmlekfhdaaGreatDoor
open Go.RowKit

theorem room_nil (w : World) : Calls Tryz.prog 16 #[.pointer none] w fun e w' => e = .returned (.int .i64 0) ∧ w' = w := by
  go_enter Tryz.func16, Tryz.ntmps16
  go_wp2_with fail
  go_ret
  exact ⟨rfl, rfl⟩
set_option maxRecDepth 100000 in
set_option maxHeartbeats 4000000 in
theorem room_cells {w : World} {d m a b : Nat} (q0' : w.cell? ⟨d, 0, none⟩ = some (.int .i64 (m : Nat))) (q1' : w.cell? ⟨d, 5, none⟩ = some (.int .i64 (a : Nat))) (q2' : w.cell? ⟨d, 8, none⟩ = some (.int .i64 (b : Nat))) (hm : m ≤ 4194304) (ha : a ≤ 4194304) (hb : b ≤ 4194304) :
    Calls Tryz.prog 16 #[.pointer (some ⟨d, 0, none⟩)] w fun e w' => e = .returned (.int .i64 ((m - a - b : Nat) : Int)) ∧ Below w.heap.size w w' := by
  have q0 : w.drew.cell? ⟨d, 0, none⟩ = some (.int .i64 (m : Nat)) := q0'
  have q1 : w.drew.cell? ⟨d, 5, none⟩ = some (.int .i64 (a : Nat)) := q1'
  have q2 : w.drew.cell? ⟨d, 8, none⟩ = some (.int .i64 (b : Nat)) := q2'
  have e1 : IntKind.i64.wrap ((m : Int) - (a : Int)) = (m : Int) - a := by rw [IntKind.wrap_i64]; omega
  have e2 : IntKind.i64.wrap ((m : Int) - (a : Int) - (b : Int)) = (m : Int) - a - b := by rw [IntKind.wrap_i64]; omega
  clear q0' q1' q2'
  go_enter Tryz.func16, Tryz.ntmps16
  go_wp2_with fail
  go_region
  go_wp2_with fail
  all_goals go_ret
  all_goals exact ⟨ret_int (by omega), (Below.refl _ _).drew⟩
theorem room_any {w0 w : World} {d : Nat} {F : Nat → Prop} {S : Dk} (D : Dsk w0 d F S w) : Calls Tryz.prog 16 #[.pointer (some ⟨d, 0, none⟩)] w fun e w' => e = .returned (.int .i64 (S.room : Nat)) ∧ Below w.heap.size w w' := by
  obtain ⟨_, _, _, _, _, _, D, _⟩ := D
  obtain ⟨k0, _, _, _, _, k5, _, _, k8⟩ := D.cells
  have hm := D.ok.most
  have h1 := (D.ok.at_ 0).len
  have h2 := (D.ok.at_ 1).len
  exact room_cells k0 k5 k8 hm (by simp only [Dk.at, if_true] at h1; omega) (by simp only [Dk.at] at h2; simp at h2; omega)

theorem fuse_nil (w : World) (n : Int) : Calls Tryz.prog 21 #[.pointer none, .int .i64 n] w fun e w' => e = .returned (.int .i64 2) ∧ w' = w := by
  go_enter Tryz.func21, Tryz.ntmps21
  go_wp2_with fail
  refine (powered_nil w).mono ?_
  rintro e w' ⟨rfl, rfl⟩
  go_wp2_with fail
  go_ret
  exact ⟨rfl, rfl⟩
theorem off_nil (w : World) : Calls Tryz.prog 17 #[.pointer none] w fun e w' => e = .returned (.int .i64 2) ∧ w' = w := by
  go_enter Tryz.func17, Tryz.ntmps17
  go_wp2_with fail
  refine (powered_nil w).mono ?_
  rintro e w' ⟨rfl, rfl⟩
  go_wp2_with fail
  go_ret
  exact ⟨rfl, rfl⟩
/-- One cell of the disk, set by a method. -/
theorem DkAt.setDid {w0 w : World} {d : Nat} {P0 P1 F : Nat → Prop} {S S' : Dk} {vs0 vl0 vs1 vl1 : Value} (D : DkAt w0 d P0 P1 S w vs0 vl0 vs1 vl1) (hF : ∀ b, P0 b ∨ P1 b ∨ b = d → F b) (hL : ∀ b, F b → w0.heap.size ≤ b ∧ b < w.heap.size) (o : Nat) (v : Value) (hf : S'.f = S.f) (hg : S'.g = S.g) (hok : S'.Ok) (he : (dkV S vs0 vl0 vs1 vl1).set o v = dkV S' vs0 vl0 vs1 vl1) :
    Did w0 d F w S' (w.setCell ⟨d, o, none⟩ v) :=
  (D.set o v hf hg hok he).did (fun b hb => .inl (hF b hb)) hL D.bel.size (kept_set w d o v (P := fun b => ¬ F b) fun h => h (hF d (.inr (.inr rfl))))
theorem off_any {w0 w : World} {d : Nat} {F : Nat → Prop} {S : Dk} (D : Dsk w0 d F S w) : Calls Tryz.prog 17 #[.pointer (some ⟨d, 0, none⟩)] w fun e W => e = .returned (.int .i64 S.goOff.1) ∧ Did w0 d F w S.goOff.2 W := by
  have D0 := Lib.hid D
  obtain ⟨P0, P1, vs0, vl0, vs1, vl1, D, hF, hL⟩ := D
  obtain ⟨_, k1, _⟩ := D.cells
  have z1 := D.ro.free 1
  have G := Lib.hid (D.setDid (S' := { S with off := true }) hF hL 1 (.bool true) rfl rfl (D.ok.off true) rfl)
  have HP := Lib.hid (powered_any k1)
  clear D hF hL
  unfold Dk.goOff
  cases hs : S.off with
  | true =>
    rw [hs] at HP
    go_enter Tryz.func17, Tryz.ntmps17
    go_wp2_with fail
    refine (HP.out).mono ?_
    rintro e w' ⟨rfl, rfl⟩
    go_wp2_with fail
    go_ret
    exact ⟨rfl, Did.refl D0.out⟩
  | false =>
    rw [hs] at HP
    go_enter Tryz.func17, Tryz.ntmps17
    go_wp2_with fail
    refine (HP.out).mono ?_
    rintro e w' ⟨rfl, rfl⟩
    go_wp2_with fail
    go_ret
    exact ⟨rfl, G.out⟩
theorem fuse_any {w0 w : World} {d : Nat} {F : Nat → Prop} {S : Dk} (D : Dsk w0 d F S w) (n : Int) (hn : -9223372036854775808 ≤ n ∧ n ≤ 9223372036854775807) : Calls Tryz.prog 21 #[.pointer (some ⟨d, 0, none⟩), .int .i64 n] w fun e W => e = .returned (.int .i64 (S.setFuse n).1) ∧ Did w0 d F w (S.setFuse n).2 W := by
  have D0 := Lib.hid D
  obtain ⟨P0, P1, vs0, vl0, vs1, vl1, D, hF, hL⟩ := D
  obtain ⟨_, k1, k2, _⟩ := D.cells
  have z2 := D.ro.free 2
  have G := Lib.hid (D.setDid (S' := { S with fuse := max n (-1) }) hF hL 2 (.int .i64 (max n (-1))) rfl rfl { D.ok with fuse := by simp only; omega } rfl)
  have HP := Lib.hid (powered_any k1)
  have HM : Hid ((if n < -1 then -1 else n) = max n (-1)) := Lib.hid (by split <;> omega)
  clear D hF hL
  unfold Dk.setFuse
  cases hs : S.off with
  | true =>
    rw [hs] at HP
    go_enter Tryz.func21, Tryz.ntmps21
    go_wp2_with fail
    refine (HP.out).mono ?_
    rintro e w' ⟨rfl, rfl⟩
    go_wp2_with fail
    go_ret
    exact ⟨rfl, Did.refl D0.out⟩
  | false =>
    rw [hs] at HP G
    rcases Int.lt_or_le n (-1) with hlt | hge
    · have em : max n (-1) = -1 := by omega
      rw [em] at G ⊢
      go_enter Tryz.func21, Tryz.ntmps21
      go_wp2_with fail
      refine (HP.out).mono ?_
      rintro e w' ⟨rfl, rfl⟩
      go_wp2_with fail
      go_ret
      exact ⟨rfl, G.out⟩
    · have em : max n (-1) = n := by omega
      have hge2 : ¬ n < -1 := by omega
      rw [em] at G ⊢
      go_enter Tryz.func21, Tryz.ntmps21
      go_wp2_with fail
      refine (HP.out).mono ?_
      rintro e w' ⟨rfl, rfl⟩
      go_wp2_with fail
      go_ret
      exact ⟨rfl, G.out⟩
end Go.Proofs.YtjcphpmlekfhdaaGreatDoor

/- Write, Cut, Sync. No condition but a bound on what is loose. -/
namespace Go.Proofs.YtjcphpmlekfhdaaGreatDoor
open Go.RowKit

section
variable {w0 w w2 W : World} {d : Nat} {F : Nat → Prop} {S S' : Dk}
theorem Did.after (D : Dsk w0 d F S w) (g : Below w.heap.size w w2) (h : Did w0 d F w2 S' W) : Did w0 d F w S' W := by
  have hs := h.kept.size
  have gs := g.size
  obtain ⟨_, _, _, _, _, _, D0, _, hL⟩ := D
  have b0 := D0.bel.size
  refine ⟨h.dsk.more (fun b hb => ?_) (fun b hb => ?_), by omega, fun b hb hl => by rw [h.kept.blk b hb (by omega), g.block b hl]⟩
  · rcases hb with hb | hb
    · exact .inl hb
    · exact .inr ⟨by omega, hb.2⟩
  · rcases hb with hb | hb
    · have := hL b hb
      omega
    · omega
theorem Did.later (D : Dsk w0 d F S w) (g : Below w.heap.size w w2) : Did w0 d F w S w2 := Did.after D g (Did.refl (D.later g))
end
theorem dkV_size {S : Dk} {i : Nat} (hi : i = 0 ∨ i = 1) {vs0 vl0 vs1 vl1 : Value} : (dkV S vs0 vl0 vs1 vl1)[3 + 3 * i + 2]? = some (.int .i64 ((S.at i).at.length : Nat)) ∧ 3 + 3 * i + 2 < (dkV S vs0 vl0 vs1 vl1).length := by
  rcases hi with rfl | rfl <;> exact ⟨rfl, by simp [dkV]⟩
theorem filSettle {w0 w : World} {d : Nat} {S : Dk} (ok : S.Ok) {i : Nat} (hi : i = 0 ∨ i = 1) (hn : S.cnt ≤ 1073741823) : FilOp w0 d S i (S.at i).settle 78 #[] w := by
  intro w1 S1 P vs vl vs0 vl0 vs1 vl1 K hS F R hd hw c0 c1
  have ha : (#[Value.pointer (some ⟨d, 3 + 3 * i, none⟩)] ++ #[] : Array Value) = #[.pointer (some ⟨d, 3 + 3 * i, none⟩)] := by simp
  rw [ha]
  exact settle_any F R hd hw c0 c1 (dkV_size hi).2 ((ok.at_ i).f.mono ok.most) (by have := S.cnt_at i; omega)
theorem filWrite {w0 w : World} {d bx : Nat} {S : Dk} (ok : S.Ok) {i : Nat} (hi : i = 0 ∨ i = 1) (hn : S.cnt ≤ 1073741823) {TB : TypeId} {A : Option Addr} {n c : Nat} {L : List Nat} (hb : Ro w bx TB [.slice A n c]) (hbx : bx ≠ d) (hL : Bs w A n L) (hA : 0 < n → ∀ a, A = some a → a.block ≠ d) (hl : n ≤ 4194304) (hc : n ≤ c) :
    FilOp w0 d S i ((S.at i).add (.w L)) 82 #[.pointer (some ⟨bx, 0, none⟩)] w := by
  intro w1 S1 P vs vl vs0 vl0 vs1 vl1 K hS F R hd hw c0 c1
  have ha : (#[Value.pointer (some ⟨d, 3 + 3 * i, none⟩)] ++ #[.pointer (some ⟨bx, 0, none⟩)] : Array Value) = #[.pointer (some ⟨d, 3 + 3 * i, none⟩), .pointer (some ⟨bx, 0, none⟩)] := by simp
  rw [ha]
  have hn2 := hL.len
  subst hn2
  have c2 := (dkV_size (S := S1) hi (vs0 := vs0) (vl0 := vl0) (vs1 := vs1) (vl1 := vl1)).1
  rw [hS] at c2
  have hL1 : Bs w1 A L.length L := (BsP.keep (P := fun b => b ≠ d) ⟨hL, fun h a e => hA h a e⟩ K).bs
  have := write1_any F R hd hw c0 c1 c2 (by have := S.cnt_at i; omega) (by have := (ok.at_ i).len; have := ok.most; omega) (hb.same (K.blk bx hbx hb.lt)) hL1 hl hc
  have el : ((S.at i).add (.w L)).at.length = (S.at i).at.length + L.length := by rw [Fl.at_add, doC, List.length_append]
  rw [el]
  exact this
theorem filCut {w0 w : World} {d bx : Nat} {S : Dk} (ok : S.Ok) {i : Nat} (hi : i = 0 ∨ i = 1) (hn : S.cnt ≤ 1073741823) {TB : TypeId} {n : Nat} (hb : Ro w bx TB [.int .i64 (n : Nat)]) (hbx : bx ≠ d) (hl : n ≤ (S.at i).at.length) :
    FilOp w0 d S i ((S.at i).add (.c n)) 86 #[.pointer (some ⟨bx, 0, none⟩)] w := by
  intro w1 S1 P vs vl vs0 vl0 vs1 vl1 K hS F R hd hw c0 c1
  have ha : (#[Value.pointer (some ⟨d, 3 + 3 * i, none⟩)] ++ #[.pointer (some ⟨bx, 0, none⟩)] : Array Value) = #[.pointer (some ⟨d, 3 + 3 * i, none⟩), .pointer (some ⟨bx, 0, none⟩)] := by simp
  rw [ha]
  have hm := (ok.at_ i).len
  have hm2 := ok.most
  have := cut1_any (n := n) F R hd hw c0 c1 (dkV_size hi).2 (by have := S.cnt_at i; omega) (hb.same (K.blk bx hbx hb.lt)) (by omega)
  have el : ((S.at i).add (.c n)).at.length = n := by
    rw [Fl.at_add, doC, List.length_take]
    omega
  rw [el]
  exact this
theorem Dk.ask_ok {S : Dk} {f : Int} (h : S.ask f = 0) : ∃ i : Nat, f = (i : Int) ∧ (i = 0 ∨ i = 1) := by
  unfold Dk.ask at h
  split at h
  · cases h
  · split at h
    · cases h
    · exact ⟨f.toNat, by omega, by omega⟩
theorem Dk.ask_range {S : Dk} {f : Int} : 0 ≤ S.ask f ∧ S.ask f ≤ 8 := by
  unfold Dk.ask
  split
  · omega
  · split <;> omega
theorem idSettle (args : Array Value) (u : World) : (callFunc 78 args).run Tryz.prog u = .ok (.enter 78 args) u := by simp [callFunc, Tryz.func78, Tryz.f78]
end Go.Proofs.YtjcphpmlekfhdaaGreatDoor

/- Write, Cut, Sync: the walks. No condition but a bound on what is loose. -/
namespace Go.Proofs.YtjcphpmlekfhdaaGreatDoor
open Go.RowKit

theorem idWrite1 (args : Array Value) (u : World) : (callFunc 82 args).run Tryz.prog u = .ok (.enter 82 args) u := by simp [callFunc, Tryz.func82, Tryz.f82]
theorem idCut1 (args : Array Value) (u : World) : (callFunc 86 args).run Tryz.prog u = .ok (.enter 86 args) u := by simp [callFunc, Tryz.func86, Tryz.f86]
theorem Dsk.c1 {w0 w : World} {d : Nat} {F : Nat → Prop} {S : Dk} (D : Dsk w0 d F S w) : w.cell? ⟨d, 1, none⟩ = some (.bool S.off) := by
  obtain ⟨_, _, _, _, _, _, D, _⟩ := D
  exact D.cells.2.1

set_option maxRecDepth 100000 in
set_option maxHeartbeats 4000000 in
theorem sync_any {w0 w : World} {d : Nat} {F : Nat → Prop} {S : Dk} (D : Dsk w0 d F S w) (hn : S.cnt ≤ 1073741823) (f : Int) :
    Calls Tryz.prog 35 #[.pointer (some ⟨d, 0, none⟩), .int .i64 f] w fun e W => e = .returned (.int .i64 (S.sync f).1) ∧ Did w0 d F w (S.sync f).2 W := by
  have HA := Lib.hid (ask_any D.c1 f)
  have HD := Lib.hid D
  clear D
  by_cases h : S.ask f = 0
  · obtain ⟨i, rfl, hi⟩ := Dk.ask_ok h
    have es : S.sync (i : Int) = S.burn i (S.at i).settle := by
      unfold Dk.sync
      rw [if_neg (fun q => q h)]
      rfl
    rw [es]
    have CB := Lib.hid (burn_any HD.out i hi _ _ #[] (filSettle HD.out.ok hi hn) idSettle (HD.out.ok.less.put i (HD.out.ok.at_ i).settle))
    rw [h] at HA
    clear h es
    go_enter Tryz.func35, Tryz.ntmps35
    go_wp2_with fail
    refine (HA.out).mono ?_
    rintro e w' ⟨rfl, rfl⟩
    go_wp2_with fail
    refine (CB.out).mono ?_
    rintro e W ⟨rfl, G⟩
    have HG := Lib.hid G
    clear G
    go_wp2_with fail
    go_ret
    exact ⟨rfl, HG.out⟩
  · have es : S.sync f = (S.ask f, S) := by
      unfold Dk.sync
      rw [if_pos h]
    rw [es]
    obtain ⟨q, hq⟩ : ∃ q, S.ask f = q := ⟨_, rfl⟩
    rw [hq] at HA h ⊢
    have t1 : (q != 0) = true := by simp [h]
    have t2 : decide (q = 0) = false := decide_eq_false h
    go_enter Tryz.func35, Tryz.ntmps35
    go_wp2_with fail
    refine (HA.out).mono ?_
    rintro e w' ⟨rfl, rfl⟩
    go_wp2_with fail
    go_ret
    exact ⟨rfl, Did.refl HD.out⟩
theorem sync_nil (w : World) (f : Int) : Calls Tryz.prog 35 #[.pointer none, .int .i64 f] w fun e w' => e = .returned (.int .i64 2) ∧ w' = w := by
  go_enter Tryz.func35, Tryz.ntmps35
  go_wp2_with fail
  refine (ask_nil w f).mono ?_
  rintro e w' ⟨rfl, rfl⟩
  go_wp2_with fail
  go_ret
  exact ⟨rfl, rfl⟩

set_option maxRecDepth 100000 in
set_option maxHeartbeats 4000000 in
theorem write_any {w0 w : World} {d : Nat} {F : Nat → Prop} {S : Dk} (D : Dsk w0 d F S w) (hn : S.cnt ≤ 1073741823) (f : Int) {A : Option Addr} {n c : Nat} {L : List Nat} (hL : Bs w A n L) (hA : 0 < n → ∀ a, A = some a → a.block ≠ d) (hc : n ≤ c) (hcm : c ≤ 9223372036854775807) :
    Calls Tryz.prog 41 #[.pointer (some ⟨d, 0, none⟩), .int .i64 f, .slice A n c] w fun e W => e = .returned (.int .i64 (S.write f L).1) ∧ Did w0 d F w (S.write f L).2 W := by
  have b1 : Below w.heap.size w (w.alloc (.cells #[.slice A n c] 40)) := (Below.refl _ _).alloc (Nat.le_refl _) _
  have R1 := Ro.new w 40 [.slice A n c]
  obtain ⟨w1, hw1⟩ : ∃ w1, w.alloc (.cells #[.slice A n c] 40) = w1 := ⟨_, rfl⟩
  rw [hw1] at b1
  have R1' : Ro w1 w.heap.size 40 [.slice A n c] := by rw [← hw1]; exact R1
  have D1 := D.later b1
  have HA := Lib.hid (ask_any D1.c1 f)
  have HD := Lib.hid D
  have HB := Lib.hid b1
  have HR := Lib.hid R1'
  have HL := Lib.hid hL
  have hlen := hL.len
  have hdl := D.at_.2.2
  have HX := Lib.hid hA
  clear D D1 b1 R1 R1' hL hA
  by_cases h : S.ask f = 0
  · obtain ⟨i, rfl, hi⟩ := Dk.ask_ok h
    have es : S.write (i : Int) L = if S.room < L.length then (7, S) else S.burn i ((S.at i).add (.w L)) := by
      unfold Dk.write
      rw [if_neg (fun q => q h)]
      rfl
    rw [es]
    rw [h] at HA
    obtain ⟨rm, hrm⟩ : ∃ rm, S.room = rm := ⟨_, rfl⟩
    rw [hrm]
    have CR : Hid (∀ u : After w1, Calls Tryz.prog 16 #[.pointer (some ⟨d, 0, none⟩)] u.w fun e w' => e = .returned (.int .i64 (rm : Nat)) ∧ Below u.w.heap.size u.w w') := Lib.hid fun u => by
      rw [← hrm]
      exact room_any ((HD.out.later HB.out).later u.below)
    have CB : Hid (¬ rm < L.length → ∀ u : After w1, Calls Tryz.prog 77 #[.pointer (some ⟨d, 0, none⟩), .func (.func 82) #[] #[.pointer (some ⟨w.heap.size, 0, none⟩)], .int .i64 (i : Nat)] u.w fun e W => e = .returned (.int .i64 (S.burn i ((S.at i).add (.w L))).1) ∧ Did w0 d F w (S.burn i ((S.at i).add (.w L))).2 W) := Lib.hid fun hr u => by
      have g : Below w.heap.size w u.w := HB.out.trans (u.below.mono HB.out.size)
      have Du := HD.out.later g
      have hro := Dk.room_ok' HD.out.ok (i := i) (n := L.length) (by omega)
      have hm := HD.out.ok.most
      refine (burn_any Du i hi _ _ #[.pointer (some ⟨w.heap.size, 0, none⟩)] (filWrite HD.out.ok hi hn (HR.out.later u.below) (by omega) (HL.out.later g) HX.out (by omega) hc) idWrite1 (HD.out.ok.less.put i ((HD.out.ok.at_ i).addw HL.out.byt hro))).mono fun e W ⟨h1, h2⟩ => ⟨h1, Did.after HD.out g h2⟩
    have bx : ∀ u : After w1, u.w.cell? ⟨w.heap.size, 0, none⟩ = some (.slice A n c) := fun u => (HR.out.later u.below).cell rfl
    clear h es hrm
    go_enter Tryz.func41, Tryz.ntmps41
    go_wp2_with fail
    refine (HA.out).mono ?_
    rintro e w' ⟨rfl, rfl⟩
    go_wp2_with fail
    refine wp_region_after (by kernel_rfl) (by kernel_rfl) ?_
    repeat (go_big_quiet_step (exact after_call (CR.out _)))
    refine wpQuiet_nil ?_
    rintro _ ⟨u, rfl⟩
    by_cases hr : rm < L.length
    · have t1 : decide ((rm : Int) < (n : Int)) = true := decide_eq_true (by omega)
      have t2 : decide ((n : Int) > (rm : Int)) = true := decide_eq_true (by omega)
      have t3 : decide (rm < n) = true := decide_eq_true (by omega)
      go_wp2_with fail
      go_ret
      try rw [if_pos hr]
      exact ⟨rfl, Did.later HD.out (HB.out.trans (u.below.mono HB.out.size))⟩
    · have t1 : decide ((rm : Int) < (n : Int)) = false := decide_eq_false (by omega)
      have t2 : decide ((n : Int) > (rm : Int)) = false := decide_eq_false (by omega)
      have t3 : decide (rm < n) = false := decide_eq_false (by omega)
      have CB2 := Lib.hid (CB.out hr u)
      go_wp2_with fail
      refine (CB2.out).mono ?_
      rintro e W ⟨rfl, G⟩
      have HG := Lib.hid G
      clear G
      go_wp2_with fail
      go_ret
      try rw [if_neg hr]
      exact ⟨rfl, HG.out⟩
  · have es : S.write f L = (S.ask f, S) := by
      unfold Dk.write
      rw [if_pos h]
    rw [es]
    obtain ⟨q, hq⟩ : ∃ q, S.ask f = q := ⟨_, rfl⟩
    rw [hq] at HA h ⊢
    have t1 : (q != 0) = true := by simp [h]
    have t2 : decide (q = 0) = false := decide_eq_false h
    go_enter Tryz.func41, Tryz.ntmps41
    go_wp2_with fail
    refine (HA.out).mono ?_
    rintro e w' ⟨rfl, rfl⟩
    go_wp2_with fail
    go_ret
    exact ⟨rfl, Did.later HD.out HB.out⟩
theorem write_nil (w : World) (f : Int) (A : Option Addr) (n c : Nat) : Calls Tryz.prog 41 #[.pointer none, .int .i64 f, .slice A n c] w fun e w' => e = .returned (.int .i64 2) ∧ Below w.heap.size w w' := by
  go_enter Tryz.func41, Tryz.ntmps41
  go_wp2_with fail
  refine (ask_nil _ f).mono ?_
  rintro e w' ⟨rfl, rfl⟩
  go_wp2_with fail
  go_ret
  exact ⟨rfl, (Below.refl _ _).alloc (Nat.le_refl _) _⟩
theorem cut_nil (w : World) (f n : Int) : Calls Tryz.prog 52 #[.pointer none, .int .i64 f, .int .i64 n] w fun e w' => e = .returned (.int .i64 2) ∧ Below w.heap.size w w' := by
  go_enter Tryz.func52, Tryz.ntmps52
  go_wp2_with fail
  refine (ask_nil _ f).mono ?_
  rintro e w' ⟨rfl, rfl⟩
  go_wp2_with fail
  go_ret
  exact ⟨rfl, (Below.refl _ _).alloc (Nat.le_refl _) _⟩

set_option maxRecDepth 100000 in
set_option maxHeartbeats 4000000 in
theorem cut_any {w0 w : World} {d : Nat} {F : Nat → Prop} {S : Dk} (D : Dsk w0 d F S w) (hn : S.cnt ≤ 1073741823) (f n : Int) :
    Calls Tryz.prog 52 #[.pointer (some ⟨d, 0, none⟩), .int .i64 f, .int .i64 n] w fun e W => e = .returned (.int .i64 (S.cut f n).1) ∧ Did w0 d F w (S.cut f n).2 W := by
  have b1 : Below w.heap.size w (w.alloc (.cells #[.int .i64 n] 3)) := (Below.refl _ _).alloc (Nat.le_refl _) _
  have R1 := Ro.new w 3 [.int .i64 n]
  obtain ⟨w1, hw1⟩ : ∃ w1, w.alloc (.cells #[.int .i64 n] 3) = w1 := ⟨_, rfl⟩
  rw [hw1] at b1
  have R1' : Ro w1 w.heap.size 3 [.int .i64 n] := by rw [← hw1]; exact R1
  have D1 := D.later b1
  have HA := Lib.hid (ask_any D1.c1 f)
  have HD := Lib.hid D
  have HB := Lib.hid b1
  have HR := Lib.hid R1'
  have hdl := D.at_.2.2
  clear D D1 b1 R1 R1'
  by_cases h : S.ask f = 0
  · obtain ⟨i, rfl, hi⟩ := Dk.ask_ok h
    have es : S.cut (i : Int) n = if n < 0 ∨ ((S.at i).at.length : Int) < n then (1, S) else S.burn i ((S.at i).add (.c n.toNat)) := by
      unfold Dk.cut
      rw [if_neg (fun q => q h)]
      rfl
    rw [es]
    rw [h] at HA
    obtain ⟨sz, hsz⟩ : ∃ sz, (S.at i).at.length = sz := ⟨_, rfl⟩
    rw [hsz]
    have CS : Hid (w1.drew.cell? ⟨d, 3 + 3 * i + 2, none⟩ = some (.int .i64 (sz : Nat))) := Lib.hid (by
      obtain ⟨_, _, _, _, _, _, D, _⟩ := HD.out.later HB.out
      have := D.ro.cell (dkV_size (S := S) hi).1
      rw [hsz] at this
      exact this)
    have CB : Hid (¬ (n < 0 ∨ (sz : Int) < n) → Calls Tryz.prog 77 #[.pointer (some ⟨d, 0, none⟩), .func (.func 86) #[] #[.pointer (some ⟨w.heap.size, 0, none⟩)], .int .i64 (i : Nat)] w1.drew fun e W => e = .returned (.int .i64 (S.burn i ((S.at i).add (.c n.toNat))).1) ∧ Did w0 d F w (S.burn i ((S.at i).add (.c n.toNat))).2 W) := Lib.hid fun hr => by
      have g : Below w.heap.size w w1.drew := HB.out.drew
      have Du := HD.out.later g
      have en : n = ((n.toNat : Nat) : Int) := by omega
      have HR2 : Ro w1.drew w.heap.size 3 [.int .i64 (n.toNat : Nat)] := by rw [← en]; exact HR.out.later (Below.refl _ _).drew
      refine (burn_any Du i hi _ _ #[.pointer (some ⟨w.heap.size, 0, none⟩)] (filCut HD.out.ok hi hn HR2 (by omega) (by omega)) idCut1 (HD.out.ok.less.put i ((HD.out.ok.at_ i).addc (by omega)))).mono fun e W ⟨h1, h2⟩ => ⟨h1, Did.after HD.out g h2⟩
    have bx : w1.drew.cell? ⟨w.heap.size, 0, none⟩ = some (.int .i64 n) := (HR.out.later (Below.refl _ _).drew).cell rfl
    clear h es hsz
    by_cases h1 : n < 0
    · have t1 : decide (n < 0) = true := decide_eq_true h1
      go_enter Tryz.func52, Tryz.ntmps52
      go_wp2_with fail
      refine (HA.out).mono ?_
      rintro e w' ⟨rfl, rfl⟩
      go_wp2_with fail
      go_region
      go_wp2_with fail
      go_ret
      try rw [if_pos (Or.inl h1)]
      exact ⟨rfl, Did.later HD.out HB.out.drew⟩
    · have t1 : decide (n < 0) = false := decide_eq_false h1
      by_cases h2 : (sz : Int) < n
      · have t2 : decide ((sz : Int) < n) = true := decide_eq_true h2
        have t3 : decide (n > (sz : Int)) = true := decide_eq_true h2
        rcases hi with rfl | rfl
        · have CS0 : w1.drew.cell? ⟨d, 5, none⟩ = some (.int .i64 (sz : Nat)) := CS.out
          go_enter Tryz.func52, Tryz.ntmps52
          go_wp2_with fail
          refine (HA.out).mono ?_
          rintro e w' ⟨rfl, rfl⟩
          go_wp2_with fail
          go_region
          go_wp2_with fail
          go_ret
          try rw [if_pos (Or.inr h2)]
          exact ⟨rfl, Did.later HD.out HB.out.drew⟩
        · have CS0 : w1.drew.cell? ⟨d, 8, none⟩ = some (.int .i64 (sz : Nat)) := CS.out
          go_enter Tryz.func52, Tryz.ntmps52
          go_wp2_with fail
          refine (HA.out).mono ?_
          rintro e w' ⟨rfl, rfl⟩
          go_wp2_with fail
          go_region
          go_wp2_with fail
          go_ret
          try rw [if_pos (Or.inr h2)]
          exact ⟨rfl, Did.later HD.out HB.out.drew⟩
      · have t2 : decide ((sz : Int) < n) = false := decide_eq_false h2
        have t3 : decide (n > (sz : Int)) = false := decide_eq_false h2
        have CB2 := Lib.hid (CB.out (by omega))
        have hno : ¬ (n < 0 ∨ (sz : Int) < n) := by omega
        rcases hi with rfl | rfl
        · have CS0 : w1.drew.cell? ⟨d, 5, none⟩ = some (.int .i64 (sz : Nat)) := CS.out
          go_enter Tryz.func52, Tryz.ntmps52
          go_wp2_with fail
          refine (HA.out).mono ?_
          rintro e w' ⟨rfl, rfl⟩
          go_wp2_with fail
          go_region
          go_wp2_with fail
          refine (CB2.out).mono ?_
          rintro e W ⟨rfl, G⟩
          have HG := Lib.hid G
          clear G
          go_wp2_with fail
          go_ret
          try rw [if_neg hno]
          exact ⟨rfl, HG.out⟩
        · have CS0 : w1.drew.cell? ⟨d, 8, none⟩ = some (.int .i64 (sz : Nat)) := CS.out
          go_enter Tryz.func52, Tryz.ntmps52
          go_wp2_with fail
          refine (HA.out).mono ?_
          rintro e w' ⟨rfl, rfl⟩
          go_wp2_with fail
          go_region
          go_wp2_with fail
          refine (CB2.out).mono ?_
          rintro e W ⟨rfl, G⟩
          have HG := Lib.hid G
          clear G
          go_wp2_with fail
          go_ret
          try rw [if_neg hno]
          exact ⟨rfl, HG.out⟩
  · have es : S.cut f n = (S.ask f, S) := by
      unfold Dk.cut
      rw [if_pos h]
    rw [es]
    obtain ⟨q, hq⟩ : ∃ q, S.ask f = q := ⟨_, rfl⟩
    rw [hq] at HA h ⊢
    have t1 : (q != 0) = true := by simp [h]
    have t2 : decide (q = 0) = false := decide_eq_false h
    go_enter Tryz.func52, Tryz.ntmps52
    go_wp2_with fail
    refine (HA.out).mono ?_
    rintro e w' ⟨rfl, rfl⟩
    go_wp2_with fail
    go_ret
    exact ⟨rfl, Did.later HD.out HB.out⟩
end Go.Proofs.YtjcphpmlekfhdaaGreatDoor

/- Read. No condition but a bound on what is loose. -/
namespace Go.Proofs.YtjcphpmlekfhdaaGreatDoor
open Go.RowKit

theorem Dsk.file {w0 w : World} {d : Nat} {F : Nat → Prop} {S : Dk} (D : Dsk w0 d F S w) {i : Nat} (hi : i = 0 ∨ i = 1) : ∃ P vs vl, FlAt w0 P vs vl (S.at i) w ∧ w.cell? ⟨d, 3 + 3 * i, none⟩ = some vs ∧ w.cell? ⟨d, 3 + 3 * i + 1, none⟩ = some vl := by
  obtain ⟨P0, P1, vs0, vl0, vs1, vl1, D, _⟩ := D
  obtain ⟨_, _, _, k3, k4, _, k6, k7, _⟩ := D.cells
  rcases hi with rfl | rfl
  · exact ⟨P0, vs0, vl0, D.f0, k3, k4⟩
  · exact ⟨P1, vs1, vl1, D.f1, k6, k7⟩
/-- What Read gives. -/
def ReadIs (w : World) (L : List Nat) (x : Int) (e : Ending) (W : World) : Prop := ∃ A n c, e = .returned (.tuple #[.slice A n c, .int .i64 x]) ∧ n ≤ c ∧ Own w (.slice A n c) n L W
theorem read_nil (w : World) (f : Int) : Calls Tryz.prog 24 #[.pointer none, .int .i64 f] w fun e w' => e = .returned (.tuple #[.slice none 0 0, .int .i64 2]) ∧ w' = w := by
  go_enter Tryz.func24, Tryz.ntmps24
  go_wp2_with fail
  refine (ask_nil w f).mono ?_
  rintro e w' ⟨rfl, rfl⟩
  go_wp2_with fail
  go_returns
  exact ⟨rfl, rfl⟩
/-- What the rounds hand on. -/
def ReadAt (w : World) (S : Fl) (k : Nat) (v : Value) (wr : World) : Prop := ∃ A m c, v = .slice A m c ∧ m ≤ c ∧ Own w (.slice A m c) m (appl S.sure (S.loose.take k)) wr
theorem ReadAt.next {w w' : World} {S : Fl} {k : Nat} {x : Chg} {A : Option Addr} {m c : Nat} (hx : S.loose[k]? = some x) {M : List Nat} (hM : appl S.sure (S.loose.take k) = M) (hc : m ≤ c) (O : Own w (.slice A m c) m (doC M x) w') : ReadAt w S (k + 1) (.slice A m c) w' :=
  ⟨A, m, c, rfl, hc, by
    rw [List.take_add_one, hx, appl_app, hM]
    exact O⟩
set_option maxRecDepth 100000 in
set_option maxHeartbeats 8000000 in
theorem read_any {w0 w : World} {d : Nat} {F : Nat → Prop} {S : Dk} (D : Dsk w0 d F S w) (hn : S.cnt ≤ 1073741823) (f : Int) :
    Calls Tryz.prog 24 #[.pointer (some ⟨d, 0, none⟩), .int .i64 f] w (ReadIs w (S.read f).1 (S.read f).2) := by
  have HA := Lib.hid (ask_any D.c1 f)
  have HD := Lib.hid D
  clear D
  by_cases h : S.ask f = 0
  · obtain ⟨i, rfl, hi⟩ := Dk.ask_ok h
    have es : S.read (i : Int) = ((S.at i).at, 0) := by
      unfold Dk.read
      rw [if_neg (fun q => q h)]
      rfl
    rw [es]
    rw [h] at HA
    obtain ⟨P, vs, vl, FL, k3, k4⟩ := HD.out.file hi
    have ok := HD.out.ok.at_ i
    have hni := S.cnt_at i
    have hmost := HD.out.ok.most
    obtain ⟨x, hx⟩ : ∃ x, S.at i = x := ⟨_, rfl⟩
    rw [hx] at FL ok hni ⊢
    obtain ⟨As, cs, rfl, hcs⟩ := FL.sure.shape
    obtain ⟨Al, cl, rfl, hcl⟩ := FL.loose.shape
    have hsl := ok.f.start
    have CC := Lib.hid (clone_any (c := cs) FL.sure.reads (by omega) hcs)
    have HF := Lib.hid FL
    have HO := Lib.hid ok
    have hE : Hid (x.at = appl x.sure x.loose) := Lib.hid rfl
    clear FL ok h es hx
    rcases hi with rfl | rfl
    · have q3 : w.cell? ⟨d, 3, none⟩ = some (.slice As x.sure.length cs) := k3
      have q4 : w.cell? ⟨d, 4, none⟩ = some (.slice Al x.loose.length cl) := k4
      clear k3 k4
      go_enter Tryz.func24, Tryz.ntmps24
      go_wp2_with fail
      refine (HA.out).mono ?_
      rintro e w' ⟨rfl, rfl⟩
      go_wp2_with fail
      refine (CC.out).mono ?_
      rintro e w1 ⟨A1, n1, c1, rfl, hc1, hO1⟩
      have r4 := (HF.out.grow hO1.bel)
      have q5 : w1.cell? ⟨d, 4, none⟩ = some (.slice Al x.loose.length cl) := cell_later hO1.bel q4
      have HO1 := Lib.hid hO1
      clear r4 hO1
      go_wp2_with fail
      go_loopw [7, 32] (fun v i wr => ∃ k : Nat, k ≤ x.loose.length ∧ i = .int .i64 (k : Nat) ∧ ReadAt w' x k v wr) (fun _ i _ => x.loose.length - (intOf i).toNat)
      case atStart => exact ⟨0, Nat.zero_le _, rfl, A1, n1, c1, rfl, hc1, HO1.out⟩
      case round =>
        obtain ⟨k, hk, rfl, A2, m2, c2, rfl, hc2, hO2⟩ := hrel
        obtain ⟨M, hM⟩ : ∃ M, appl x.sure (x.loose.take k) = M := ⟨_, rfl⟩
        rw [hM] at hO2
        have HM := Lib.hid hM
        have H2 := Lib.hid hO2
        clear hM hO2
        by_cases hlt : k < x.loose.length
        · obtain ⟨g, c', V, e1, hc', CV, RV⟩ := (HF.out.grow H2.out.bel).at_ (i := k) hlt
          injection e1 with e1 _ e2
          subst e1 e2
          obtain ⟨y, hy⟩ : ∃ y, x.loose[k]? = some y := ⟨_, List.getElem?_eq_getElem hlt⟩
          have hy' : x.loose[k] = y := by simpa [hlt] using hy
          rw [hy'] at RV
          have ft := Fits.at_ HO.out.f hy
          rw [HM.out] at ft
          have hm2 := H2.out.len
          have HY := Lib.hid hy
          clear hy hy' q3 q4 q5
          cases y with
          | w L =>
            obtain ⟨A', c'', e2, hL, hc3, _, _⟩ := RV
            obtain rfl : V = wV A' L.length c'' := by simpa using e2
            have C := Lib.hid (writeDo_any (c := c'') H2.out hL.bs (by have := ft.2.2; simp only [doC, List.length_append] at this; omega))
            have mw := metW A' L.length c''
            clear hL ft e2
            unfold wV at *
            go_wp2_with fail
            refine (C.out).mono ?_
            rintro e w3 ⟨A3, n3, c3, rfl, h3, O3, _⟩
            have H3 := Lib.hid (ReadAt.next (x := .w L) HY.out HM.out h3 O3)
            clear O3
            go_wp2_with fail
            go_roundw
            case rel => exact ⟨k + 1, by omega, by go_num, H3.out⟩
            case measure => simp [intOf]; omega
          | c q =>
            obtain rfl : V = cV q := by simpa using RV.1
            have hq : q ≤ m2 := by have := ft.2.1; simp only at this; omega
            have C := Lib.hid (cutDo_any (w := wr) (A := A2) hq hc2)
            have mw := metC q
            clear RV ft
            unfold cV at *
            go_wp2_with fail
            refine (C.out).mono ?_
            rintro e w3 ⟨rfl, g3⟩
            have H3 := Lib.hid (ReadAt.next (x := .c q) HY.out HM.out (by omega) ((H2.out.later g3).short hq))
            clear g3
            go_wp2_with fail
            go_roundw
            case rel => exact ⟨k + 1, by omega, by go_num, H3.out⟩
            case measure => simp [intOf]; omega
        · have hk2 : x.loose.length ≤ k := by omega
          go_wp2_with fail
          go_returns
          rw [hE.out, ← List.take_of_length_le hk2, HM.out]
          exact ⟨A2, m2, c2, rfl, hc2, H2.out⟩
    · have q3 : w.cell? ⟨d, 6, none⟩ = some (.slice As x.sure.length cs) := k3
      have q4 : w.cell? ⟨d, 7, none⟩ = some (.slice Al x.loose.length cl) := k4
      clear k3 k4
      go_enter Tryz.func24, Tryz.ntmps24
      go_wp2_with fail
      refine (HA.out).mono ?_
      rintro e w' ⟨rfl, rfl⟩
      go_wp2_with fail
      refine (CC.out).mono ?_
      rintro e w1 ⟨A1, n1, c1, rfl, hc1, hO1⟩
      have r4 := (HF.out.grow hO1.bel)
      have q5 : w1.cell? ⟨d, 7, none⟩ = some (.slice Al x.loose.length cl) := cell_later hO1.bel q4
      have HO1 := Lib.hid hO1
      clear r4 hO1
      go_wp2_with fail
      go_loopw [7, 32] (fun v i wr => ∃ k : Nat, k ≤ x.loose.length ∧ i = .int .i64 (k : Nat) ∧ ReadAt w' x k v wr) (fun _ i _ => x.loose.length - (intOf i).toNat)
      case atStart => exact ⟨0, Nat.zero_le _, rfl, A1, n1, c1, rfl, hc1, HO1.out⟩
      case round =>
        obtain ⟨k, hk, rfl, A2, m2, c2, rfl, hc2, hO2⟩ := hrel
        obtain ⟨M, hM⟩ : ∃ M, appl x.sure (x.loose.take k) = M := ⟨_, rfl⟩
        rw [hM] at hO2
        have HM := Lib.hid hM
        have H2 := Lib.hid hO2
        clear hM hO2
        by_cases hlt : k < x.loose.length
        · obtain ⟨g, c', V, e1, hc', CV, RV⟩ := (HF.out.grow H2.out.bel).at_ (i := k) hlt
          injection e1 with e1 _ e2
          subst e1 e2
          obtain ⟨y, hy⟩ : ∃ y, x.loose[k]? = some y := ⟨_, List.getElem?_eq_getElem hlt⟩
          have hy' : x.loose[k] = y := by simpa [hlt] using hy
          rw [hy'] at RV
          have ft := Fits.at_ HO.out.f hy
          rw [HM.out] at ft
          have hm2 := H2.out.len
          have HY := Lib.hid hy
          clear hy hy' q3 q4 q5
          cases y with
          | w L =>
            obtain ⟨A', c'', e2, hL, hc3, _, _⟩ := RV
            obtain rfl : V = wV A' L.length c'' := by simpa using e2
            have C := Lib.hid (writeDo_any (c := c'') H2.out hL.bs (by have := ft.2.2; simp only [doC, List.length_append] at this; omega))
            have mw := metW A' L.length c''
            clear hL ft e2
            unfold wV at *
            go_wp2_with fail
            refine (C.out).mono ?_
            rintro e w3 ⟨A3, n3, c3, rfl, h3, O3, _⟩
            have H3 := Lib.hid (ReadAt.next (x := .w L) HY.out HM.out h3 O3)
            clear O3
            go_wp2_with fail
            go_roundw
            case rel => exact ⟨k + 1, by omega, by go_num, H3.out⟩
            case measure => simp [intOf]; omega
          | c q =>
            obtain rfl : V = cV q := by simpa using RV.1
            have hq : q ≤ m2 := by have := ft.2.1; simp only at this; omega
            have C := Lib.hid (cutDo_any (w := wr) (A := A2) hq hc2)
            have mw := metC q
            clear RV ft
            unfold cV at *
            go_wp2_with fail
            refine (C.out).mono ?_
            rintro e w3 ⟨rfl, g3⟩
            have H3 := Lib.hid (ReadAt.next (x := .c q) HY.out HM.out (by omega) ((H2.out.later g3).short hq))
            clear g3
            go_wp2_with fail
            go_roundw
            case rel => exact ⟨k + 1, by omega, by go_num, H3.out⟩
            case measure => simp [intOf]; omega
        · have hk2 : x.loose.length ≤ k := by omega
          go_wp2_with fail
          go_returns
          rw [hE.out, ← List.take_of_length_le hk2, HM.out]
          exact ⟨A2, m2, c2, rfl, hc2, H2.out⟩
  · have es : S.read f = ([], S.ask f) := by
      unfold Dk.read
      rw [if_pos h]
    rw [es]
    obtain ⟨q, hq⟩ : ∃ q, S.ask f = q := ⟨_, rfl⟩
    rw [hq] at HA h ⊢
    have t1 : (q != 0) = true := by simp [h]
    have t2 : decide (q = 0) = false := decide_eq_false h
    go_enter Tryz.func24, Tryz.ntmps24
    go_wp2_with fail
    refine (HA.out).mono ?_
    rintro e w' ⟨rfl, rfl⟩
    go_wp2_with fail
    go_returns
    exact ⟨none, 0, 0, rfl, Nat.le_refl _, World.ownsRow_nil _ _ _ _, allB_nil, Below.refl _ _⟩
end Go.Proofs.YtjcphpmlekfhdaaGreatDoor

/- On. No condition but a bound on what is loose. -/
namespace Go.Proofs.YtjcphpmlekfhdaaGreatDoor
open Go.RowKit

/-- A slice of ints that reads as L. -/
structure Zs (w : World) (A : Option Addr) (n : Nat) (L : List Int) : Prop where
  len : L.length = n
  rng : ∀ x ∈ L, -9223372036854775808 ≤ x ∧ x ≤ 9223372036854775807
  cel : ∀ k, k < n → ∃ a, A = some a ∧ a.block < w.heap.size ∧ w.cell? (a.add k) = some (.int .i64 (pick L k))
theorem Zs.nil (w : World) (A : Option Addr) : Zs w A 0 [] := ⟨rfl, fun x hx => (by cases hx), fun k hk => absurd hk (by omega)⟩
theorem pick_rng {L : List Int} (h : ∀ x ∈ L, -9223372036854775808 ≤ x ∧ x ≤ 9223372036854775807) (k : Nat) : -9223372036854775808 ≤ pick L k ∧ pick L k ≤ 9223372036854775807 := by
  unfold pick
  rw [List.getD_eq_getElem?_getD]
  cases e : L[k]? with
  | none => decide
  | some x => exact h x (List.mem_of_getElem? e)
theorem pick_none {L : List Int} {k : Nat} (h : L.length ≤ k) : pick L k = 0 := by
  unfold pick
  rw [List.getD_eq_getElem?_getD, List.getElem?_eq_none h]
  rfl
theorem Did.trans {w0 w w1 w2 : World} {d : Nat} {F : Nat → Prop} {S1 S2 : Dk} (A : Did w0 d F w S1 w1) (B : Did w0 d (Gr F w w1) w1 S2 w2) : Did w0 d F w S2 w2 := by
  have h1 := A.kept.size
  have h2 := B.kept.size
  refine ⟨B.dsk.more (Gr.step h1 h2) (fun b hb => ?_), by omega, fun b hb hl => by rw [B.kept.blk b (Gr.not hb hl) (by omega), A.kept.blk b hb hl]⟩
  obtain ⟨_, _, _, _, _, _, D, _, hL⟩ := A.dsk
  have := D.bel.size
  rcases hb with hb | hb
  · have := hL b (.inl hb)
    omega
  · rcases Nat.lt_or_ge b w1.heap.size with h | h
    · have := hL b (.inr ⟨hb.1, h⟩)
      omega
    · omega
theorem filLose {w0 w : World} {d : Nat} {S : Dk} (ok : S.Ok) {i : Nat} (hi : i = 0 ∨ i = 1) (hn : S.cnt ≤ 1073741823) {z : Int} (hz : -9223372036854775808 ≤ z ∧ z ≤ 9223372036854775807) : FilOp w0 d S i ((S.at i).lose z) 44 #[.int .i64 z] w := by
  intro w1 S1 P vs vl vs0 vl0 vs1 vl1 K hS F R hd hw c0 c1
  have ha : (#[Value.pointer (some ⟨d, 3 + 3 * i, none⟩)] ++ #[.int .i64 z] : Array Value) = #[.pointer (some ⟨d, 3 + 3 * i, none⟩), .int .i64 z] := by simp
  rw [ha]
  exact lose_any F R hd hw c0 c1 (dkV_size hi).2 ((ok.at_ i).f.mono ok.most) (by have := S.cnt_at i; omega) hz
theorem lose_file {w0 w : World} {d : Nat} {F : Nat → Prop} {S : Dk} (D : Dsk w0 d F S w) (i : Nat) (hi : i = 0 ∨ i = 1) (hn : S.cnt ≤ 1073741823) {z : Int} (hz : -9223372036854775808 ≤ z ∧ z ≤ 9223372036854775807) :
    Calls Tryz.prog 44 #[.pointer (some ⟨d, 3 + 3 * i, none⟩), .int .i64 z] w fun e W => e = .returned (.tuple #[]) ∧ Did w0 d F w (S.put i ((S.at i).lose z)) W := by
  obtain ⟨P0, P1, vs0, vl0, vs1, vl1, D, hF, hL⟩ := D
  have ok := D.ok
  have := burn_call (S := S) D hF hL D.bel.size ⟨Nat.le_refl _, fun _ _ _ => rfl⟩ rfl rfl rfl i hi _ _ #[.int .i64 z] (filLose ok hi hn hz) (ok.put i ((ok.at_ i).lose z))
  have ha : (#[Value.pointer (some ⟨d, 3 + 3 * i, none⟩)] ++ #[.int .i64 z] : Array Value) = #[.pointer (some ⟨d, 3 + 3 * i, none⟩), .int .i64 z] := by simp
  rwa [ha] at this
/-- k files have lost what they lose. -/
def Dk.lost (S : Dk) (p : List Int) : Nat → Dk
  | 0 => S
  | k + 1 => (S.lost p k).put k (((S.lost p k).at k).lose (pick p k))
theorem Dk.lost_on (S : Dk) (p : List Int) (h : S.off = true) : S.goOn p = (0, { S.lost p 2 with off := false, fuse := -1 }) := by
  unfold Dk.goOn
  rw [if_pos h]
  rfl
theorem Dk.lost_cnt (S : Dk) (p : List Int) : ∀ k, k ≤ 2 → (S.lost p k).cnt ≤ S.cnt
  | 0, _ => Nat.le_refl _
  | 1, _ => by show 0 + S.g.loose.length ≤ _; unfold Dk.cnt; omega
  | 2, _ => by show 0 + 0 ≤ _; omega
theorem on_nil (w : World) (A : Option Addr) (n c : Nat) : Calls Tryz.prog 18 #[.pointer none, .slice A n c] w fun e w' => e = .returned (.int .i64 2) ∧ w' = w := by
  go_enter Tryz.func18, Tryz.ntmps18
  go_wp2_with fail
  go_ret
  exact ⟨rfl, rfl⟩
theorem on_end {w0 w wr : World} {d : Nat} {F : Nat → Prop} {S S1 : Dk} (A : Did w0 d F w S1 wr) : Did w0 d F w { S1 with off := false, fuse := -1 } ((wr.setCell ⟨d, 1, none⟩ (.bool false)).setCell ⟨d, 2, none⟩ (.int .i64 (-1))) := by
  have B1 : Did w0 d (Gr F w wr) wr { S1 with off := false } (wr.setCell ⟨d, 1, none⟩ (.bool false)) := by
    obtain ⟨P0, P1, vs0, vl0, vs1, vl1, D, hF, hL⟩ := A.dsk
    exact D.setDid hF hL 1 (.bool false) rfl rfl (D.ok.off false) rfl
  have A2 := A.trans B1
  refine A2.trans ?_
  obtain ⟨P0, P1, vs0, vl0, vs1, vl1, D, hF, hL⟩ := A2.dsk
  exact D.setDid hF hL 2 (.int .i64 (-1)) rfl rfl { D.ok with fuse := by simp only; omega } rfl
theorem Did.cells {w0 w wr : World} {d : Nat} {F : Nat → Prop} {S1 : Dk} (A : Did w0 d F w S1 wr) : wr.cell? ⟨d, 1, none⟩ = some (.bool S1.off) ∧ wr.cell? ⟨d, 2, none⟩ = some (.int .i64 S1.fuse) ∧ wr.frozen? ⟨d, 1, none⟩ = false ∧ wr.frozen? ⟨d, 2, none⟩ = false ∧ (wr.setCell ⟨d, 1, none⟩ (.bool false)).cell? ⟨d, 2, none⟩ = some (.int .i64 S1.fuse) ∧ (wr.setCell ⟨d, 1, none⟩ (.bool false)).frozen? ⟨d, 2, none⟩ = false := by
  obtain ⟨P0, P1, vs0, vl0, vs1, vl1, D, hF, hL⟩ := A.dsk
  exact ⟨D.cells.2.1, D.cells.2.2.1, D.ro.free 1, D.ro.free 2, (D.ro.set 1 _).cell rfl, (D.ro.set 1 _).free 2⟩

set_option maxRecDepth 100000 in
set_option maxHeartbeats 8000000 in
theorem on_any {w0 w : World} {d : Nat} {F : Nat → Prop} {S : Dk} (D : Dsk w0 d F S w) (hn : S.cnt ≤ 1073741823) {A : Option Addr} {n c : Nat} {p : List Int} (hp : Zs w A n p) (hA : 0 < n → ∀ a, A = some a → ¬ F a.block) (hc : n ≤ c) (hcm : c ≤ 9223372036854775807) :
    Calls Tryz.prog 18 #[.pointer (some ⟨d, 0, none⟩), .slice A n c] w fun e W => e = .returned (.int .i64 (S.goOn p).1) ∧ Did w0 d F w (S.goOn p).2 W := by
  have k1 := D.c1
  have HD := Lib.hid D
  have HP := Lib.hid hp
  have HA := Lib.hid hA
  clear D hp hA
  cases hs : S.off with
  | false =>
    have es : S.goOn p = (3, S) := by unfold Dk.goOn; rw [if_neg (by simp [hs])]
    rw [es]
    rw [hs] at k1
    go_enter Tryz.func18, Tryz.ntmps18
    go_wp2_with fail
    go_ret
    exact ⟨rfl, Did.refl HD.out⟩
  | true =>
    rw [S.lost_on p hs]
    rw [hs] at k1
    have CL : Hid (∀ (k : Nat) wr, k < 2 → Did w0 d F w (S.lost p k) wr → Calls Tryz.prog 44 #[.pointer (some ⟨d, 3 + 3 * k, none⟩), .int .i64 (pick p k)] wr fun e W => e = .returned (.tuple #[]) ∧ Did w0 d F w (S.lost p (k + 1)) W) := Lib.hid fun k wr hk A1 =>
      (lose_file A1.dsk k (by omega) (by have := S.lost_cnt p k (by omega); omega) (pick_rng HP.out.rng k)).mono fun e W ⟨h1, h2⟩ => ⟨h1, A1.trans h2⟩
    have CP : Hid (∀ (k : Nat) wr S1, k < n → Did w0 d F w S1 wr → ∃ a, A = some a ∧ wr.cell? (a.add k) = some (.int .i64 (pick p k))) := Lib.hid fun k wr S1 hk A1 => by
      obtain ⟨a, e, hb, hcel⟩ := HP.out.cel k hk
      refine ⟨a, e, ?_⟩
      rw [A1.kept.cell (by rw [add_block]; exact HA.out (by omega) a e) (by rw [add_block]; exact hb)]
      exact hcel
    have CN : Hid (∀ k, n ≤ k → pick p k = 0) := Lib.hid fun k hk => pick_none (by rw [HP.out.len]; exact hk)
    go_enter Tryz.func18, Tryz.ntmps18
    go_wp2_with fail
    go_loopw [16] (fun i wr => ∃ k : Nat, k ≤ 2 ∧ i = .int .i64 (k : Nat) ∧ Did w0 d F w (S.lost p k) wr) (fun i _ => 2 - (intOf i).toNat)
    case atStart => exact ⟨0, by omega, rfl, Did.refl HD.out⟩
    case round =>
      obtain ⟨k, hk, rfl, A1⟩ := hrel
      have HK := Lib.hid A1
      clear A1
      rcases (by omega : k = 0 ∨ k = 1 ∨ k = 2) with rfl | rfl | rfl
      · have C := Lib.hid (CL.out 0 _ (by omega) HK.out)
        by_cases hlt : 0 < n
        · obtain ⟨a, rfl, ca⟩ := CP.out 0 _ _ hlt HK.out
          have ca0 : wr.cell? a = some (.int .i64 (pick p 0)) := ca
          obtain ⟨z, hz⟩ : ∃ z, pick p 0 = z := ⟨_, rfl⟩
          rw [hz] at ca C ca0
          have t1 : decide ((0 : Int) < (n : Int)) = true := decide_eq_true (by omega)
          have hlt2 : (0 : Int) < (n : Int) := by omega
          go_wp2_with fail
          refine (C.out).mono ?_
          rintro e W ⟨rfl, G⟩
          have HG := Lib.hid G
          clear G
          go_wp2_with fail
          go_roundw
          case rel => exact ⟨1, by omega, by go_num, HG.out⟩
          case measure => simp [intOf]
        · have t1 : decide ((0 : Int) < (n : Int)) = false := decide_eq_false (by omega)
          have hlt2 : ¬ (0 : Int) < (n : Int) := by omega
          rw [CN.out 0 (by omega)] at C
          go_wp2_with fail
          refine (C.out).mono ?_
          rintro e W ⟨rfl, G⟩
          have HG := Lib.hid G
          clear G
          go_wp2_with fail
          go_roundw
          case rel => exact ⟨1, by omega, by go_num, HG.out⟩
          case measure => simp [intOf]
      · have C := Lib.hid (CL.out 1 _ (by omega) HK.out)
        by_cases hlt : 1 < n
        · obtain ⟨a, rfl, ca⟩ := CP.out 1 _ _ hlt HK.out
          have ca0 : wr.cell? ⟨a.block, a.off + 1, none⟩ = some (.int .i64 (pick p 1)) := by simpa [Addr.add] using ca
          obtain ⟨z, hz⟩ : ∃ z, pick p 1 = z := ⟨_, rfl⟩
          rw [hz] at ca C ca0
          have t1 : decide ((1 : Int) < (n : Int)) = true := decide_eq_true (by omega)
          have hlt2 : (1 : Int) < (n : Int) := by omega
          go_wp2_with fail
          refine (C.out).mono ?_
          rintro e W ⟨rfl, G⟩
          have HG := Lib.hid G
          clear G
          go_wp2_with fail
          go_roundw
          case rel => exact ⟨2, by omega, by go_num, HG.out⟩
          case measure => simp [intOf]
        · have t1 : decide ((1 : Int) < (n : Int)) = false := decide_eq_false (by omega)
          have hlt2 : ¬ (1 : Int) < (n : Int) := by omega
          rw [CN.out 1 (by omega)] at C
          go_wp2_with fail
          refine (C.out).mono ?_
          rintro e W ⟨rfl, G⟩
          have HG := Lib.hid G
          clear G
          go_wp2_with fail
          go_roundw
          case rel => exact ⟨2, by omega, by go_num, HG.out⟩
          case measure => simp [intOf]
      · obtain ⟨m1, m2, m3, m4, m5, m6⟩ := HK.out.cells
        have E := Lib.hid (on_end (S := S) HK.out)
        go_wp2_with fail
        go_ret
        exact ⟨rfl, E.out⟩
end Go.Proofs.YtjcphpmlekfhdaaGreatDoor
