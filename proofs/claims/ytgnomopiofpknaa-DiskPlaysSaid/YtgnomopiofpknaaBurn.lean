/- burn: a counted call. No condition but what the callee is asked. -/
import Derived.Test.YtgnomopiofpknaaDk
namespace Go.Proofs.Ytgnomopiofpknaa
open Go.RowKit

/-- The fuse burns down. -/
def Dk.less (d : Dk) : Dk := { d with fuse := if 0 < d.fuse then d.fuse - 1 else d.fuse }
theorem Dk.Ok.less {d : Dk} (h : d.Ok) : d.less.Ok := { h with fuse := by have := h.fuse; unfold Dk.less; simp only; split <;> omega }
theorem Dk.Ok.off {d : Dk} (h : d.Ok) (b : Bool) : ({ d with off := b } : Dk).Ok := { h with }
/-- Behind the callee: file 0 turned. -/
theorem DkAt.fil0 {w0 w W : World} {d : Nat} {P0 P1 : Nat → Prop} {S : Dk} {vs0 vl0 vs1 vl1 : Value} {x : Fl} (D : DkAt w0 d P0 P1 S w vs0 vl0 vs1 vl1) (h : Fil w0 P0 w d 3 60 (dkV S vs0 vl0 vs1 vl1) x (x.at.length : Nat) W) (ok : (S.put 0 x).Ok) :
    ∃ a b, DkAt w0 d (Gr P0 w W) P1 (S.put 0 x) W a b vs1 vl1 := by
  obtain ⟨⟨a, b, h1, h2⟩, h3⟩ := h
  refine ⟨a, b, h1, D.f1.keep (h3.weak fun y hy _ => ⟨fun e => D.ap y e hy, fun e => D.n1 (e ▸ hy)⟩) h1.sure.bel, h2, Gr.not D.n0 D.ro.lt, D.n1, fun y hy hy2 => ?_, D.lo, ok⟩
  rcases hy with hy | hy
  · exact D.ap y hy hy2
  · have := (D.f1.lt y hy2).2
    omega
theorem DkAt.fil1 {w0 w W : World} {d : Nat} {P0 P1 : Nat → Prop} {S : Dk} {vs0 vl0 vs1 vl1 : Value} {x : Fl} (D : DkAt w0 d P0 P1 S w vs0 vl0 vs1 vl1) (h : Fil w0 P1 w d 6 60 (dkV S vs0 vl0 vs1 vl1) x (x.at.length : Nat) W) (ok : (S.put 1 x).Ok) :
    ∃ a b, DkAt w0 d P0 (Gr P1 w W) (S.put 1 x) W vs0 vl0 a b := by
  obtain ⟨⟨a, b, h1, h2⟩, h3⟩ := h
  refine ⟨a, b, D.f0.keep (h3.weak fun y hy _ => ⟨fun e => D.ap y hy e, fun e => D.n0 (e ▸ hy)⟩) h1.sure.bel, h1, h2, D.n0, Gr.not D.n1 D.ro.lt, fun y hy hy2 => ?_, D.lo, ok⟩
  rcases hy2 with hy2 | hy2
  · exact D.ap y hy hy2
  · have := (D.f0.lt y hy).2
    omega
/-- What the callee is asked, at file i of the disk. -/
def FilOp (w0 : World) (d : Nat) (S : Dk) (i : Nat) (x : Fl) (id : Nat) (cap : Array Value) (w : World) : Prop :=
  ∀ (w1 : World) (S1 : Dk) (P : Nat → Prop) (vs vl vs0 vl0 vs1 vl1 : Value), Kept (fun b => b ≠ d) w w1 → S1.at i = S.at i → FlAt w0 P vs vl (S.at i) w1 → Ro w1 d 60 (dkV S1 vs0 vl0 vs1 vl1) → ¬ P d → w0.heap.size ≤ d → (dkV S1 vs0 vl0 vs1 vl1)[3 + 3 * i]? = some vs → (dkV S1 vs0 vl0 vs1 vl1)[3 + 3 * i + 1]? = some vl →
    Calls Try.prog id (#[.pointer (some ⟨d, 3 + 3 * i, none⟩)] ++ cap) w1 fun e W => e = .returned (.tuple #[]) ∧ Fil w0 P w1 d (3 + 3 * i) 60 (dkV S1 vs0 vl0 vs1 vl1) x (x.at.length : Nat) W
theorem burn_call {w0 w w1 : World} {d : Nat} {P0 P1 F : Nat → Prop} {S S1 : Dk} {vs0 vl0 vs1 vl1 : Value} (D : DkAt w0 d P0 P1 S1 w1 vs0 vl0 vs1 vl1) (hF : ∀ b, P0 b ∨ P1 b ∨ b = d → F b) (hL : ∀ b, F b → w0.heap.size ≤ b ∧ b < w.heap.size) (hw : w0.heap.size ≤ w.heap.size)
    (K : Kept (fun b => b ≠ d) w w1) (hs : w1.heap.size = w.heap.size) (h0 : S1.f = S.f) (h1 : S1.g = S.g) (i : Nat) (hi : i = 0 ∨ i = 1) (x : Fl) (id : Nat) (cap : Array Value) (C : FilOp w0 d S i x id cap w) (ok : (S1.put i x).Ok) :
    Calls Try.prog id (#[.pointer (some ⟨d, 3 + 3 * i, none⟩)] ++ cap) w1 fun e W => e = .returned (.tuple #[]) ∧ Did w0 d F w (S1.put i x) W := by
  have nf : ∀ b, ¬ F b → b ≠ d := fun b h e => h (hF b (.inr (.inr e)))
  have kk : ∀ {W : World} {Q : Nat → Prop}, (∀ b, Q b → F b) → Kept (fun b => ¬ Q b ∧ b ≠ d) w1 W → Kept (fun b => ¬ F b) w W := fun hQ g => ⟨by have := g.size; omega, fun b hb hl => by
    rw [g.blk b ⟨fun q => hb (hQ b q), nf b hb⟩ (by omega), K.blk b (nf b hb) hl]⟩
  have gg : ∀ {W : World} {Q : Nat → Prop}, (∀ b, Q b → F b) → ∀ b, Gr Q w1 W b → Gr F w W b := fun hQ b h => by
    rcases h with h | h
    · exact .inl (hQ b h)
    · exact .inr ⟨by omega, h.2⟩
  rcases hi with rfl | rfl
  · refine (C w1 S1 P0 vs0 vl0 vs0 vl0 vs1 vl1 K (by simp [Dk.at, h0]) (by have := D.f0; simpa [Dk.at, h0] using this) D.ro D.n0 D.lo rfl rfl).mono fun e W ⟨e1, G⟩ => ⟨e1, ?_⟩
    obtain ⟨a, b, D2⟩ := D.fil0 G ok
    exact D2.did (fun y hy => by
      rcases hy with hy | hy | hy
      · exact gg (fun b hb => hF b (.inl hb)) y hy
      · exact .inl (hF y (.inr (.inl hy)))
      · exact .inl (hF y (.inr (.inr hy)))) hL hw (kk (fun b hb => hF b (.inl hb)) G.kept)
  · refine (C w1 S1 P1 vs1 vl1 vs0 vl0 vs1 vl1 K (by simp [Dk.at, h1]) (by have := D.f1; simpa [Dk.at, h1] using this) D.ro D.n1 D.lo rfl rfl).mono fun e W ⟨e1, G⟩ => ⟨e1, ?_⟩
    obtain ⟨a, b, D2⟩ := D.fil1 G ok
    exact D2.did (fun y hy => by
      rcases hy with hy | hy | hy
      · exact .inl (hF y (.inl hy))
      · exact gg (fun b hb => hF b (.inr (.inl hb))) y hy
      · exact .inl (hF y (.inr (.inr hy)))) hL hw (kk (fun b hb => hF b (.inr (.inl hb))) G.kept)

set_option maxRecDepth 100000 in
set_option maxHeartbeats 4000000 in
theorem burn_any {w0 w : World} {d : Nat} {F : Nat → Prop} {S : Dk} (D : Dsk w0 d F S w) (i : Nat) (hi : i = 0 ∨ i = 1) (x : Fl) (id : Nat) (cap : Array Value) (C : FilOp w0 d S i x id cap w) (hid : ∀ args u, (callFunc id args).run Try.prog u = .ok (.enter id args) u) (ok : (S.less.put i x).Ok) :
    Calls Try.prog 33 #[.pointer (some ⟨d, 0, none⟩), .func (.func id) #[] cap, .int .i64 (i : Nat)] w fun e W => e = .returned (.int .i64 (S.burn i x).1) ∧ Did w0 d F w (S.burn i x).2 W := by
  obtain ⟨P0, P1, vs0, vl0, vs1, vl1, D, hF, hL⟩ := D
  obtain ⟨k0, k1, k2, _⟩ := D.cells
  have z1 := D.ro.free 1
  have z2 := D.ro.free 2
  have HD := Lib.hid D
  have HC := Lib.hid C
  have HF := Lib.hid hF
  have HL := Lib.hid hL
  have HO := Lib.hid ok
  have fz := D.ok.fuse
  have fd : Hid (∀ b, ¬ F b → b ≠ d) := Lib.hid fun b h e => h (hF b (.inr (.inr e)))
  clear D C hF hL ok
  unfold Dk.burn
  by_cases h0 : S.fuse = 0
  · rw [if_pos h0]
    have t0 : decide (S.fuse = 0) = true := decide_eq_true h0
    have t1 : (S.fuse == 0) = true := by simp [h0]
    have D1 := HD.out.set (S' := { S with off := true }) 1 (.bool true) rfl rfl (HD.out.ok.off true) rfl
    have G := Lib.hid (D1.did (w := w) (fun b hb => .inl (HF.out b hb)) HL.out HD.out.bel.size (kept_set w d 1 (.bool true) (P := fun b => ¬ F b) (fun h => h (HF.out d (.inr (.inr rfl))))))
    clear D1
    go_enter Try.func33, Try.ntmps33
    go_wp2_with fail
    go_ret
    exact ⟨rfl, G.out⟩
  · rw [if_neg h0]
    have t0 : decide (S.fuse = 0) = false := decide_eq_false h0
    have t1 : (S.fuse == 0) = false := by simp [h0]
    by_cases h1 : 0 < S.fuse
    · have t2 : decide (0 < S.fuse) = true := decide_eq_true h1
      have t3 : decide (S.fuse > 0) = true := decide_eq_true h1
      have CA : Hid (Calls Try.prog id (#[.pointer (some ⟨d, 3 + 3 * i, none⟩)] ++ cap) (w.setCell ⟨d, 2, none⟩ (.int .i64 (S.fuse - 1))) fun e W => e = .returned (.tuple #[]) ∧ Did w0 d F w (S.less.put i x) W) :=
        Lib.hid (burn_call (HD.out.set (S' := S.less) 2 _ rfl rfl HD.out.ok.less (by simp [dkV, Dk.less, h1])) HF.out HL.out HD.out.bel.size (kept_set w d 2 _ (fun h => h rfl)) (by simp) rfl rfl i hi x id cap HC.out HO.out)
      have es : ({ S with fuse := if 0 < S.fuse then S.fuse - 1 else S.fuse } : Dk) = S.less := rfl
      rw [es]
      clear HC HO es
      rcases hi with rfl | rfl
      · have hc := hid (#[.pointer (some ⟨d, 3, none⟩)] ++ cap) (w.setCell ⟨d, 2, none⟩ (.int .i64 (S.fuse - 1)))
        go_enter Try.func33, Try.ntmps33
        go_wp2_with fail
        refine (CA.out).mono ?_
        rintro e W ⟨rfl, G⟩
        have HG := Lib.hid G
        clear G
        go_wp2_with fail
        go_ret
        exact ⟨rfl, HG.out⟩
      · have hc := hid (#[.pointer (some ⟨d, 6, none⟩)] ++ cap) (w.setCell ⟨d, 2, none⟩ (.int .i64 (S.fuse - 1)))
        go_enter Try.func33, Try.ntmps33
        go_wp2_with fail
        refine (CA.out).mono ?_
        rintro e W ⟨rfl, G⟩
        have HG := Lib.hid G
        clear G
        go_wp2_with fail
        go_ret
        exact ⟨rfl, HG.out⟩
    · have t2 : decide (0 < S.fuse) = false := decide_eq_false h1
      have t3 : decide (S.fuse > 0) = false := decide_eq_false h1
      have es : ({ S with fuse := if 0 < S.fuse then S.fuse - 1 else S.fuse } : Dk) = S.less := rfl
      have e2 : S.less = S := by unfold Dk.less; rw [if_neg h1]
      have CA : Hid (Calls Try.prog id (#[.pointer (some ⟨d, 3 + 3 * i, none⟩)] ++ cap) w fun e W => e = .returned (.tuple #[]) ∧ Did w0 d F w (S.less.put i x) W) :=
        Lib.hid (burn_call (S1 := S.less) (by rw [e2]; exact HD.out) HF.out HL.out HD.out.bel.size ⟨Nat.le_refl _, fun _ _ _ => rfl⟩ rfl rfl rfl i hi x id cap HC.out HO.out)
      rw [es]
      clear HC HO es e2
      rcases hi with rfl | rfl
      · have hc := hid (#[.pointer (some ⟨d, 3, none⟩)] ++ cap) w
        go_enter Try.func33, Try.ntmps33
        go_wp2_with fail
        refine (CA.out).mono ?_
        rintro e W ⟨rfl, G⟩
        have HG := Lib.hid G
        clear G
        go_wp2_with fail
        go_ret
        exact ⟨rfl, HG.out⟩
      · have hc := hid (#[.pointer (some ⟨d, 6, none⟩)] ++ cap) w
        go_enter Try.func33, Try.ntmps33
        go_wp2_with fail
        refine (CA.out).mono ?_
        rintro e W ⟨rfl, G⟩
        have HG := Lib.hid G
        clear G
        go_wp2_with fail
        go_ret
        exact ⟨rfl, HG.out⟩
end Go.Proofs.Ytgnomopiofpknaa
