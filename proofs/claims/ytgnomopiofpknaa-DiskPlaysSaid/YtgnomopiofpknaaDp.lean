/- A disk of the law's own beside blocks that are none of its own. No condition but bounds on what is loose. -/
import Derived.Test.YtgnomopiofpknaaEndS
namespace Go.Proofs.Ytgnomopiofpknaa
open Go.RowKit

/-- A disk whose memory is none of X. -/
def Dp (w0 : World) (d : Nat) (X : Nat → Prop) (S : Dk) (w : World) : Prop := ∃ F, Dsk w0 d F S w ∧ ∀ b, X b → ¬ F b ∧ b < w.heap.size
/-- A call's answer and state; what is in X lies as it lay. -/
def StepP (w0 : World) (d : Nat) (X : Nat → Prop) (w : World) (x : Int) (S : Dk) (e : Ending) (W : World) : Prop := e = .returned (.int .i64 x) ∧ Dp w0 d X S W ∧ Kept X w W
section
variable {w0 w w1 W : World} {d : Nat} {X Y : Nat → Prop} {S S' : Dk} {F : Nat → Prop}
theorem Dp.bel (D : Dp w0 d X S w) : Below w0.heap.size w0 w := by obtain ⟨F, D, _⟩ := D; exact D.bel
theorem Dp.lt (D : Dp w0 d X S w) : w0.heap.size ≤ d ∧ d < w.heap.size ∧ ¬ X d := by
  obtain ⟨F, D, h⟩ := D
  exact ⟨D.at_.2.1, D.at_.2.2, fun q => (h d q).1 D.at_.1⟩
theorem Dp.ok (D : Dp w0 d X S w) : S.Ok := by obtain ⟨F, D, _⟩ := D; exact D.ok
theorem Dp.later (D : Dp w0 d X S w) (g : Below w.heap.size w w1) : Dp w0 d X S w1 := by
  obtain ⟨F, D, h⟩ := D
  exact ⟨F, D.later g, fun b hb => ⟨(h b hb).1, Nat.lt_of_lt_of_le (h b hb).2 g.size⟩⟩
/-- Something of X, or new, is written. -/
theorem Dp.keep (D : Dp w0 d X S w) (g : Kept (fun b => ¬ X b) w w1) (hb : Below w0.heap.size w0 w1) : Dp w0 d X S w1 := by
  obtain ⟨F, D, h⟩ := D
  exact ⟨F, D.keep (g.weak fun b hF _ q => (h b q).1 hF) hb, fun b hX => ⟨(h b hX).1, Nat.lt_of_lt_of_le (h b hX).2 g.size⟩⟩
/-- What is new is protected too. -/
theorem Dp.wide (D : Dp w0 d X S w) (g : Kept (fun b => ¬ X b) w w1) (hb : Below w0.heap.size w0 w1) (h1 : ∀ b, Y b → X b ∨ (w.heap.size ≤ b ∧ b < w1.heap.size)) : Dp w0 d Y S w1 := by
  obtain ⟨F, D, h⟩ := D
  refine ⟨F, D.keep (g.weak fun b hF _ q => (h b q).1 hF) hb, fun b hY => ?_⟩
  rcases h1 b hY with q | q
  · exact ⟨(h b q).1, Nat.lt_of_lt_of_le (h b q).2 g.size⟩
  · refine ⟨fun hF => ?_, q.2⟩
    obtain ⟨_, _, _, _, _, _, _, _, hL⟩ := D
    have := (hL b hF).2
    omega
theorem Did.p (h : Did w0 d F w S W) (hX : ∀ b, X b → ¬ F b ∧ b < w.heap.size) : Dp w0 d X S W ∧ Kept X w W :=
  ⟨⟨_, h.dsk, fun b hb => ⟨Gr.not (hX b hb).1 (hX b hb).2, Nat.lt_of_lt_of_le (hX b hb).2 h.kept.size⟩⟩, h.kept.weak fun b hb _ => (hX b hb).1⟩
theorem write_p (D : Dp w0 d X S w) (hn : S.cnt ≤ 1073741823) (f : Int) {A : Option Addr} {n c : Nat} {L : List Nat} (hL : Bs w A n L) (hA : 0 < n → ∀ a, A = some a → a.block ≠ d) (hc : n ≤ c) (hcm : c ≤ 9223372036854775807) {x : Int} (hx : (S.write f L).1 = x) (hs : (S.write f L).2 = S') :
    Calls Try.prog 16 #[.pointer (some ⟨d, 0, none⟩), .int .i64 f, .slice A n c] w (StepP w0 d X w x S') := by
  obtain ⟨F, D, hX⟩ := D
  subst hx hs
  exact (write_any D hn f hL hA hc hcm).mono fun e W ⟨h1, h2⟩ => ⟨h1, h2.p hX⟩
theorem cut_p (D : Dp w0 d X S w) (hn : S.cnt ≤ 1073741823) (f n : Int) {x : Int} (hx : (S.cut f n).1 = x) (hs : (S.cut f n).2 = S') :
    Calls Try.prog 23 #[.pointer (some ⟨d, 0, none⟩), .int .i64 f, .int .i64 n] w (StepP w0 d X w x S') := by
  obtain ⟨F, D, hX⟩ := D
  subst hx hs
  exact (cut_any D hn f n).mono fun e W ⟨h1, h2⟩ => ⟨h1, h2.p hX⟩
theorem sync_p (D : Dp w0 d X S w) (hn : S.cnt ≤ 1073741823) (f : Int) {x : Int} (hx : (S.sync f).1 = x) (hs : (S.sync f).2 = S') :
    Calls Try.prog 15 #[.pointer (some ⟨d, 0, none⟩), .int .i64 f] w (StepP w0 d X w x S') := by
  obtain ⟨F, D, hX⟩ := D
  subst hx hs
  exact (sync_any D hn f).mono fun e W ⟨h1, h2⟩ => ⟨h1, h2.p hX⟩
theorem fuse_p (D : Dp w0 d X S w) (n : Int) (hn : -9223372036854775808 ≤ n ∧ n ≤ 9223372036854775807) {x : Int} (hx : (S.setFuse n).1 = x) (hs : (S.setFuse n).2 = S') :
    Calls Try.prog 22 #[.pointer (some ⟨d, 0, none⟩), .int .i64 n] w (StepP w0 d X w x S') := by
  obtain ⟨F, D, hX⟩ := D
  subst hx hs
  exact (fuse_any D n hn).mono fun e W ⟨h1, h2⟩ => ⟨h1, h2.p hX⟩
theorem off_p (D : Dp w0 d X S w) {x : Int} (hx : S.goOff.1 = x) (hs : S.goOff.2 = S') :
    Calls Try.prog 17 #[.pointer (some ⟨d, 0, none⟩)] w (StepP w0 d X w x S') := by
  obtain ⟨F, D, hX⟩ := D
  subst hx hs
  exact (off_any D).mono fun e W ⟨h1, h2⟩ => ⟨h1, h2.p hX⟩
/-- Picks that lie in blocks of X, or ahead of the law. -/
theorem on_p (D : Dp w0 d X S w) (hn : S.cnt ≤ 1073741823) {A : Option Addr} {n c : Nat} {p : List Int} (hp : Zs w A n p) (hA : 0 < n → ∀ a, A = some a → X a.block ∨ a.block < w0.heap.size) (hc : n ≤ c) (hcm : c ≤ 9223372036854775807) {x : Int} (hx : (S.goOn p).1 = x) (hs : (S.goOn p).2 = S') :
    Calls Try.prog 18 #[.pointer (some ⟨d, 0, none⟩), .slice A n c] w (StepP w0 d X w x S') := by
  obtain ⟨F, D, hX⟩ := D
  subst hx hs
  refine (on_any D hn hp (fun h a e hF => ?_) hc hcm).mono fun e W ⟨h1, h2⟩ => ⟨h1, h2.p hX⟩
  rcases hA h a e with q | q
  · exact (hX _ q).1 hF
  · obtain ⟨_, _, _, _, _, _, _, _, hL⟩ := D
    have := (hL _ hF).1
    omega
theorem room_p (D : Dp w0 d X S w) {n : Nat} (hs : S.room = n) : Calls Try.prog 13 #[.pointer (some ⟨d, 0, none⟩)] w fun e W => e = .returned (.int .i64 (n : Nat)) ∧ Dp w0 d X S W ∧ Below w.heap.size w W := by
  have D' := D
  obtain ⟨F, D, hX⟩ := D
  subst hs
  exact (room_any D).mono fun e W ⟨h1, h2⟩ => ⟨h1, D'.later h2, h2⟩
theorem read_p (D : Dp w0 d X S w) (hn : S.cnt ≤ 1073741823) (f : Int) {L : List Nat} {x : Int} (hr : S.read f = (L, x)) :
    Calls Try.prog 21 #[.pointer (some ⟨d, 0, none⟩), .int .i64 f] w fun e W => ∃ A n c, e = .returned (.tuple #[.slice A n c, .int .i64 x]) ∧ n ≤ c ∧ Bs W A n L ∧ Dp w0 d X S W ∧ Below w.heap.size w W := by
  have D' := D
  obtain ⟨F, D, hX⟩ := D
  have h := read_any D hn f
  rw [hr] at h
  exact h.mono fun e W ⟨A, n, c, h1, h2, h3⟩ => ⟨A, n, c, h1, h2, h3.reads, D'.later h3.bel, h3.bel⟩
theorem stands_p (D : Dp w0 d X S w) (hn : S.cnt ≤ 1073741823) (f : Int) {L : List Nat} {s : ByteArray} (hL : AllB L) (hs : s = strB L) (hr : S.read f = (L, 0)) :
    Calls Try.prog 19 #[.pointer (some ⟨d, 0, none⟩), .int .i64 f, .string s] w fun e W => e = .returned (.bool true) ∧ Dp w0 d X S W ∧ Below w.heap.size w W := by
  have D' := D
  obtain ⟨F, D, hX⟩ := D
  subst hs
  have h := stands_any D hn f hL
  rw [hr] at h
  simp only [and_self, decide_true] at h
  exact h.mono fun e W ⟨h1, h2⟩ => ⟨h1, D'.later h2, h2⟩
/-- A new disk beside X. -/
theorem new_p (b : Below w0.heap.size w0 w) (hX : ∀ k, X k → k < w.heap.size) {m : Nat} (h1 : 1 ≤ m) (h2 : m ≤ 4194304) :
    Calls Try.prog 10 #[.int .i64 (m : Nat)] w fun e W => ∃ d, e = .returned (.tuple #[.pointer (some ⟨d, 0, none⟩), .int .i64 0]) ∧ w.heap.size ≤ d ∧ Dp w0 d X (newD m) W ∧ Below w.heap.size w W :=
  (new_any h1 h2).mono fun e W ⟨e1, e2⟩ => ⟨_, e1, Nat.le_refl _, by
    rw [e2]
    refine ⟨⟨_, Dsk.new b h2, fun k hk => ⟨fun e => ?_, ?_⟩⟩, (Below.refl _ _).alloc (Nat.le_refl _) _⟩
    · have e' : k = w.heap.size := e
      have := hX k hk
      omega
    · have := hX k hk
      rw [World.size_alloc]
      omega⟩
set_option maxRecDepth 100000 in
set_option maxHeartbeats 4000000 in
/-- A change, beside X. -/
theorem change_p (D : Dp w0 d X S w) (hn : S.cnt ≤ 1073741823) {s : StepD} {B : Option Addr} {nb cb : Nat} {Q : Option Addr} {nq cq : Nat} (hb : Bs w B nb s.b) (hB : 0 < nb → ∀ a, B = some a → a.block < w0.heap.size) (hc : nb ≤ cb) (hcm : cb ≤ 9223372036854775807) (hk : s.k < 256) :
    Calls Try.prog 20 #[.pointer (some ⟨d, 0, none⟩), .agg (stepV s.k s.f s.n B nb cb Q nq cq).toArray] w fun e W => e = .returned (.tuple #[]) ∧ Dp w0 d X (S.change s) W ∧ Kept X w W := by
  obtain ⟨k, f, n, b, p⟩ := s
  simp only at hb hk
  have g1 : Below w.heap.size w (w.alloc (.cells (stepV k f n B nb cb Q nq cq).toArray 36)) := (Below.refl _ _).alloc (Nat.le_refl _) _
  have R1 := Ro.new w 36 (stepV k f n B nb cb Q nq cq)
  obtain ⟨V, hV⟩ : ∃ V, stepV k f n B nb cb Q nq cq = V := ⟨_, rfl⟩
  rw [hV] at g1 R1
  obtain ⟨w1, hw1⟩ : ∃ w1, w.alloc (.cells V.toArray 36) = w1 := ⟨_, rfl⟩
  rw [hw1] at g1 R1
  have c0 : w1.cell? ⟨w.heap.size, 0, none⟩ = some (.int .u8 (k : Int)) := R1.cell (by rw [← hV]; rfl)
  have c1 : w1.cell? ⟨w.heap.size, 1, none⟩ = some (.int .i64 f) := R1.cell (by rw [← hV]; rfl)
  have c2 : w1.cell? ⟨w.heap.size, 2, none⟩ = some (.int .i64 n) := R1.cell (by rw [← hV]; rfl)
  have c3 : w1.cell? ⟨w.heap.size, 3, none⟩ = some (.slice B nb cb) := R1.cell (by rw [← hV]; rfl)
  have D1 := Lib.hid (D.later g1)
  have L1 := Lib.hid (hb.later g1)
  have HB : Hid (0 < nb → ∀ a, B = some a → a.block ≠ d) := Lib.hid fun h a e => by have := hB h a e; have := D.lt.1; omega
  have G1 := Lib.hid g1
  have HV := Lib.hid hV
  simp only
  rw [hV]
  clear D hb hB hV R1 g1
  by_cases h : k % 2 = 0
  · have es : S.change ⟨k, f, n, b, p⟩ = (S.write f b).2 := by unfold Dk.change; rw [if_pos h]
    rw [es]
    have t0 : (k : Int) % 2 = 0 := by omega
    have CW := Lib.hid (write_p D1.out hn f L1.out HB.out hc hcm rfl rfl)
    clear es
    go_enter Try.func20, Try.ntmps20
    go_wp2_with fail
    refine (CW.out).mono ?_
    rintro e W ⟨rfl, D', K'⟩
    have DD := Lib.hid D'
    have KK := Lib.hid ((Kept.of_below G1.out).trans K')
    clear D' K'
    go_wp2_with fail
    go_returns
    exact ⟨rfl, DD.out, KK.out⟩
  · have es : S.change ⟨k, f, n, b, p⟩ = (S.cut f n).2 := by unfold Dk.change; rw [if_neg h]
    rw [es]
    have t0 : (k : Int) % 2 = 1 := by omega
    have CC := Lib.hid (cut_p D1.out hn f n rfl rfl)
    clear es
    go_enter Try.func20, Try.ntmps20
    go_wp2_with fail
    refine (CC.out).mono ?_
    rintro e W ⟨rfl, D', K'⟩
    have DD := Lib.hid D'
    have KK := Lib.hid ((Kept.of_below G1.out).trans K')
    clear D' K'
    go_wp2_with fail
    go_returns
    exact ⟨rfl, DD.out, KK.out⟩
end
end Go.Proofs.Ytgnomopiofpknaa
