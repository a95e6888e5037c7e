/- New; stands. No condition but bounds. -/
import Derived.Test.YtjcphpmlekfhdaaGreatDoorGf
import Derived.Test.YtjcphpmlekfhdaaGreatDoorGc
import Derived.Deep.RegionLaw
import Derived.BigRegion
import Derived.RangeFuncCalls

namespace Go.Proofs.YtjcphpmlekfhdaaGreatDoor
open Go.RowKit

def nilS : Value := .slice none 0 0
theorem build_disk (m : Nat) (w : World) : (Instr.build 64 #[(0, .int .i64 (m : Int)), (2, .int .i64 (-1))]).run Tryz.prog w = .ok (.agg (dkV (newD m) nilS nilS nilS nilS).toArray) w := by kernel_rfl
theorem newD_ok {m : Nat} (h : m ≤ 4194304) : (newD m).Ok := ⟨h, Nat.zero_le _, Nat.zero_le _, ⟨by show (-1 : Int) ≤ -1; omega, by show (-1 : Int) ≤ _; omega⟩, ⟨allB_nil, fun b hb => by cases hb⟩, ⟨allB_nil, fun b hb => by cases hb⟩⟩
theorem FlAt.new {w0 w : World} (b : Below w0.heap.size w0 w) : FlAt w0 (fun _ => False) nilS nilS ⟨[], []⟩ w :=
  ⟨⟨World.ownsRow_nil _ _ _ _, allB_nil, b⟩, OwnRw.none_ b, fun k e => (by cases e), fun k e => (by cases e), fun k e => e.elim⟩
theorem Dsk.new {w0 w : World} (b : Below w0.heap.size w0 w) {m : Nat} (h : m ≤ 4194304) : Dsk w0 w.heap.size (fun k => k = w.heap.size) (newD m) (w.alloc (.cells (dkV (newD m) nilS nilS nilS nilS).toArray 64)) := by
  have b1 := b.alloc b.size (.cells (dkV (newD m) nilS nilS nilS nilS).toArray 64)
  refine ⟨fun _ => False, fun _ => False, nilS, nilS, nilS, nilS, ⟨FlAt.new b1, FlAt.new b1, Ro.new w _ _, fun e => e, fun e => e, fun _ e => e.elim, b.size, newD_ok h⟩, fun k hk => ?_, fun k hk => ?_⟩
  · rcases hk with hk | hk | hk
    · exact hk.elim
    · exact hk.elim
    · exact hk
  · subst hk
    rw [World.size_alloc]
    exact ⟨b.size, by omega⟩
set_option maxRecDepth 100000 in
theorem new_any {w : World} {m : Nat} (h1 : 1 ≤ m) (h2 : m ≤ 4194304) : Calls Tryz.prog 6 #[.int .i64 (m : Nat)] w fun e w' => e = .returned (.tuple #[.pointer (some ⟨w.heap.size, 0, none⟩), .int .i64 0]) ∧ w' = w.alloc (.cells (dkV (newD m) nilS nilS nilS nilS).toArray 64) := by
  have t1 : decide ((m : Int) < 1) = false := decide_eq_false (by omega)
  have t2 : decide ((m : Int) > 4194304) = false := decide_eq_false (by omega)
  have t3 : decide ((4194304 : Int) < (m : Int)) = false := decide_eq_false (by omega)
  have BD := Lib.hid (build_disk m)
  obtain ⟨V, hV⟩ : ∃ V, dkV (newD m) nilS nilS nilS nilS = V := ⟨_, rfl⟩
  rw [hV] at BD ⊢
  have HV := Lib.hid hV
  clear hV
  go_enter Tryz.func6, Tryz.ntmps6
  go_wp2_with (refine wpList_plain rfl fun _ hK => wp_buildR rfl 64 #[(0, .tmp 10), (2, .const (.int .i64 (-1)))] rfl (us := #[(0, .int .i64 (m : Int)), (2, .int .i64 (-1))]) (by simp [go_sem]) (BD.out _) (hK _ _ ?_))
  go_returns
  exact ⟨rfl, rfl⟩
set_option maxRecDepth 100000 in
theorem new_not {w : World} {m : Int} (h : m < 1 ∨ 4194304 < m) : Calls Tryz.prog 6 #[.int .i64 m] w fun e w' => e = .returned (.tuple #[.pointer none, .int .i64 1]) ∧ w' = w := by
  by_cases h1 : m < 1
  · have t1 : decide (m < 1) = true := decide_eq_true h1
    go_enter Tryz.func6, Tryz.ntmps6
    go_wp2_with fail
    go_returns
    exact ⟨rfl, rfl⟩
  · have h2 : 4194304 < m := by omega
    have t1 : decide (m < 1) = false := decide_eq_false h1
    have t2 : decide (m > 4194304) = true := decide_eq_true h2
    have t3 : decide (4194304 < m) = true := decide_eq_true h2
    go_enter Tryz.func6, Tryz.ntmps6
    go_wp2_with fail
    go_returns
    exact ⟨rfl, rfl⟩
end Go.Proofs.YtjcphpmlekfhdaaGreatDoor

/- A disk of the law's own beside blocks that are none of its own; a disk that has power and no fuse. No condition but bounds on what is loose. -/
namespace Go.Proofs.YtjcphpmlekfhdaaGreatDoor
open Go.RowKit

theorem Dk.ask_on {S : Dk} (h : S.off = false) {i : Nat} (hi : i = 0 ∨ i = 1) : S.ask (i : Int) = 0 := by
  unfold Dk.ask
  rw [if_neg (by simp [h]), if_neg (by omega)]
/-- Powered, with no fuse. -/
structure Live (S : Dk) : Prop where
  off : S.off = false
  fuse : S.fuse = -1
theorem Live.burn {S : Dk} (h : Live S) (i : Nat) (x : Fl) : S.burn i x = (0, S.put i x) := by
  unfold Dk.burn
  rw [if_neg (by rw [h.fuse]; decide)]
  have e : ({ S with fuse := if 0 < S.fuse then S.fuse - 1 else S.fuse } : Dk) = S := by
    rw [if_neg (by rw [h.fuse]; decide)]
  rw [e]
theorem Live.put {S : Dk} (h : Live S) (i : Nat) (x : Fl) : Live (S.put i x) := by
  unfold Dk.put
  split
  · exact ⟨h.off, h.fuse⟩
  · exact ⟨h.off, h.fuse⟩
theorem Live.sync {S : Dk} (h : Live S) {i : Nat} (hi : i = 0 ∨ i = 1) : S.sync (i : Int) = (0, S.put i (S.at i).settle) := by
  unfold Dk.sync
  rw [if_neg (fun q => q (Dk.ask_on h.off hi)), h.burn]
  rfl
theorem Live.read {S : Dk} (h : Live S) {i : Nat} (hi : i = 0 ∨ i = 1) : S.read (i : Int) = ((S.at i).at, 0) := by
  unfold Dk.read
  rw [if_neg (fun q => q (Dk.ask_on h.off hi))]
  rfl
/-- All is kept by great picks. -/
theorem lose_great {x : Fl} {k : Int} (h : (usum x.loose : Int) ≤ k) : (x.lose k).at = x.at := by
  show appl (appl x.sure (loseL k x.loose)) [] = _
  rw [appl_nil, lose_all _ _ h]
  rfl
/-- Nothing is kept without one. -/
theorem lose_none (x : Fl) : (x.lose 0).at = x.sure := by
  show appl (appl x.sure (loseL 0 x.loose)) [] = _
  rw [appl_nil, appl_lose, doneS_zero _ _ _ (Int.le_refl 0)]
/-- A disk whose memory is none of X. -/
def Dp (w0 : World) (d : Nat) (X : Nat → Prop) (S : Dk) (w : World) : Prop := ∃ F, Dsk w0 d F S w ∧ ∀ b, X b → ¬ F b ∧ b < w.heap.size
/-- A call's answer and state; what is in X lies as it lay. -/
def StepP (w0 : World) (d : Nat) (X : Nat → Prop) (w : World) (x : Int) (S : Dk) (e : Ending) (W : World) : Prop := e = .returned (.int .i64 x) ∧ Dp w0 d X S W ∧ Kept X w W
section
variable {w0 w w1 W : World} {d : Nat} {X Y : Nat → Prop} {S S' : Dk} {F : Nat → Prop}
theorem Dp.bel (D : Dp w0 d X S w) : Below w0.heap.size w0 w := by obtain ⟨F, D, _⟩ := D; exact D.bel
theorem Dp.lt (D : Dp w0 d X S w) : w0.heap.size ≤ d ∧ d < w.heap.size ∧ ¬ X d := by
  obtain ⟨F, D, h⟩ := D
  exact ⟨D.at_.2.1, D.at_.2.2, fun q => (h d q).1 D.at_.1⟩
theorem Dp.ok (D : Dp w0 d X S w) : S.Ok := by obtain ⟨F, D, _⟩ := D; exact D.ok
theorem Dp.later (D : Dp w0 d X S w) (g : Below w.heap.size w w1) : Dp w0 d X S w1 := by
  obtain ⟨F, D, h⟩ := D
  exact ⟨F, D.later g, fun b hb => ⟨(h b hb).1, Nat.lt_of_lt_of_le (h b hb).2 g.size⟩⟩
/-- Something of X, or new, is written. -/
theorem Dp.keep (D : Dp w0 d X S w) (g : Kept (fun b => ¬ X b) w w1) (hb : Below w0.heap.size w0 w1) : Dp w0 d X S w1 := by
  obtain ⟨F, D, h⟩ := D
  exact ⟨F, D.keep (g.weak fun b hF _ q => (h b q).1 hF) hb, fun b hX => ⟨(h b hX).1, Nat.lt_of_lt_of_le (h b hX).2 g.size⟩⟩
/-- What is new is protected too. -/
theorem Dp.wide (D : Dp w0 d X S w) (g : Kept (fun b => ¬ X b) w w1) (hb : Below w0.heap.size w0 w1) (h1 : ∀ b, Y b → X b ∨ (w.heap.size ≤ b ∧ b < w1.heap.size)) : Dp w0 d Y S w1 := by
  obtain ⟨F, D, h⟩ := D
  refine ⟨F, D.keep (g.weak fun b hF _ q => (h b q).1 hF) hb, fun b hY => ?_⟩
  rcases h1 b hY with q | q
  · exact ⟨(h b q).1, Nat.lt_of_lt_of_le (h b q).2 g.size⟩
  · refine ⟨fun hF => ?_, q.2⟩
    obtain ⟨_, _, _, _, _, _, _, _, hL⟩ := D
    have := (hL b hF).2
    omega
theorem Did.p (h : Did w0 d F w S W) (hX : ∀ b, X b → ¬ F b ∧ b < w.heap.size) : Dp w0 d X S W ∧ Kept X w W :=
  ⟨⟨_, h.dsk, fun b hb => ⟨Gr.not (hX b hb).1 (hX b hb).2, Nat.lt_of_lt_of_le (hX b hb).2 h.kept.size⟩⟩, h.kept.weak fun b hb _ => (hX b hb).1⟩
theorem write_p (D : Dp w0 d X S w) (hn : S.cnt ≤ 1073741823) (f : Int) {A : Option Addr} {n c : Nat} {L : List Nat} (hL : Bs w A n L) (hA : 0 < n → ∀ a, A = some a → a.block ≠ d) (hc : n ≤ c) (hcm : c ≤ 9223372036854775807) {x : Int} (hx : (S.write f L).1 = x) (hs : (S.write f L).2 = S') :
    Calls Tryz.prog 41 #[.pointer (some ⟨d, 0, none⟩), .int .i64 f, .slice A n c] w (StepP w0 d X w x S') := by
  obtain ⟨F, D, hX⟩ := D
  subst hx hs
  exact (write_any D hn f hL hA hc hcm).mono fun e W ⟨h1, h2⟩ => ⟨h1, h2.p hX⟩
theorem cut_p (D : Dp w0 d X S w) (hn : S.cnt ≤ 1073741823) (f n : Int) {x : Int} (hx : (S.cut f n).1 = x) (hs : (S.cut f n).2 = S') :
    Calls Tryz.prog 52 #[.pointer (some ⟨d, 0, none⟩), .int .i64 f, .int .i64 n] w (StepP w0 d X w x S') := by
  obtain ⟨F, D, hX⟩ := D
  subst hx hs
  exact (cut_any D hn f n).mono fun e W ⟨h1, h2⟩ => ⟨h1, h2.p hX⟩
theorem sync_p (D : Dp w0 d X S w) (hn : S.cnt ≤ 1073741823) (f : Int) {x : Int} (hx : (S.sync f).1 = x) (hs : (S.sync f).2 = S') :
    Calls Tryz.prog 35 #[.pointer (some ⟨d, 0, none⟩), .int .i64 f] w (StepP w0 d X w x S') := by
  obtain ⟨F, D, hX⟩ := D
  subst hx hs
  exact (sync_any D hn f).mono fun e W ⟨h1, h2⟩ => ⟨h1, h2.p hX⟩
theorem fuse_p (D : Dp w0 d X S w) (n : Int) (hn : -9223372036854775808 ≤ n ∧ n ≤ 9223372036854775807) {x : Int} (hx : (S.setFuse n).1 = x) (hs : (S.setFuse n).2 = S') :
    Calls Tryz.prog 21 #[.pointer (some ⟨d, 0, none⟩), .int .i64 n] w (StepP w0 d X w x S') := by
  obtain ⟨F, D, hX⟩ := D
  subst hx hs
  exact (fuse_any D n hn).mono fun e W ⟨h1, h2⟩ => ⟨h1, h2.p hX⟩
theorem off_p (D : Dp w0 d X S w) {x : Int} (hx : S.goOff.1 = x) (hs : S.goOff.2 = S') :
    Calls Tryz.prog 17 #[.pointer (some ⟨d, 0, none⟩)] w (StepP w0 d X w x S') := by
  obtain ⟨F, D, hX⟩ := D
  subst hx hs
  exact (off_any D).mono fun e W ⟨h1, h2⟩ => ⟨h1, h2.p hX⟩
/-- Picks that lie in blocks of X, or ahead of the law. -/
theorem on_p (D : Dp w0 d X S w) (hn : S.cnt ≤ 1073741823) {A : Option Addr} {n c : Nat} {p : List Int} (hp : Zs w A n p) (hA : 0 < n → ∀ a, A = some a → X a.block ∨ a.block < w0.heap.size) (hc : n ≤ c) (hcm : c ≤ 9223372036854775807) {x : Int} (hx : (S.goOn p).1 = x) (hs : (S.goOn p).2 = S') :
    Calls Tryz.prog 18 #[.pointer (some ⟨d, 0, none⟩), .slice A n c] w (StepP w0 d X w x S') := by
  obtain ⟨F, D, hX⟩ := D
  subst hx hs
  refine (on_any D hn hp (fun h a e hF => ?_) hc hcm).mono fun e W ⟨h1, h2⟩ => ⟨h1, h2.p hX⟩
  rcases hA h a e with q | q
  · exact (hX _ q).1 hF
  · obtain ⟨_, _, _, _, _, _, _, _, hL⟩ := D
    have := (hL _ hF).1
    omega
theorem room_p (D : Dp w0 d X S w) {n : Nat} (hs : S.room = n) : Calls Tryz.prog 16 #[.pointer (some ⟨d, 0, none⟩)] w fun e W => e = .returned (.int .i64 (n : Nat)) ∧ Dp w0 d X S W ∧ Below w.heap.size w W := by
  have D' := D
  obtain ⟨F, D, hX⟩ := D
  subst hs
  exact (room_any D).mono fun e W ⟨h1, h2⟩ => ⟨h1, D'.later h2, h2⟩
theorem read_p (D : Dp w0 d X S w) (hn : S.cnt ≤ 1073741823) (f : Int) {L : List Nat} {x : Int} (hr : S.read f = (L, x)) :
    Calls Tryz.prog 24 #[.pointer (some ⟨d, 0, none⟩), .int .i64 f] w fun e W => ∃ A n c, e = .returned (.tuple #[.slice A n c, .int .i64 x]) ∧ n ≤ c ∧ Bs W A n L ∧ Dp w0 d X S W ∧ Below w.heap.size w W := by
  have D' := D
  obtain ⟨F, D, hX⟩ := D
  have h := read_any D hn f
  rw [hr] at h
  exact h.mono fun e W ⟨A, n, c, h1, h2, h3⟩ => ⟨A, n, c, h1, h2, h3.reads, D'.later h3.bel, h3.bel⟩
/-- A new disk beside X. -/
theorem new_p (b : Below w0.heap.size w0 w) (hX : ∀ k, X k → k < w.heap.size) {m : Nat} (h1 : 1 ≤ m) (h2 : m ≤ 4194304) :
    Calls Tryz.prog 6 #[.int .i64 (m : Nat)] w fun e W => ∃ d, e = .returned (.tuple #[.pointer (some ⟨d, 0, none⟩), .int .i64 0]) ∧ w.heap.size ≤ d ∧ Dp w0 d X (newD m) W ∧ Below w.heap.size w W :=
  (new_any h1 h2).mono fun e W ⟨e1, e2⟩ => ⟨_, e1, Nat.le_refl _, by
    rw [e2]
    refine ⟨⟨_, Dsk.new b h2, fun k hk => ⟨fun e => ?_, ?_⟩⟩, (Below.refl _ _).alloc (Nat.le_refl _) _⟩
    · have e' : k = w.heap.size := e
      have := hX k hk
      omega
    · have := hX k hk
      rw [World.size_alloc]
      omega⟩
end
end Go.Proofs.YtjcphpmlekfhdaaGreatDoor

/- One step after the other, up to the first error. No condition but that the steps do what they say. -/
namespace Go.Proofs.YtjcphpmlekfhdaaGreatDoor
open Go.RowKit

/-- A step as a value. -/
def fnV (f : Nat × Array Value) : Value := .func (.func f.1) #[] f.2
/-- What steps end with: OK and the last state, or an error and what it leaves. -/
def Ends (S : World → Prop) (E : Int → World → Prop) (e : Ending) (W : World) : Prop := ∃ k : Int, e = .returned (.int .i64 k) ∧ ((k = 0 ∧ S W) ∨ (k ≠ 0 ∧ E k W))
set_option maxRecDepth 100000 in
set_option maxHeartbeats 2000000 in
theorem inOrder_any {A : Option Addr} {n c : Nat} {fs : List (Nat × Array Value)} (hn : fs.length = n) (hn2 : n ≤ 1000) (St : Nat → World → Prop) (Er : Int → World → Prop)
    (hrow : ∀ i W, St i W → ∀ hi : i < fs.length, ∃ b o, A = some ⟨b, o, none⟩ ∧ W.cell? ⟨b, o + i, none⟩ = some (fnV fs[i]))
    (hent : ∀ i, ∀ hi : i < fs.length, ∀ args W, (callFunc fs[i].1 args).run Tryz.prog W = .ok (.enter fs[i].1 args) W)
    (hstep : ∀ i W, St i W → ∀ hi : i < fs.length, Calls Tryz.prog fs[i].1 fs[i].2 W (Ends (St (i + 1)) Er))
    (w : World) (h0 : St 0 w) : Calls Tryz.prog 31 #[.slice A n c] w (Ends (St n) Er) := by
  have HR := Lib.hid hrow
  have HE := Lib.hid hent
  have HS := Lib.hid hstep
  have HN := Lib.hid hn
  clear hrow hent hstep hn
  go_enter Tryz.func31, Tryz.ntmps31
  go_wp2_with fail
  go_loopw [8] (fun i wr => ∃ j : Nat, j ≤ n ∧ i = .int .i64 (j : Nat) ∧ St j wr) (fun i _ => n - (intOf i).toNat)
  case atStart => exact ⟨0, Nat.zero_le _, rfl, h0⟩
  case round =>
    obtain ⟨j, hj, rfl, hst⟩ := hrel
    have HST := Lib.hid hst
    clear hst
    by_cases hjn : j < n
    · have t1 : decide ((j : Int) < (n : Int)) = true := decide_eq_true (by omega)
      have hi : j < fs.length := by rw [HN.out]; exact hjn
      obtain ⟨b, o, rfl, hc⟩ := HR.out j wr HST.out hi
      have he := HE.out j hi
      have CS := Lib.hid (HS.out j wr HST.out hi)
      obtain ⟨f, hf⟩ : ∃ f, fs[j] = f := ⟨_, rfl⟩
      rw [hf] at hc he CS
      obtain ⟨id, caps⟩ := f
      unfold fnV at hc
      dsimp only at hc he CS
      clear hf
      go_wp2_with fail
      refine (CS.out).mono ?_
      rintro e w2 ⟨k, rfl, ⟨rfl, h1⟩ | ⟨hk, h1⟩⟩
      · have H1 := Lib.hid h1
        clear h1
        go_wp2_with fail
        go_roundw
        case rel => exact ⟨j + 1, by omega, by go_num, H1.out⟩
        case measure => simp [intOf]; omega
      · have H1 := Lib.hid h1
        have t2 : (k != 0) = true := by rw [bne_iff_ne]; exact hk
        clear h1
        go_wp2_with fail
        go_ret
        exact ⟨k, rfl, .inr ⟨hk, H1.out⟩⟩
    · have t1 : decide ((j : Int) < (n : Int)) = false := decide_eq_false (by omega)
      obtain rfl : j = n := by omega
      go_wp2_with fail
      go_ret
      exact ⟨0, rfl, .inl ⟨rfl, HST.out⟩⟩
end Go.Proofs.YtjcphpmlekfhdaaGreatDoor

/- A file cut to some bytes, unless it has no more. No condition but bounds on what is loose. -/
namespace Go.Proofs.YtjcphpmlekfhdaaGreatDoor
open Go.RowKit

/-- What cutting to m bytes a file in which n stand does. -/
def Dk.cutTo (S : Dk) (f : Int) (n m : Nat) : Int × Dk := if n = m then (0, S) else S.cut f m
set_option maxRecDepth 100000 in
set_option maxHeartbeats 1000000 in
theorem cutTo_p {w0 w : World} {d : Nat} {X : Nat → Prop} {S S' : Dk} (D : Dp w0 d X S w) (hn : S.cnt ≤ 1073741823) (f : Int) {A : Option Addr} {n c m : Nat} {x : Int} (h : S.cutTo f n m = (x, S')) :
    Calls Tryz.prog 33 #[.pointer (some ⟨d, 0, none⟩), .int .i64 f, .slice A n c, .int .i64 (m : Nat)] w (StepP w0 d X w x S') := by
  unfold Dk.cutTo at h
  by_cases hnm : n = m
  · subst hnm
    rw [if_pos rfl] at h
    injection h with h1 h2
    subst h1 h2
    have t1 : ((n : Int) == (n : Int)) = true := by rw [beq_iff_eq]
    have HD := Lib.hid D
    clear D
    go_enter Tryz.func33, Tryz.ntmps33
    go_wp2_with fail
    go_ret
    exact ⟨rfl, HD.out, ⟨Nat.le_refl _, fun _ _ _ => rfl⟩⟩
  · rw [if_neg hnm] at h
    have t1 : ((n : Int) == (m : Int)) = false := by rw [beq_eq_false_iff_ne]; omega
    have CT := Lib.hid (cut_p D hn f (m : Int) (x := x) (S' := S') (by rw [h]) (by rw [h]))
    clear D h
    go_enter Tryz.func33, Tryz.ntmps33
    go_wp2_with fail
    refine (CT.out).mono ?_
    rintro e w1 ⟨rfl, h1, h2⟩
    have H1 := Lib.hid h1
    have H2 := Lib.hid h2
    clear h1 h2
    go_wp2_with fail
    go_ret
    exact ⟨rfl, H1.out, H2.out⟩
end Go.Proofs.YtjcphpmlekfhdaaGreatDoor

/- Steps on a disk, one after the other, up to the first error. No condition but that the steps do what they say. -/
namespace Go.Proofs.YtjcphpmlekfhdaaGreatDoor
open Go.RowKit

/-- One step after the other, up to the first error. -/
def seqS : List (Dk → Int × Dk) → Dk → Int × Dk
  | [], S => (0, S)
  | f :: l, S => if (f S).1 = 0 then seqS l (f S).2 else f S
def stepAt (l : List (Dk → Int × Dk)) (i : Nat) : Dk → Int × Dk := l.getD i fun S => (0, S)
/-- The disk ahead of the i-th step. -/
def stS (l : List (Dk → Int × Dk)) (S : Dk) : Nat → Dk
  | 0 => S
  | i + 1 => (stepAt l i (stS l S i)).2
theorem seqS_at (l : List (Dk → Int × Dk)) (S : Dk) : ∀ i, i ≤ l.length → (∀ j, j < i → (stepAt l j (stS l S j)).1 = 0) → seqS l S = seqS (l.drop i) (stS l S i)
  | 0, _, _ => rfl
  | i + 1, hi, h => by
    rw [seqS_at l S i (by omega) fun j hj => h j (by omega), List.drop_eq_getElem_cons (by omega : i < l.length), seqS]
    have e : stepAt l i = l[i]'(by omega) := by unfold stepAt; rw [List.getD_eq_getElem?_getD, List.getElem?_eq_getElem (by omega)]; rfl
    have h0 := h i (by omega)
    rw [e] at h0
    rw [if_pos h0, stS, e]
theorem seqS_ok {l : List (Dk → Int × Dk)} {S : Dk} (h : ∀ j, j < l.length → (stepAt l j (stS l S j)).1 = 0) : seqS l S = (0, stS l S l.length) := by
  rw [seqS_at l S l.length (Nat.le_refl _) h, List.drop_length]
  rfl
theorem seqS_err {l : List (Dk → Int × Dk)} {S : Dk} {i : Nat} (hi : i < l.length) (h : ∀ j, j < i → (stepAt l j (stS l S j)).1 = 0) (hk : (stepAt l i (stS l S i)).1 ≠ 0) : seqS l S = stepAt l i (stS l S i) := by
  rw [seqS_at l S i (by omega) h, List.drop_eq_getElem_cons hi, seqS]
  have e : stepAt l i = l[i] := by unfold stepAt; rw [List.getD_eq_getElem?_getD, List.getElem?_eq_getElem hi]; rfl
  rw [e] at hk ⊢
  rw [if_neg hk]
theorem Kept.trans' {X : Nat → Prop} {a b c : World} (h : Kept X a b) (k : Kept X b c) : Kept X a c := ⟨Nat.le_trans h.size k.size, fun i hi hlt => (k.blk i hi (Nat.lt_of_lt_of_le hlt h.size)).trans (h.blk i hi hlt)⟩
theorem Kept.same (X : Nat → Prop) (w : World) : Kept X w w := ⟨Nat.le_refl _, fun _ _ _ => rfl⟩

theorem inOrder_dk {A : Option Addr} {n c : Nat} {fs : List (Nat × Array Value)} {l : List (Dk → Int × Dk)} (hn : fs.length = n) (hl : l.length = n) (hn2 : n ≤ 1000) {w0 w : World} {d : Nat} {X : Nat → Prop} {S : Dk}
    (hrow : ∀ i, ∀ hi : i < fs.length, ∃ b o, A = some ⟨b, o, none⟩ ∧ X b ∧ b < w.heap.size ∧ w.cell? ⟨b, o + i, none⟩ = some (fnV fs[i]))
    (hent : ∀ i, ∀ hi : i < fs.length, ∀ args W, (callFunc fs[i].1 args).run Tryz.prog W = .ok (.enter fs[i].1 args) W)
    (hstep : ∀ i, ∀ hi : i < fs.length, ∀ W, Dp w0 d X (stS l S i) W → Kept X w W → Calls Tryz.prog fs[i].1 fs[i].2 W (StepP w0 d X W (stepAt l i (stS l S i)).1 (stepAt l i (stS l S i)).2))
    (D : Dp w0 d X S w) : Calls Tryz.prog 31 #[.slice A n c] w (StepP w0 d X w (seqS l S).1 (seqS l S).2) := by
  subst hn
  refine (inOrder_any rfl hn2 (fun i W => (∀ j, j < i → (stepAt l j (stS l S j)).1 = 0) ∧ Dp w0 d X (stS l S i) W ∧ Kept X w W) (fun k W => k = (seqS l S).1 ∧ Dp w0 d X (seqS l S).2 W ∧ Kept X w W) ?_ hent ?_ w ⟨fun j hj => absurd hj (Nat.not_lt_zero _), D, Kept.same _ _⟩).mono ?_
  · rintro i W ⟨_, _, hk⟩ hi
    obtain ⟨b, o, e, hX, hlt, hc⟩ := hrow i hi
    exact ⟨b, o, e, (hk.cell (a := ⟨b, o + i, none⟩) hX hlt).trans hc⟩
  · rintro i W ⟨hz, hD, hk⟩ hi
    refine (hstep i hi W hD hk).mono ?_
    rintro e W' ⟨rfl, h1, h2⟩
    refine ⟨_, rfl, ?_⟩
    by_cases h0 : (stepAt l i (stS l S i)).1 = 0
    · refine .inl ⟨h0, fun j hj => ?_, h1, hk.trans' h2⟩
      by_cases e : j = i
      · subst e; exact h0
      · exact hz j (by omega)
    · have e := seqS_err (by omega) hz h0
      exact .inr ⟨h0, by rw [e], by rw [e]; exact h1, hk.trans' h2⟩
  · rintro e W ⟨k, rfl, ⟨rfl, hz, h1, h2⟩ | ⟨_, rfl, h1, h2⟩⟩
    · have e := seqS_ok (l := l) (S := S) (by rw [hl]; exact hz)
      rw [hl] at e
      rw [e]
      exact ⟨rfl, h1, h2⟩
    · exact ⟨rfl, h1, h2⟩
end Go.Proofs.YtjcphpmlekfhdaaGreatDoor

/- The steps of a vault that begins. No condition but bounds on what is loose. -/
namespace Go.Proofs.YtjcphpmlekfhdaaGreatDoor
open Go.RowKit

section
variable {w0 w : World} {d bd bf : Nat} {X : Nat → Prop} {S S' : Dk} {A0 A1 : Option Addr} {n0 c0 n1 c1 : Nat} {x : Int}
theorem StepP.from {w w1 : World} {e : Ending} {W : World} (g : Below w.heap.size w w1) (h : StepP w0 d X w1 x S e W) : StepP w0 d X w x S e W :=
  ⟨h.1, h.2.1, (Kept.of_below g).trans' h.2.2⟩
set_option maxRecDepth 100000 in
set_option maxHeartbeats 1000000 in
theorem begin1_any (D : Dp w0 d X S w) (hn : S.cnt ≤ 1073741823) (hd : w.cell? ⟨bd, 0, none⟩ = some (.pointer (some ⟨d, 0, none⟩))) (h1 : w.cell? ⟨bf, 1, none⟩ = some (.slice A1 n1 c1)) (h : S.cutTo 1 n1 0 = (x, S')) :
    Calls Tryz.prog 73 #[.pointer (some ⟨bd, 0, none⟩), .pointer (some ⟨bf, 0, none⟩)] w (StepP w0 d X w x S') := by
  have CT := Lib.hid (cutTo_p (A := A1) (c := c1) D hn 1 h)
  clear D h hn
  go_enter Tryz.func73, Tryz.ntmps73
  go_wp2_with fail
  refine (CT.out).mono ?_
  rintro e w1 ⟨rfl, a1, a2⟩
  have H1 := Lib.hid a1
  have H2 := Lib.hid a2
  clear a1 a2
  go_wp2_with fail
  go_ret
  exact ⟨rfl, H1.out, H2.out⟩
set_option maxRecDepth 100000 in
set_option maxHeartbeats 1000000 in
theorem begin2_any (D : Dp w0 d X S w) (hn : S.cnt ≤ 1073741823) (hd : w.cell? ⟨bd, 0, none⟩ = some (.pointer (some ⟨d, 0, none⟩))) (h1 : w.cell? ⟨bf, 0, none⟩ = some (.slice A0 n0 c0)) (h : S.cutTo 0 n0 0 = (x, S')) :
    Calls Tryz.prog 74 #[.pointer (some ⟨bd, 0, none⟩), .pointer (some ⟨bf, 0, none⟩)] w (StepP w0 d X w x S') := by
  have CT := Lib.hid (cutTo_p (A := A0) (c := c0) D hn 0 h)
  clear D h hn
  go_enter Tryz.func74, Tryz.ntmps74
  go_wp2_with fail
  refine (CT.out).mono ?_
  rintro e w1 ⟨rfl, a1, a2⟩
  have H1 := Lib.hid a1
  have H2 := Lib.hid a2
  clear a1 a2
  go_wp2_with fail
  go_ret
  exact ⟨rfl, H1.out, H2.out⟩
set_option maxRecDepth 100000 in
set_option maxHeartbeats 1000000 in
theorem begin3_any (hLd : Laid w) (D : Dp w0 d X S w) (hn : S.cnt ≤ 1073741823) (hd : w.cell? ⟨bd, 0, none⟩ = some (.pointer (some ⟨d, 0, none⟩))) (h : S.write 1 (frontS 1 0) = (x, S')) :
    Calls Tryz.prog 75 #[.pointer (some ⟨bd, 0, none⟩)] w (StepP w0 d X w x S') := by
  have dl := D.lt
  have C1 : Calls Tryz.prog 47 #[.int .u64 1, .int .i64 0] w.drew (fun e w2 => ∃ A n c, e = .returned (.slice A n c) ∧ w2.cell? ⟨bd, 0, none⟩ = some (.pointer (some ⟨d, 0, none⟩)) ∧
      Hid (Calls Tryz.prog 41 #[.pointer (some ⟨d, 0, none⟩), .int .i64 1, .slice A n c] w2 (StepP w0 d X w x S'))) := by
    refine (head_any (g := 1) (n := 0) w.drew (hLd.later hLd.lt (Below.refl _ _).drew) (by decide) (by decide)).mono ?_
    rintro e w2 ⟨A, n, c, rfl, hc, O⟩
    have b2 : Below w.heap.size w w2 := (Below.refl _ _).drew.trans O.bel
    refine ⟨A, n, c, rfl, (b2.cell (p := ⟨bd, 0, none⟩) (World.block_lt_of_cell? _ _ hd)).trans hd, Lib.hid ?_⟩
    have hnl := O.len
    refine (write_p (D.later b2) hn 1 O.reads (fun _ a e q => ?_) hc O.cap (x := x) (S' := S') (by rw [h]) (by rw [h])).mono fun e W q => q.from b2
    have := (O.new a.block (by rw [e]; rfl)).1
    have e2 : w.drew.heap.size = w.heap.size := rfl
    omega
  have HC1 := Lib.hid C1
  clear D h hn C1 hLd dl
  go_enter Tryz.func75, Tryz.ntmps75
  go_wp2_with fail
  go_region_law (first
    | (go_simp; (with_reducible refine (HC1.out).mono ?_); rintro e w1 ⟨A, n, c, rfl, p1, C2⟩; go_simp)
    | (go_simp; (with_reducible refine (C2.out).mono ?_); rintro e W ⟨rfl, g1, g2⟩; have G1 := Lib.hid g1; have G2 := Lib.hid g2; clear g1 g2; go_simp))
  all_goals go_wp2_with fail
  all_goals go_returns
  all_goals exact ⟨rfl, G1.out, G2.out⟩
set_option maxRecDepth 100000 in
set_option maxHeartbeats 1000000 in
theorem begin4_any (D : Dp w0 d X S w) (hn : S.cnt ≤ 1073741823) (hd : w.cell? ⟨bd, 0, none⟩ = some (.pointer (some ⟨d, 0, none⟩))) (h : S.sync 1 = (x, S')) :
    Calls Tryz.prog 76 #[.pointer (some ⟨bd, 0, none⟩)] w (StepP w0 d X w x S') := by
  have CT := Lib.hid (sync_p D hn 1 (x := x) (S' := S') (by rw [h]) (by rw [h]))
  clear D h hn
  go_enter Tryz.func76, Tryz.ntmps76
  go_wp2_with fail
  refine (CT.out).mono ?_
  rintro e w1 ⟨rfl, a1, a2⟩
  have H1 := Lib.hid a1
  have H2 := Lib.hid a2
  clear a1 a2
  go_wp2_with fail
  go_ret
  exact ⟨rfl, H1.out, H2.out⟩
end
end Go.Proofs.YtjcphpmlekfhdaaGreatDoor

/- A vault made where none is found. No condition but bounds on what is loose. -/
namespace Go.Proofs.YtjcphpmlekfhdaaGreatDoor
open Go.RowKit

/-- A vault's cells. -/
def vtV (d : Nat) (file gen count : Nat) (failed : Bool) : List Value := [.pointer (some ⟨d, 0, none⟩), .int .i64 (file : Nat), .int .u64 (gen : Nat), .int .i64 (count : Nat), .bool failed]
/-- What Open leaves: an error; or a vault at a new block, beside the disk. -/
def OpenP (w0 : World) (d : Nat) (X : Nat → Prop) (w : World) (x : Int) (S : Dk) (file gen : Nat) (R : Value → World → Prop) (count : Nat) (e : Ending) (W : World) : Prop :=
  (x ≠ 0 ∧ e = .returned (.tuple #[.pointer none, .slice none 0 0, .int .i64 x]) ∧ Dp w0 d X S W ∧ Kept X w W) ∨
  (x = 0 ∧ ∃ v r, e = .returned (.tuple #[.pointer (some ⟨v, 0, none⟩), r, .int .i64 0]) ∧ w.heap.size ≤ v ∧ Ro W v 90 (vtV d file gen count false) ∧ R r W ∧ Dp w0 d (fun b => X b ∨ b = v) S W ∧ Kept X w W)
def beginL (n1 n0 : Nat) : List (Dk → Int × Dk) := [fun S => S.cutTo 1 n1 0, fun S => S.cutTo 0 n0 0, fun S => S.write 1 (frontS 1 0), fun S => S.sync 1]
theorem Dp.narrow {w0 w : World} {d : Nat} {X Y : Nat → Prop} {S : Dk} (D : Dp w0 d X S w) (h : ∀ b, Y b → X b) : Dp w0 d Y S w := by
  obtain ⟨F, D, q⟩ := D
  exact ⟨F, D, fun b hb => q b (h b hb)⟩
theorem Kept.narrow {w W : World} {X Y : Nat → Prop} (K : Kept X w W) (h : ∀ b, Y b → X b) : Kept Y w W := ⟨K.size, fun b hb => K.blk b (h b hb)⟩

theorem begin_steps {w0 w3 : World} {d bd bf bl : Nat} {Y : Nat → Prop} {S S' : Dk} {A0 A1 : Option Addr} {n0 c0 n1 c1 : Nat} {x : Int} (hLd : Laid w0) (D : Dp w0 d Y S w3) (y1 : Y bd) (y2 : Y bf) (y3 : Y bl)
    (hd : w3.cell? ⟨bd, 0, none⟩ = some (.pointer (some ⟨d, 0, none⟩))) (h0 : w3.cell? ⟨bf, 0, none⟩ = some (.slice A0 n0 c0)) (h1 : w3.cell? ⟨bf, 1, none⟩ = some (.slice A1 n1 c1))
    (hl : ∀ i, i < 4 → w3.cell? ⟨bl, 0 + i, none⟩ = some (([fnV (73, #[.pointer (some ⟨bd, 0, none⟩), .pointer (some ⟨bf, 0, none⟩)]), fnV (74, #[.pointer (some ⟨bd, 0, none⟩), .pointer (some ⟨bf, 0, none⟩)]), fnV (75, #[.pointer (some ⟨bd, 0, none⟩)]), fnV (76, #[.pointer (some ⟨bd, 0, none⟩)])] : List Value).getD i undef))
    (hn : ∀ i, i < 4 → (stS (beginL n1 n0) S i).cnt ≤ 1073741823) (h : seqS (beginL n1 n0) S = (x, S')) :
    Calls Tryz.prog 31 #[.slice (some ⟨bl, 0, none⟩) 4 4] w3 (StepP w0 d Y w3 x S') := by
  have lt := fun {a : Addr} {u : Value} (q : w3.cell? a = some u) => World.block_lt_of_cell? (w := w3) (a := a) q
  have key := inOrder_dk (A := some ⟨bl, 0, none⟩) (n := 4) (c := 4) (w := w3) (X := Y) (S := S) (w0 := w0) (d := d) (l := beginL n1 n0)
    (fs := [(73, #[.pointer (some ⟨bd, 0, none⟩), .pointer (some ⟨bf, 0, none⟩)]), (74, #[.pointer (some ⟨bd, 0, none⟩), .pointer (some ⟨bf, 0, none⟩)]), (75, #[.pointer (some ⟨bd, 0, none⟩)]), (76, #[.pointer (some ⟨bd, 0, none⟩)])]) rfl rfl (by decide) ?_ ?_ ?_ D
  · rw [h] at key
    exact key
  · intro i hi
    have hi4 : i < 4 := hi
    have := hl i hi4
    refine ⟨bl, 0, rfl, y3, lt this, this.trans ?_⟩
    have e : i = 0 ∨ i = 1 ∨ i = 2 ∨ i = 3 := by omega
    rcases e with rfl | rfl | rfl | rfl <;> rfl
  · intro i hi args W
    have hi4 : i < 4 := hi
    have e : i = 0 ∨ i = 1 ∨ i = 2 ∨ i = 3 := by omega
    rcases e with rfl | rfl | rfl | rfl
    · exact enters_of Tryz.func73 (by kernel_rfl) rfl args W
    · exact enters_of Tryz.func74 (by kernel_rfl) rfl args W
    · exact enters_of Tryz.func75 (by kernel_rfl) rfl args W
    · exact enters_of Tryz.func76 (by kernel_rfl) rfl args W
  · intro i hi W DW K
    have hi4 : i < 4 := hi
    have kd := (K.cell (a := ⟨bd, 0, none⟩) y1 (lt hd)).trans hd
    have k0 := (K.cell (a := ⟨bf, 0, none⟩) y2 (lt h0)).trans h0
    have k1 := (K.cell (a := ⟨bf, 1, none⟩) y2 (lt h1)).trans h1
    have ld := hLd.later hLd.lt DW.bel
    have e : i = 0 ∨ i = 1 ∨ i = 2 ∨ i = 3 := by omega
    rcases e with rfl | rfl | rfl | rfl
    · exact begin1_any DW (hn 0 (by decide)) kd k1 rfl
    · exact begin2_any DW (hn 1 (by decide)) kd k0 rfl
    · exact begin3_any ld DW (hn 2 (by decide)) kd rfl
    · exact begin4_any DW (hn 3 (by decide)) kd rfl

set_option maxRecDepth 100000 in
set_option maxHeartbeats 2000000 in
theorem vbegin_any {w0 w : World} {d : Nat} {X : Nat → Prop} {S S' : Dk} {A0 A1 : Option Addr} {n0 c0 n1 c1 : Nat} {x : Int} (hLd : Laid w0) (hX : ∀ b, X b → b < w.heap.size) (D : Dp w0 d X S w) (hn : ∀ i, i < 4 → (stS (beginL n1 n0) S i).cnt ≤ 1073741823) (h : seqS (beginL n1 n0) S = (x, S')) :
    Calls Tryz.prog 30 #[.pointer (some ⟨d, 0, none⟩), .agg #[.slice A0 n0 c0, .slice A1 n1 c1]] w (OpenP w0 d X w x S' 1 1 (fun r _ => r = .slice none 0 0) 0) := by
  obtain ⟨w3, hw3⟩ : ∃ w3, w3 = ((w.alloc (.cells #[.pointer (some ⟨d, 0, none⟩)] 26)).alloc (.cells #[.slice A0 n0 c0, .slice A1 n1 c1] 81)).alloc (.cells #[fnV (73, #[.pointer (some ⟨w.heap.size, 0, none⟩), .pointer (some ⟨w.heap.size + 1, 0, none⟩)]), fnV (74, #[.pointer (some ⟨w.heap.size, 0, none⟩), .pointer (some ⟨w.heap.size + 1, 0, none⟩)]), fnV (75, #[.pointer (some ⟨w.heap.size, 0, none⟩)]), fnV (76, #[.pointer (some ⟨w.heap.size, 0, none⟩)])] 54) := ⟨_, rfl⟩
  have b3 : Below w.heap.size w w3 := by
    rw [hw3]
    exact (((Below.refl _ w).alloc (Nat.le_refl _) _).alloc (by simp) _).alloc (by simp; omega) _
  have z3 : w3.heap.size = w.heap.size + 1 + 1 + 1 := by rw [hw3]; simp
  have R1 : Ro w3 w.heap.size 26 [.pointer (some ⟨d, 0, none⟩)] := by rw [hw3]; exact ((Ro.new w _ [.pointer (some ⟨d, 0, none⟩)]).alloc _).alloc _
  have R2 : Ro w3 (w.heap.size + 1) 81 [.slice A0 n0 c0, .slice A1 n1 c1] := by
    rw [hw3]
    have := (Ro.new (w.alloc (.cells #[.pointer (some ⟨d, 0, none⟩)] 26)) 81 [.slice A0 n0 c0, .slice A1 n1 c1])
    rw [World.size_alloc] at this
    exact this.alloc _
  have R3 : Ro w3 (w.heap.size + 1 + 1) 54 [fnV (73, #[.pointer (some ⟨w.heap.size, 0, none⟩), .pointer (some ⟨w.heap.size + 1, 0, none⟩)]), fnV (74, #[.pointer (some ⟨w.heap.size, 0, none⟩), .pointer (some ⟨w.heap.size + 1, 0, none⟩)]), fnV (75, #[.pointer (some ⟨w.heap.size, 0, none⟩)]), fnV (76, #[.pointer (some ⟨w.heap.size, 0, none⟩)])] := by
    rw [hw3]
    have := (Ro.new ((w.alloc (.cells #[.pointer (some ⟨d, 0, none⟩)] 26)).alloc (.cells #[.slice A0 n0 c0, .slice A1 n1 c1] 81)) 54 [fnV (73, #[.pointer (some ⟨w.heap.size, 0, none⟩), .pointer (some ⟨w.heap.size + 1, 0, none⟩)]), fnV (74, #[.pointer (some ⟨w.heap.size, 0, none⟩), .pointer (some ⟨w.heap.size + 1, 0, none⟩)]), fnV (75, #[.pointer (some ⟨w.heap.size, 0, none⟩)]), fnV (76, #[.pointer (some ⟨w.heap.size, 0, none⟩)])])
    rw [World.size_alloc, World.size_alloc] at this
    exact this
  have D3 : Dp w0 d (fun b => X b ∨ (w.heap.size ≤ b ∧ b < w3.heap.size)) S w3 := D.wide (Kept.of_below b3) (D.bel.trans (b3.mono D.bel.size)) fun b q => q
  have ST := Lib.hid (begin_steps (A0 := A0) (A1 := A1) (c0 := c0) (c1 := c1) hLd D3 (bd := w.heap.size) (bf := w.heap.size + 1) (bl := w.heap.size + 1 + 1) (.inr ⟨Nat.le_refl _, by omega⟩) (.inr ⟨by omega, by omega⟩) (.inr ⟨by omega, by omega⟩) (R1.cell rfl) (R2.cell rfl) (R2.cell rfl) (fun i hi => by
    have e : i = 0 ∨ i = 1 ∨ i = 2 ∨ i = 3 := by omega
    rcases e with rfl | rfl | rfl | rfl <;> exact R3.cell rfl) hn h)
  have HR1 := Lib.hid R1
  have HB3 := Lib.hid b3
  have Z3 := Lib.hid z3
  unfold fnV at hw3
  dsimp only at hw3
  clear R1 R2 R3 D3 b3 z3 hn h
  go_enter Tryz.func30, Tryz.ntmps30
  go_wp2_with fail
  rw [← hw3]
  clear hw3
  refine (ST.out).mono ?_
  rintro e w4 ⟨rfl, d4, k4⟩
  have zl : w.heap.size < w3.heap.size := by have := Z3.out; omega
  have kd : w4.cell? ⟨w.heap.size, 0, none⟩ = some (.pointer (some ⟨d, 0, none⟩)) := (k4.cell (a := ⟨w.heap.size, 0, none⟩) (Or.inr ⟨Nat.le_refl _, zl⟩) zl).trans (HR1.out.cell (k := 0) rfl)
  clear zl
  have D4 := Lib.hid d4
  have K4 := Lib.hid k4
  have zz : w3.heap.size ≤ w4.heap.size := k4.size
  have ZZ := Lib.hid zz
  clear d4 k4 zz
  by_cases hx : x = 0
  · subst hx
    have ba : Below w4.heap.size w4 (w4.alloc (.cells (vtV d 1 1 0 false).toArray 90)) := (Below.refl _ _).alloc (Nat.le_refl _) _
    have dv : Dp w0 d (fun b => X b ∨ b = w4.heap.size) S' (w4.alloc (.cells (vtV d 1 1 0 false).toArray 90)) := D4.out.wide (Kept.of_below ba) (D4.out.bel.trans (ba.mono D4.out.bel.size)) fun b q => by
      rcases q with q | q
      · exact .inl (.inl q)
      · exact .inr ⟨by omega, by rw [World.size_alloc]; omega⟩
    have DV := Lib.hid dv
    have BA := Lib.hid ba
    have RV := Lib.hid (Ro.new w4 90 (vtV d 1 1 0 false))
    clear dv ba
    go_wp2_with fail
    go_returns
    exact .inr ⟨rfl, w4.heap.size, .slice none 0 0, rfl, Nat.le_trans HB3.out.size ZZ.out, RV.out, rfl, DV.out, ((Kept.of_below HB3.out).trans' (K4.out.narrow fun b q => .inl q)).trans' (Kept.of_below BA.out)⟩
  · have t1 : (x != 0) = true := by rw [bne_iff_ne]; exact hx
    go_wp2_with fail
    go_returns
    exact .inl ⟨hx, rfl, D4.out.narrow fun b q => .inl q, (Kept.of_below HB3.out).trans' (K4.out.narrow fun b q => .inl q)⟩
end Go.Proofs.YtjcphpmlekfhdaaGreatDoor
