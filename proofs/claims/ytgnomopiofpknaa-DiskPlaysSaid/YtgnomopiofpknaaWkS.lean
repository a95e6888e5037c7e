/- The chapter's example, call by call. No memory but what a call leaves. No condition. -/
import Derived.Test.YtgnomopiofpknaaNew
namespace Go.Proofs.Ytgnomopiofpknaa
open Go.RowKit

def q0 : Dk := newD 10
def q1 : Dk := (q0.write 0 [97, 98, 99, 100]).2
def q3 : Dk := q1.goOff.2
def q5 : Dk := (q3.goOn [3]).2
def q6 : Dk := (q5.sync 0).2
def q7 : Dk := (q6.cut 0 1).2
def q8 : Dk := (q7.write 0 [120, 121]).2
def q9 : Dk := q8.goOff.2
def q10 : Dk := (q9.goOn [2]).2
def q12 : Dk := (q10.setFuse 1).2
def q13 : Dk := (q12.sync 0).2
def q14 : Dk := (q13.sync 0).2
def q16 : Dk := (q14.goOn []).2
theorem an1 : (q0.write 0 [97, 98, 99, 100]).1 = 0 ∧ q1.room = 6 ∧ q1.write 1 (List.replicate 7 0) = (7, q1) ∧ q1.goOff.1 = 0 ∧ q3.sync 0 = (8, q3) ∧ (q3.goOn [3]).1 = 0 ∧ q5.read 0 = ([97, 98, 99], 0) := by
  refine ⟨rfl, rfl, rfl, rfl, rfl, rfl, rfl⟩
theorem an2 : (q5.sync 0).1 = 0 ∧ (q6.cut 0 1).1 = 0 ∧ (q7.write 0 [120, 121]).1 = 0 ∧ q8.goOff.1 = 0 ∧ (q9.goOn [2]).1 = 0 ∧ q10.read 0 = ([97, 120], 0) := by
  refine ⟨rfl, rfl, rfl, rfl, rfl, rfl⟩
theorem an3 : q10.goOn [] = (3, q10) ∧ (q10.setFuse 1).1 = 0 ∧ (q12.sync 0).1 = 0 ∧ (q13.sync 0).1 = 8 ∧ q14.goOff = (8, q14) ∧ (q14.goOn []).1 = 0 ∧ q16.cut 0 3 = (1, q16) := by
  refine ⟨rfl, rfl, rfl, rfl, rfl, rfl, rfl⟩
/-- A disk of the law's own. -/
def Dq (w0 : World) (d : Nat) (S : Dk) (w : World) : Prop := ∃ F, Dsk w0 d F S w
section
variable {w0 w w1 W : World} {d : Nat} {S S' : Dk} {F : Nat → Prop}
theorem Dq.bel (D : Dq w0 d S w) : Below w0.heap.size w0 w := by obtain ⟨F, D⟩ := D; exact D.bel
theorem Dq.lt (D : Dq w0 d S w) : d < w.heap.size := by obtain ⟨F, D⟩ := D; exact D.at_.2.2
theorem Dq.later (D : Dq w0 d S w) (g : Below w.heap.size w w1) : Dq w0 d S w1 := by obtain ⟨F, D⟩ := D; exact ⟨F, D.later g⟩
theorem Did.q (h : Did w0 d F w S W) : Dq w0 d S W := ⟨_, h.dsk⟩
/-- A call's answer and state. -/
def Step (w0 : World) (d : Nat) (x : Int) (S : Dk) (e : Ending) (W : World) : Prop := e = .returned (.int .i64 x) ∧ Dq w0 d S W
theorem write_q (D : Dq w0 d S w) (hn : S.cnt ≤ 1073741823) (f : Int) {A : Option Addr} {n c : Nat} {L : List Nat} (hL : Bs w A n L) (hA : 0 < n → ∀ a, A = some a → a.block ≠ d) (hc : n ≤ c) (hcm : c ≤ 9223372036854775807) {x : Int} (hx : (S.write f L).1 = x) (hs : (S.write f L).2 = S') :
    Calls Try.prog 16 #[.pointer (some ⟨d, 0, none⟩), .int .i64 f, .slice A n c] w (Step w0 d x S') := by
  obtain ⟨F, D⟩ := D
  subst hx hs
  exact (write_any D hn f hL hA hc hcm).mono fun e W ⟨h1, h2⟩ => ⟨h1, h2.q⟩
theorem cut_q (D : Dq w0 d S w) (hn : S.cnt ≤ 1073741823) (f n : Int) {x : Int} (hx : (S.cut f n).1 = x) (hs : (S.cut f n).2 = S') :
    Calls Try.prog 23 #[.pointer (some ⟨d, 0, none⟩), .int .i64 f, .int .i64 n] w (Step w0 d x S') := by
  obtain ⟨F, D⟩ := D
  subst hx hs
  exact (cut_any D hn f n).mono fun e W ⟨h1, h2⟩ => ⟨h1, h2.q⟩
theorem sync_q (D : Dq w0 d S w) (hn : S.cnt ≤ 1073741823) (f : Int) {x : Int} (hx : (S.sync f).1 = x) (hs : (S.sync f).2 = S') :
    Calls Try.prog 15 #[.pointer (some ⟨d, 0, none⟩), .int .i64 f] w (Step w0 d x S') := by
  obtain ⟨F, D⟩ := D
  subst hx hs
  exact (sync_any D hn f).mono fun e W ⟨h1, h2⟩ => ⟨h1, h2.q⟩
theorem fuse_q (D : Dq w0 d S w) (n : Int) (hn : -9223372036854775808 ≤ n ∧ n ≤ 9223372036854775807) {x : Int} (hx : (S.setFuse n).1 = x) (hs : (S.setFuse n).2 = S') :
    Calls Try.prog 22 #[.pointer (some ⟨d, 0, none⟩), .int .i64 n] w (Step w0 d x S') := by
  obtain ⟨F, D⟩ := D
  subst hx hs
  exact (fuse_any D n hn).mono fun e W ⟨h1, h2⟩ => ⟨h1, h2.q⟩
theorem off_q (D : Dq w0 d S w) {x : Int} (hx : S.goOff.1 = x) (hs : S.goOff.2 = S') :
    Calls Try.prog 17 #[.pointer (some ⟨d, 0, none⟩)] w (Step w0 d x S') := by
  obtain ⟨F, D⟩ := D
  subst hx hs
  exact (off_any D).mono fun e W ⟨h1, h2⟩ => ⟨h1, h2.q⟩
theorem on_q0 (D : Dq w0 d S w) (hn : S.cnt ≤ 1073741823) (c : Nat) (hcm : c ≤ 9223372036854775807) {x : Int} (hx : (S.goOn []).1 = x) (hs : (S.goOn []).2 = S') :
    Calls Try.prog 18 #[.pointer (some ⟨d, 0, none⟩), .slice none 0 c] w (Step w0 d x S') := by
  obtain ⟨F, D⟩ := D
  subst hx hs
  exact (on_any D hn (Zs.nil w none) (fun h => absurd h (by omega)) (Nat.zero_le _) hcm).mono fun e W ⟨h1, h2⟩ => ⟨h1, h2.q⟩
/-- Picks in a block just made. -/
theorem on_q1 (D : Dq w0 d S w) (hn : S.cnt ≤ 1073741823) {z : Int} (hz : -9223372036854775808 ≤ z ∧ z ≤ 9223372036854775807) {x : Int} (hx : (S.goOn [z]).1 = x) (hs : (S.goOn [z]).2 = S') (T : TypeId) (fr : Nat × Nat) :
    Calls Try.prog 18 #[.pointer (some ⟨d, 0, none⟩), .slice (some ⟨w.heap.size, 0, none⟩) 1 1] (w.alloc (.cells #[.int .i64 z] T fr)) (Step w0 d x S') := by
  obtain ⟨F, D⟩ := D
  subst hx hs
  have hF : ¬ F w.heap.size := fun h => by
    obtain ⟨_, _, _, _, _, _, _, _, hL⟩ := D
    have := (hL _ h).2
    omega
  have g : Below w.heap.size w (w.alloc (.cells #[.int .i64 z] T fr)) := (Below.refl _ _).alloc (Nat.le_refl _) _
  refine (on_any (n := 1) (c := 1) (D.later g) hn (p := [z]) ⟨rfl, fun y hy => (by rw [List.mem_singleton] at hy; subst hy; exact hz), fun k hk => ⟨_, rfl, by simp, ?_⟩⟩ (fun _ a e => (by injection e with e; subst e; exact hF)) (Nat.le_refl _) (by decide)).mono fun e W ⟨h1, h2⟩ => ⟨h1, h2.q⟩
  obtain rfl : k = 0 := by omega
  have hh := heap_alloc_new w (.cells #[.int .i64 z] T fr)
  unfold World.cell?
  simp only [Addr.add, if_pos, hh]
  rfl
theorem room_q (D : Dq w0 d S w) {n : Nat} (hs : S.room = n) : Calls Try.prog 13 #[.pointer (some ⟨d, 0, none⟩)] w (Step w0 d (n : Nat) S) := by
  obtain ⟨F, D⟩ := D
  subst hs
  exact (room_any D).mono fun e W ⟨h1, h2⟩ => ⟨h1, F, D.later h2⟩
theorem stands_q (D : Dq w0 d S w) (hn : S.cnt ≤ 1073741823) (f : Int) {L : List Nat} {s : ByteArray} (hL : AllB L) (hs : s = strB L) (hr : S.read f = (L, 0)) :
    Calls Try.prog 19 #[.pointer (some ⟨d, 0, none⟩), .int .i64 f, .string s] w fun e W => e = .returned (.bool true) ∧ Dq w0 d S W := by
  obtain ⟨F, D⟩ := D
  subst hs
  have := stands_any D hn f hL
  rw [hr] at this
  simp only [true_and, and_self, decide_true] at this
  exact this.mono fun e W ⟨h1, h2⟩ => ⟨h1, F, D.later h2⟩
end
end Go.Proofs.Ytgnomopiofpknaa
